/- slices.Chunk of bytes: what its closure gives. -/
import Derived.Test.YtfnmdeekenjlgaaWsA
import Derived.RangeFuncNested
import Derived.RangeFuncBound
import Derived.RangeFuncCalls
import Derived.RangeFuncLeaves
import Derived.RangeFuncBox
import Derived.Shelf.Abstract
import Derived.Shelf.RegionOpen
import Derived.WalkKit
import Derived.OwnWalkIn
import Derived.TacticsInMore
import Derived.LoopNIn
import Derived.LoopIn
namespace Go.Proofs.Ytfnmdeekenjlgaa
open Go Go.RowKit Go.Shelf
set_option linter.unusedSimpArgs false
set_option linter.unusedVariables false
set_option maxRecDepth 100000
attribute [local go_sem] Oper.semAt_some

/-- The chunks' places. -/
abbrev Ix (m : Nat) := { k : Nat // k < m }
def upto (m : Nat) : Nat → List (Ix m)
  | 0 => []
  | k + 1 => if h : k < m then upto m k ++ [⟨k, h⟩] else upto m k
theorem upto_length (m : Nat) : ∀ k, k ≤ m → (upto m k).length = k
  | 0, _ => rfl
  | k + 1, h => by unfold upto; rw [dif_pos (by omega), List.length_append, upto_length m k (by omega)]; rfl
theorem upto_succ (m k : Nat) (h : k < m) : upto m (k + 1) = upto m k ++ [⟨k, h⟩] := by rw [upto, dif_pos h]
theorem upto_map (m : Nat) : ∀ k, k ≤ m → (upto m k).map (·.1) = List.range k
  | 0, _ => rfl
  | k + 1, h => by rw [upto_succ m k (by omega), List.map_append, upto_map m k (by omega), List.range_succ]; rfl
/-- What the closure reads again behind each round. -/
structure KC (Bs Bn : Nat) (W W' : World) : Prop where
  s : W'.heap[Bs]? = W.heap[Bs]?
  n : W'.heap[Bn]? = W.heap[Bn]?
theorem KC.refl (Bs Bn : Nat) (W : World) : KC Bs Bn W W := ⟨rfl, rfl⟩
theorem KC.trans {Bs Bn : Nat} {A B C : World} (h : KC Bs Bn A B) (k : KC Bs Bn B C) : KC Bs Bn A C := ⟨k.s.trans h.s, k.n.trans h.n⟩
theorem KC.put {Bs Bn D : Nat} (hs : Bs < D) (hn : Bn < D) (W : World) (l : Nat) (o o' : Obj) (hl : D ≤ l) (_ : W.heap[l]? = some o) (_ : o.isCells = false) (_ : o.isWalk = false) : KC Bs Bn W (W.putObj l o') := ⟨World.putObj_heap_other (by omega), World.putObj_heap_other (by omega)⟩
def chk (b o c : Nat) (k : Nat) : Value := .slice (some ⟨b, o + k * c, none⟩) c c
set_option maxHeartbeats 2000000 in
theorem chunk1_in (n : Nat) (l Bs Bn b off c m cap : Nat) (hc0 : 1 ≤ c) (hc1 : c ≤ 1000) (hm : m * c ≤ 1048576) (hcap : m * c ≤ cap) (J Jx : List (Ix m) → World → Prop) (hJ : ∀ s (A : World), J s A → J s A.drew)
    (hY : ∀ pre (x : Ix m) W, J pre W → pre.length < m → YieldAt Fence.wide (n - 1) Try.prog l #[chk b off c x.1] W fun e W' =>
      (e = .returned (.bool true) ∧ J (pre ++ [x]) W' ∧ KC Bs Bn W W') ∨ (e = .returned (.bool false) ∧ Jx (pre ++ [x]) W'))
    (W : World) (hBs : W.cell? ⟨Bs, 0, none⟩ = some (.slice (some ⟨b, off, none⟩) (m * c) cap)) (hBn : W.cell? ⟨Bn, 0, none⟩ = some (.int .i64 (c : Int))) (h0 : J [] W) :
    CallsIn Fence.wide n Try.prog 73 #[.func (.yield l) #[] #[], .pointer (some ⟨Bs, 0, none⟩), .pointer (some ⟨Bn, 0, none⟩)] W fun e W' => (∃ v, e = .returned v) ∧
      ((∃ ys, ys = upto m m ∧ J ys W') ∨ (∃ pre, True ∧ Jx pre W')) := by
  refine callsIn_of_wp Try.func73 rfl trivial ?_ rfl
  simp only [Try.ntmps73, List.size_toArray, List.length_cons, List.length_nil, Nat.reduceAdd, Nat.reduceSub, Array.replicate_succ, Array.replicate_zero, List.push_toArray, List.append_toArray, List.nil_append, List.cons_append]
  gi_wp2
  gi_loopw [4] (fun i wr => ∃ k : Nat, k ≤ m ∧ i = .int .i64 ((k * c : Nat) : Int) ∧ J (upto m k) wr ∧ KC Bs Bn W wr) (fun i _ => m * c - (intOf i).toNat)
  case atStart => exact ⟨0, Nat.zero_le _, by simp, h0, KC.refl _ _ _⟩
  case round =>
    obtain ⟨k, hk, rfl, hJs, hnx⟩ := hrel
    have hs1 : wr.cell? ⟨Bs, 0, none⟩ = some (.slice (some ⟨b, off, none⟩) (m * c) cap) := (World.cell?_of_block (a := ⟨Bs, 0, none⟩) hnx.s).trans hBs
    have hn1 : wr.cell? ⟨Bn, 0, none⟩ = some (.int .i64 (c : Int)) := (World.cell?_of_block (a := ⟨Bn, 0, none⟩) hnx.n).trans hBn
    by_cases hlt : k < m
    · have hle : k * c + c ≤ m * c := by
        have := Nat.mul_le_mul_right c (show k + 1 ≤ m from hlt)
        rw [Nat.add_mul] at this; omega
      obtain ⟨fn, tmps, assign, body, hy, hR⟩ := hY _ ⟨k, hlt⟩ wr.drew (hJ _ _ hJs) (by rw [upto_length m k hk]; exact hlt)
      have HR : Hid (RoundIn Fence.wide (n - 1) Try.prog l fn tmps assign body wr.drew fun e W' => (e = .returned (.bool true) ∧ J (upto m k ++ [⟨k, hlt⟩]) W' ∧ KC Bs Bn wr.drew W') ∨ (e = .returned (.bool false) ∧ Jx (upto m k ++ [⟨k, hlt⟩]) W')) := hR
      have HJ : Hid (J (upto m k) wr) := hJs
      clear hR hJs
      simp only [chk] at hy
      obtain ⟨K, hK⟩ : ∃ K, k * c = K := ⟨_, rfl⟩
      obtain ⟨M, hM⟩ : ∃ M, m * c = M := ⟨_, rfl⟩
      rw [hK] at hy ⊢ hle
      rw [hM] at hs1 hcap hm ⊢ hle
      have h1 : (K : Int) < (M : Int) := by omega
      have HK : Hid (k * c = K) := hK
      have HM : Hid (m * c = M) := hM
      clear hK hM
      have h2 : ¬ ((M - K : Nat) : Int) < (c : Int) := by omega
      have h3 : min (c : Int) ((M - K : Nat) : Int) = (c : Int) := by omega
      gi_wp2
      gi_region
      gi_wp2
      refine ⟨(fun e => by cases e), HR.out.mono ?_⟩
      rintro e W3 (⟨rfl, hJ3, hk3⟩ | ⟨rfl, hJx3⟩)
      · have hn3 : W3.cell? ⟨Bn, 0, none⟩ = some (.int .i64 (c : Int)) := (World.cell?_of_block (a := ⟨Bn, 0, none⟩) (w := wr.drew) hk3.n).trans hn1
        have hw3 : IntKind.i64.wrap ((K : Int) + (c : Int)) = ((K + c : Nat) : Int) := by rw [IntKind.wrap_i64]; omega
        gi_wp2
        go_roundw
        case rel => exact ⟨k + 1, hlt, by rw [Nat.add_mul, Nat.one_mul, HK.out]; rfl, by rw [upto_succ m k hlt]; exact hJ3, hnx.trans (KC.trans (B := wr.drew) ⟨rfl, rfl⟩ hk3)⟩
        case measure => simp [intOf]; omega
      · gi_wp2
        refine bodyPost_ret (results_none rfl _ _ _) rfl ?_
        exact ⟨⟨_, rfl⟩, .inr ⟨_, trivial, hJx3⟩⟩
    · obtain rfl : k = m := by omega
      have h1 : ¬ ((k * c : Nat) : Int) < ((k * c : Nat) : Int) := by omega
      gi_wp2
      go_end0
      exact ⟨⟨_, rfl⟩, .inl hJs⟩
set_option maxHeartbeats 1000000 in
theorem chunk1_nil_in (n l Bs Bn : Nat) (ad : Option Addr) (cap : Nat) (J : List (Ix 0) → World → Prop) (W : World) (hBs : W.cell? ⟨Bs, 0, none⟩ = some (.slice ad 0 cap)) (h0 : J [] W) :
    CallsIn Fence.wide n Try.prog 73 #[.func (.yield l) #[] #[], .pointer (some ⟨Bs, 0, none⟩), .pointer (some ⟨Bn, 0, none⟩)] W fun e W' => (∃ v, e = .returned v) ∧ J [] W' := by
  refine callsIn_of_wp Try.func73 rfl trivial ?_ rfl
  simp only [Try.ntmps73, List.size_toArray, List.length_cons, List.length_nil, Nat.reduceAdd, Nat.reduceSub, Array.replicate_succ, Array.replicate_zero, List.push_toArray, List.append_toArray, List.nil_append, List.cons_append]
  gi_wp2
  gi_loopw [4] (fun i wr => i = .int .i64 0 ∧ J [] wr ∧ wr = W) (fun _ _ => 0)
  case atStart => exact ⟨rfl, h0, rfl⟩
  case round =>
    obtain ⟨rfl, hJs, rfl⟩ := hrel
    gi_wp2
    go_end0
    exact ⟨⟨_, rfl⟩, hJs⟩
set_option maxHeartbeats 1000000 in
/-- slices.Chunk(s, n). -/
theorem chunk_in (n : Nat) (a : Option Addr) (len cap c : Nat) (hc0 : 1 ≤ c) (w : World) :
    CallsIn Fence.wide n Try.prog 63 #[.slice a len cap, .int .i64 (c : Int)] w fun e w' => e = .returned (.func (.func 73) #[] #[.pointer (some ⟨w.heap.size, 0, none⟩), .pointer (some ⟨w.heap.size + 1, 0, none⟩)]) ∧ w' = (w.alloc (.cells #[.slice a len cap] 34)).alloc (.cells #[.int .i64 (c : Int)] 3) := by
  have h1 : ¬ (c : Int) < 1 := by omega
  refine callsIn_of_wp Try.func63 rfl trivial ?_ rfl
  simp only [Try.ntmps63, List.size_toArray, List.length_cons, List.length_nil, Nat.reduceAdd, Nat.reduceSub, Array.replicate_succ, Array.replicate_zero, List.push_toArray, List.append_toArray, List.nil_append, List.cons_append]
  gi_wp2
  go_ret
  exact ⟨rfl, rfl⟩
/-- What slices.Chunk hands back gives the chunks, one behind the other. -/
theorem chunk_stops (n Bs Bn b off c m cap : Nat) (ad : Option Addr) (hc0 : 1 ≤ c) (hc1 : c ≤ 1000) (hm : m * c ≤ 1048576) (hcap : m * c ≤ cap) (had : 0 < m → ad = some ⟨b, off, none⟩) (w : World) (hs0 : Bs < w.heap.size) (hn0 : Bn < w.heap.size)
    (hBs : w.cell? ⟨Bs, 0, none⟩ = some (.slice ad (m * c) cap)) (hBn : w.cell? ⟨Bn, 0, none⟩ = some (.int .i64 (c : Int))) :
    SeqStopsK Fence.wide n Try.prog 73 #[.pointer (some ⟨Bs, 0, none⟩), .pointer (some ⟨Bn, 0, none⟩)] (fun x : Ix m => #[chk b off c x.1]) (KC Bs Bn) (fun ys => ys = upto m m) (fun _ => True) m w := fun l J Jx W hW hJ _ hY h0 => by
  have hs' := (hW.cell (p := ⟨Bs, 0, none⟩) hs0).trans hBs
  have hn' := (hW.cell (p := ⟨Bn, 0, none⟩) hn0).trans hBn
  cases m with
  | zero =>
    rw [Nat.zero_mul] at hs'
    exact (chunk1_nil_in n l Bs Bn ad cap J W hs' h0).mono fun e W' ⟨he, hj⟩ => ⟨he, .inl ⟨_, rfl, hj⟩⟩
  | succ m =>
    rw [had (by omega)] at hs'
    exact chunk1_in n l Bs Bn b off c (m + 1) cap hc0 hc1 hm hcap J Jx (fun s A hs => hJ s A A.drew none hs ⟨rfl, rfl, rfl, Nat.le_refl _, fun _ _ _ => rfl⟩ (fun r e => by cases e)) hY W hs' hn' h0
end Go.Proofs.Ytfnmdeekenjlgaa
