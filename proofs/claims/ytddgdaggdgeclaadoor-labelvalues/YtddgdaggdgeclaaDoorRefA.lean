/- The reference's own small functions: 'rotr32', 'k256', and a message with what is laid behind it: 'padded'. -/
import Derived.Test.YtddgdaggdgeclaaDoorShaP
import Derived.Deep.AppendLies
import Derived.Laws.AppendOwnNone
namespace Go.Proofs.YtddgdaggdgeclaaDoor.Sh
open Go Go.RowKit
attribute [local go_sem] u_xor u_and u_or u_add u_shl u_shr

theorem or_comm32 (a b : BitVec 32) : a ||| b = b ||| a := BitVec.or_comm a b
set_option maxHeartbeats 400000 in
theorem rrotr (x : BitVec 32) (k : Int) (h1 : 1 ≤ k) (h2 : k ≤ 31) (w : World) :
    Calls Tryd.prog 25 #[U x, .int .u64 k] w fun e w' => e = .returned (U (rotr x k.toNat)) ∧ w' = w := by
  obtain ⟨n, rfl⟩ := Int.eq_ofNat_of_zero_le (show 0 ≤ k by omega)
  have hw : IntKind.u64.wrap (32 - (n : Int)) = ((32 - n : Nat) : Int) := by rw [IntKind.wrap_u64]; omega
  have m1 : min n 32 = n := by omega
  have m2 : min (32 - n) 32 = 32 - n := by omega
  have HE : Hid (x >>> n ||| x <<< (32 - n) = rotr x n) := by unfold rotr; exact or_comm32 _ _
  go_enter Tryd.func25, Tryd.ntmps25
  go_wp2
  go_ret
  exact ⟨congrArg (fun y => Ending.returned (U y)) HE.out, rfl⟩

/-- The first k bytes of f. -/
def bl (f : Nat → BitVec 8) (k : Nat) : List Value := (List.range k).map fun i => B (f i)
theorem bl_length (f : Nat → BitVec 8) (k : Nat) : (bl f k).length = k := by simp [bl]
theorem bl_succ (f : Nat → BitVec 8) (k : Nat) : bl f (k + 1) = bl f k ++ [B (f k)] := by simp [bl, List.range_succ]
theorem bl_congr (f g : Nat → BitVec 8) (k : Nat) (h : ∀ i, i < k → f i = g i) : bl f k = bl g k := by
  unfold bl
  exact List.map_congr_left fun i hi => by rw [h i (by simpa using hi)]
theorem bl_one (f : Nat → BitVec 8) (k : Nat) : ∀ v ∈ bl f k, v.oneCell' = true := bytes_one k f
theorem bl_zero (f : Nat → BitVec 8) : bl f 0 = [] := rfl
/-- A row of the call's own: what has been gathered. -/
structure Own (w wr : World) (v : Value) (k : Nat) (f : Nat → BitVec 8) : Prop where
  below : Below w.heap.size w wr
  own : wr.ownsRow w.heap.size 5 1 v k (bl f k)
theorem Own.blk {w wr : World} {v : Value} {k : Nat} {f : Nat → BitVec 8} (h : Own w wr v k f) : ∀ b, v.ownBlock = some b → w.heap.size ≤ b := by
  intro b hb
  rcases h.own.2 with ⟨rfl, _⟩ | ⟨g, cap, cur, rfl, hg, _⟩
  · simp [Value.ownBlock] at hb
  · simp [Value.ownBlock] at hb; omega
theorem info_u8 : ∃ i, Tryd.prog.info? 5 = some i ∧ i.zero = some (.int .u8 0) ∧ i.size = 1 ∧ i.bytes = 1 := by
  have h1 : (Tryd.prog.info? 5).map (·.size) = some 1 := by kernel_rfl
  have h2 : (Tryd.prog.info? 5).map (·.bytes) = some 1 := by kernel_rfl
  have h3 : (Tryd.prog.info? 5).map (·.zero) = some (some (.int .u8 0)) := by kernel_rfl
  cases hq : Tryd.prog.info? 5 with
  | none => rw [hq] at h1; cases h1
  | some i =>
    rw [hq] at h1 h2 h3
    exact ⟨i, rfl, Option.some.inj h3, Option.some.inj h1, Option.some.inj h2⟩
theorem Own.alloc {w wr : World} {v : Value} {k : Nat} {f : Nat → BitVec 8} (h : Own w wr v k f) (o : Obj) : Own w (wr.alloc o) v k f :=
  ⟨h.below.alloc (by have := h.below.size; omega) o, h.own.alloc o⟩
theorem Own.drewN {w wr : World} {v : Value} {k : Nat} {f : Nat → BitVec 8} (h : Own w wr v k f) (n : Nat) : Own w (wr.drewN n) v k f :=
  ⟨below_drewN h.below n, h.own⟩
theorem Own.congr {w wr : World} {v : Value} {k : Nat} {f g : Nat → BitVec 8} (h : Own w wr v k f) (hg : ∀ i, i < k → f i = g i) : Own w wr v k g :=
  ⟨h.below, by rw [← bl_congr f g k hg]; exact h.own⟩
/-- append of bytes onto a row of the call's own. -/
theorem app_own {ops : Array Oper} {rest : List Oper} {o : Oper} {a : Act} {Q : Exit → Act → World → Prop} {w wr : World} (hgd : o.guard = none) (s x : Operand) (ho : o.op = .call { callee := .builtin .append, args := #[s, x], argTypes := #[30, 30] })
    (v : Value) (k : Nat) (f : Nat → BitVec 8) (hs : a.eval s = v) (h0 : Own w wr v k f) (ad : Addr) (m c : Nat) (hx : a.eval x = .slice (some ad) m c) (f' : Nat → BitVec 8) (hf : ∀ i, i < k → f i = f' i)
    (hg : ∀ i, i < m → wr.cell? (ad.add i) = some (B (f' (k + i)))) (hk : k + m ≤ 140737488355328)
    (h : ∀ v' w', Own w w' v' (k + m) f' → wr.heap.size ≤ w'.heap.size → wpList Tryd.prog ops Q rest (a.put o.dst v') w') : wpList Tryd.prog ops Q (o :: rest) a wr := by
  obtain ⟨i, hi, hz, hsz, hby⟩ := info_u8
  have hb := h0.below.size
  refine wpList_append_own_at wr hgd s x 30 ho w.heap.size 5 i (.int .u8 0) 1 1 Tryd.underlying30 hi hz hsz hby rfl (by decide) v k (bl f k) hs h0.own ad m c (bl (fun j => f' (k + j)) m) hx (by rw [bl_length]; omega) ?_ (bl_one _ _) (by unfold maxLen; omega) (by omega) hb ?_
  · intro j u hu
    obtain ⟨hj, hv⟩ := List.getElem?_eq_some_iff.1 hu
    rw [bl_length] at hj
    rw [hg j hj, ← hv]
    simp [bl]
  · intro v' w' h1 h2 h3 h4
    refine h v' w' ⟨h0.below.grown h2 hb (fun b hb' => h0.blk b hb'), ?_⟩ h2.size
    have e : bl f k ++ bl (fun j => f' (k + j)) m = bl f' (k + m) := by
      rw [bl_congr f f' k hf]
      apply List.ext_getElem?
      intro j
      by_cases hj : j < k
      · rw [List.getElem?_append_left (by rw [bl_length]; exact hj)]
        simp [bl, hj, show j < k + m by omega]
      · rw [List.getElem?_append_right (by rw [bl_length]; omega), bl_length]
        by_cases hj2 : j < k + m
        · simp [bl, show j - k < m by omega, hj2, show k + (j - k) = j by omega]
        · rw [List.getElem?_eq_none (by rw [bl_length]; omega), List.getElem?_eq_none (by rw [bl_length]; omega)]
    rw [← e]; exact h1
/-- n bytes behind a slice, nil or not. -/
def Src (w : World) (ad : Option Addr) (n cap : Nat) (m : Nat → BitVec 8) : Prop :=
  (n = 0 ∧ cap = 0) ∨ ∃ b off, ad = some ⟨b, off, none⟩ ∧ b < w.heap.size ∧ ∀ i, i < n → w.cell? ⟨b, off + i, none⟩ = some (B (m i))
theorem Src.below {w w' : World} {ad : Option Addr} {n cap B0 : Nat} {m : Nat → BitVec 8} (h : Src w ad n cap m) (hb : Below B0 w w') (hB : w.heap.size ≤ B0) : Src w' ad n cap m := by
  rcases h with h | ⟨b, off, rfl, hlt, hm⟩
  · exact .inl h
  · exact .inr ⟨b, off, rfl, Nat.lt_of_lt_of_le hlt hb.size, fun i hi => (hb.cell (p := ⟨b, off + i, none⟩) (Nat.lt_of_lt_of_le hlt hB)).trans (hm i hi)⟩
theorem Src.congr {w : World} {ad : Option Addr} {n cap : Nat} {m m' : Nat → BitVec 8} (h : Src w ad n cap m) (he : ∀ i, i < n → m i = m' i) : Src w ad n cap m' := by
  rcases h with h | ⟨b, off, rfl, hlt, hm⟩
  · exact .inl h
  · exact .inr ⟨b, off, rfl, hlt, fun i hi => (he i hi) ▸ hm i hi⟩
theorem Bytes.src {w : World} {v : Value} {n hb : Nat} {m : Nat → BitVec 8} (h : Bytes w v n m hb) : ∃ ad cap, v = .slice ad n cap ∧ Src w ad n cap m := by
  rcases h with ⟨⟨ad, rfl⟩, rfl⟩ | ⟨b, off, cap, rfl, _, hlt, _, hm⟩
  · exact ⟨ad, 0, rfl, .inl ⟨rfl, rfl⟩⟩
  · exact ⟨_, cap, rfl, .inr ⟨b, off, rfl, hlt, hm⟩⟩
/-- append of whatever bytes onto a row of the call's own. -/
theorem app_src {ops : Array Oper} {rest : List Oper} {o : Oper} {a : Act} {Q : Exit → Act → World → Prop} {w wr : World} (hgd : o.guard = none) (s x : Operand) (ho : o.op = .call { callee := .builtin .append, args := #[s, x], argTypes := #[30, 30] })
    (v : Value) (k : Nat) (f : Nat → BitVec 8) (hs : a.eval s = v) (h0 : Own w wr v k f) (ad : Option Addr) (m c : Nat) (hx : a.eval x = .slice ad m c) (f' : Nat → BitVec 8) (hf : ∀ i, i < k → f i = f' i)
    (hg : Src wr ad m c (fun i => f' (k + i))) (hk : k + m ≤ 140737488355328)
    (h : ∀ v' w', Own w w' v' (k + m) f' → wr.heap.size ≤ w'.heap.size → wpList Tryd.prog ops Q rest (a.put o.dst v') w') : wpList Tryd.prog ops Q (o :: rest) a wr := by
  rcases hg with ⟨rfl, rfl⟩ | ⟨b, off, rfl, _, hm⟩
  · cases ad with
    | some A => exact app_own hgd s x ho v k f hs h0 A 0 0 hx f' hf (fun i hi => absurd hi (Nat.not_lt_zero i)) hk h
    | none =>
    obtain ⟨i, hi, _⟩ := info_u8
    exact wpList_append_own_none hgd s x 30 ho w.heap.size 5 i 1 Tryd.underlying30 hi v k (bl f k) hs h0.own hx (h v wr (h0.congr hf) (Nat.le_refl _))
  · exact app_own hgd s x ho v k f hs h0 ⟨b, off, none⟩ m c hx f' hf (fun i hi => by rw [addr_add0]; exact hm i hi) hk h
end Go.Proofs.YtddgdaggdgeclaaDoor.Sh
