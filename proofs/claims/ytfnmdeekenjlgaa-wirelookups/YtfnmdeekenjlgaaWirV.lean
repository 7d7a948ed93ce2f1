/- What comes in as a slice of bytes. -/
import Derived.Test.YtfnmdeekenjlgaaRows
import Derived.Test.YtfnmdeekenjlgaaWirA
import Derived.ProofKit
import Derived.OpenShut
import Derived.ChangeOld
import Derived.SizedLaws
namespace Go.Proofs.Ytfnmdeekenjlgaa
open Go Go.ChangeShapes Go.WideShapes Go.ChangeAt Go.RowKit
set_option linter.unusedVariables false
set_option maxRecDepth 100000

theorem okWide_addr {W : World} {base : Nat} {x : Addr} {l c : Nat} {t e : TypeId} (hu : Try.prog.underlying t = some (.slice e)) (hv : Value.okWide Try.prog W .any base t (.slice (some x) l c)) : x.spot = none ∧ x.block < W.heap.size := by
  simp only [Value.okWide, hu, Cell.okWide, Cell.ok] at hv
  obtain ⟨_, _, _, hs, row, cells, hsh, _⟩ := hv
  refine ⟨hs, ?_⟩
  unfold World.shape? at hsh
  cases hg : W.heap[x.block]? with
  | none => rw [hg] at hsh; simp at hsh
  | some o => exact (Array.getElem?_eq_some_iff.1 hg).1
theorem byte_wf {n : Int} (h : (Lit.int .u8 n).wf = true) : 0 ≤ n ∧ n ≤ 255 := by
  simp only [Lit.wf, Bool.and_eq_true, decide_eq_true_eq] at h
  exact h
theorem sl_of {W : World} {b o l c : Nat} {zs : List Int} (hb : b < W.heap.size) (hl : l ≤ c) (hz : zs.length = c) (hcell : ∀ i, i < zs.length → W.cell? ((⟨b, o, none⟩ : Addr).add i) = some (.int .u8 (zs.getD i 0))) (hwz : ∀ n ∈ zs, (Lit.int .u8 n).wf = true) :
    Byt (zs.take l) ∧ (zs.take l).length = l ∧ Sl W (.slice (some ⟨b, o, none⟩) l c) (zs.take l) := by
  have hlen : (zs.take l).length = l := by rw [List.length_take]; omega
  refine ⟨fun z hz' => byte_wf (hwz z (List.mem_of_mem_take hz')), hlen, ⟨some ⟨b, o, none⟩, c, by rw [hlen], by rw [hlen]; exact hl, .inr ⟨b, o, rfl, hb, fun i hi => ?_⟩⟩⟩
  rw [hlen] at hi
  have h1 := hcell i (by omega)
  rw [addr_add0] at h1
  rw [h1]
  unfold gi
  simp only [List.getD_eq_getElem?_getD, List.getElem?_take, if_pos hi]
/-- A slice of bytes that came in. -/
theorem open_bytes {H : Type} {enc : TypeId × Value → H} {W : World} {base : Nat} {a : Option Addr} {l c : Nat} {d : DataW H} {p : List MemPlace} (hv : Value.okWide Try.prog W .any base 34 (.slice a l c))
    (h : DataW.Trod enc Try.prog W 0 (fun _ => true) true 34 (.slice a l c) d p) :
    ∃ xs, Byt xs ∧ xs.length = l ∧ Sl W (.slice a l c) xs ∧ ((d = .nil ∧ l = 0) ∨ ∃ es sp, d = .slice es sp ∧ es.length + sp.length = c ∧ l ≤ c) := by
  obtain ⟨fuel, hf⟩ := h
  rcases open_ints Try.underlying34 Try.underlying5 (by kernel_rfl) hf with ⟨hcs, hx⟩ | ⟨x, l', c', zs, hcs, _, hl, hm, hz, hx, hcell, hwz⟩
  · simp [Value.cells] at hcs
    obtain ⟨rfl, rfl, rfl⟩ := hcs
    exact ⟨[], Byt.nil, rfl, ⟨none, 0, rfl, Nat.le_refl _, .inl ⟨rfl, fun _ => rfl⟩⟩, .inl ⟨congrArg Prod.fst hx, rfl⟩⟩
  · simp [Value.cells] at hcs
    obtain ⟨rfl, rfl, rfl⟩ := hcs
    obtain ⟨hs, hb⟩ := okWide_addr Try.underlying34 hv
    obtain ⟨b, o, sp⟩ := x
    obtain rfl : sp = none := hs
    have hz' : zs.length = c := by simpa using hz
    obtain ⟨h1, h2, h3⟩ := sl_of hb hl hz' hcell hwz
    refine ⟨_, h1, h2, h3, .inr ⟨_, _, congrArg Prod.fst hx, ?_, hl⟩⟩
    simp only [lits, List.length_map, List.length_take, List.length_drop]; omega
end Go.Proofs.Ytfnmdeekenjlgaa
/- Numbers of bytes: numberOf, ReadNum, the reference's ReadNum. -/
namespace Go.Proofs.Ytfnmdeekenjlgaa
open Go Go.RowKit
set_option linter.unusedSimpArgs false
set_option linter.unusedVariables false

def nm (xs : List Int) : Int := xs.foldl (fun a x => bits .or .u64 (IntKind.u64.wrap (a * 256)) x) 0
theorem nm_snoc (xs : List Int) (k : Nat) (h : k < xs.length) : nm (xs.take (k + 1)) = bits .or .u64 (IntKind.u64.wrap (nm (xs.take k) * 256)) (gi xs k) := by
  unfold nm
  rw [List.take_succ_eq_append_getElem h, List.foldl_append]
  rw [gi_get h]; rfl
theorem ret_int {k : IntKind} {a b : Int} (h : a = b) : Ending.returned (.int k a) = .returned (.int k b) := by rw [h]
set_option maxHeartbeats 400000 in
theorem numberOf_any (xs : List Int) (v : Value) (w : World) (hb : Byt xs) (hs : Sl w v xs) (hl : xs.length ≤ 140737488355328) :
    Calls Try.prog 62 #[v] w fun e w' => e = .returned (.int .u64 (nm xs)) ∧ w' = w := by
  obtain ⟨ad, cap, rfl, hc, hx⟩ := hs
  have HX : Hid _ := hx
  clear hx
  have HB : Hid (Byt xs) := hb
  clear hb
  go_enter Try.func62, Try.ntmps62
  go_wp2
  go_loop [3, 8] (fun n i => ∃ k : Nat, k ≤ xs.length ∧ i = .int .i64 k ∧ n = .int .u64 (nm (xs.take k))) (fun _ i => xs.length - (intOf i).toNat)
  case atStart => exact ⟨0, Nat.zero_le _, rfl, rfl⟩
  case round =>
    obtain ⟨k, hk, rfl, rfl⟩ := hrel
    by_cases hlt : k < xs.length
    · have HS : Hid _ := nm_snoc xs k hlt
      obtain ⟨g1, g2⟩ := Byt.get HB.out hlt
      rcases HX.out with ⟨rfl, _⟩ | ⟨b, o, rfl, hlb, hm⟩
      · simp at hlt
      · have hc0 := hm k hlt
        clear hm
        go_wp2
        go_round
        case rel => exact ⟨k + 1, by omega, by go_num, by rw [HS.out]⟩
        case measure => simp [intOf]; omega
    · go_wp2
      go_ret
      exact ⟨ret_int (by rw [List.take_of_length_le (by omega)]), rfl⟩
end Go.Proofs.Ytfnmdeekenjlgaa
/- Numbers as bytes: appendNumber, Num, the reference's Num. -/
namespace Go.Proofs.Ytfnmdeekenjlgaa
open Go Go.RowKit
set_option linter.unusedSimpArgs false
set_option linter.unusedVariables false

/-- The byte at the place i of a number, from the least on. -/
def dg (n : Int) (i : Nat) : Int := n / 2 ^ (8 * i) % 256
/-- A number in s bytes, big-endian. -/
def be (s : Nat) (n : Int) : List Int := (List.range s).map fun t => dg n (s - 1 - t)
theorem be_length (s : Nat) (n : Int) : (be s n).length = s := by simp [be]
theorem be_snoc (s : Nat) (n : Int) (c : Nat) (h : c < s) : (be s n).take (c + 1) = (be s n).take c ++ [dg n (s - 1 - c)] := by
  rw [List.take_succ_eq_append_getElem (by rw [be_length]; exact h)]
  simp [be]
set_option maxHeartbeats 400000 in
theorem appendNumber_any (B0 : Nat) (xs : List Int) (n : Int) (s : Nat) (v : Value) (w : World) (h0 : Ow B0 w v xs) (hB : B0 ≤ w.heap.size) (hn : 0 ≤ n) (hn2 : n < 18446744073709551616) (hs : s ≤ 8) (hl : xs.length ≤ 140000000000000) :
    Calls Try.prog 52 #[v, .int .u64 n, .int .i64 (s : Int)] w fun e w' => ∃ v', e = .returned v' ∧ Ow B0 w' v' (xs ++ be s n) ∧ Gr w w' v v' := by
  have H0 : Hid (Ow B0 w v xs) := h0
  clear h0
  go_enter Try.func52, Try.ntmps52
  go_wp2
  go_loopw [0, 7] (fun b i wr => ∃ c : Nat, c ≤ s ∧ i = .int .i64 ((s : Int) - 1 - (c : Int)) ∧ Ow B0 wr b (xs ++ (be s n).take c) ∧ Gr w wr v b) (fun _ i _ => (1 + intOf i).toNat)
  case atStart => exact ⟨0, Nat.zero_le _, by go_num, by rw [List.take_zero, List.append_nil]; exact H0.out, Gr.refl _ _⟩
  case round =>
    obtain ⟨c, hc, rfl, h1, h2⟩ := hrel
    have H1 : Hid (Ow B0 _ _ _) := h1
    have H2 : Hid (Gr _ _ _ _) := h2
    clear h1 h2
    by_cases hlt : c < s
    · have HS : Hid _ := be_snoc s n c hlt
      have hpos : 0 ≤ (s : Int) - 1 - (c : Int) := by omega
      have hz : Hid (B0 ≤ wr.heap.size) := Nat.le_trans hB H2.out.grown.size
      have hln : Hid ((xs ++ (be s n).take c).length + 1 ≤ 140737488355328) := by
        show (xs ++ (be s n).take c).length + 1 ≤ 140737488355328
        rw [List.length_append, List.length_take]; omega
      go_wp2_with (at_builtin; refine app_u8 rfl (.tmp 14) (.tmp 20) rfl (by simpa using Nat.le_succ_of_le hz.out) u0 (xs ++ (be s n).take c) rfl (H1.out.alloc _) _ rfl [dg n (s - 1 - c)] (Sl.one _ _ _) hln.out ?_; intro v1 w1 hv1 hg1 hb1 hbl1; have G1 : Hid (Ow B0 w1 v1 (xs ++ (be s n).take (c + 1))) := (by rw [HS.out, ← List.append_assoc]; exact hv1); have G2 : Hid (Gr w w1 v v1) := (H2.out.alloc _).step hg1 hbl1; clear hv1 hg1 hb1 hbl1)
      go_roundw
      case rel => exact ⟨c + 1, hlt, by go_num, G1.out, G2.out⟩
      case measure => simp [intOf]; omega
    · obtain rfl : c = s := by omega
      go_wp2
      go_ret
      exact ⟨_, rfl, by have h := H1.out; rw [List.take_of_length_le (by rw [be_length]; omega)] at h; exact h, H2.out⟩
set_option maxHeartbeats 400000 in
/-- A number in 8 bytes. -/
theorem num_any (n : Int) (w : World) (hn : 0 ≤ n) (hn2 : n < 18446744073709551616) :
    Calls Try.prog 20 #[.int .u64 n] w fun e w' => ∃ v', e = .returned v' ∧ Ow w.heap.size w' v' (be 8 n) ∧ Below w.heap.size w w' := by
  go_enter Try.func20, Try.ntmps20
  go_wp2_with (first
    | (at_make; refine make_u8 _ rfl _ _ rfl .i64 .i64 8 8 rfl rfl rfl (by omega) ?_; intro w1 h1 h2; have H1 : Hid (Ow w.heap.size w1 _ []) := h1; have H2 : Hid (Below w.heap.size w w1) := h2; clear h1 h2)
    | (go_at_call 52; refine (appendNumber_any w.heap.size [] n 8 _ _ H1.out H2.out.size hn hn2 (by omega) (by simp)).mono ?_; rintro e w2 ⟨v2, rfl, h3, h4⟩; have H3 : Hid (Ow w.heap.size w2 v2 (be 8 n)) := h3; have H4 : Hid (Below w.heap.size w w2) := H2.out.trans (h4.below H2.out.size (fun b e => H1.out.blk b e)); clear h3 h4))
  go_ret
  exact ⟨_, rfl, H3.out, H4.out⟩
set_option maxHeartbeats 400000 in
/-- The reference's number in 8 bytes. -/
theorem rnum_any (n : Int) (w : World) (hn : 0 ≤ n) (hn2 : n < 18446744073709551616) :
    Calls Try.prog 26 #[.int .u64 n] w fun e w' => ∃ v', e = .returned v' ∧ Ow w.heap.size w' v' (be 8 n) ∧ Below w.heap.size w w' := by
  go_enter Try.func26, Try.ntmps26
  go_wp2_with (at_make; refine make_full _ rfl _ _ rfl .i64 .i64 8 8 8 rfl rfl rfl rfl (by omega) ?_; intro w1 h1 h2; have H1 : Hid (Ow w.heap.size w1 _ (List.replicate 8 0)) := h1; have H2 : Hid (Below w.heap.size w w1) := h2; clear h1 h2)
  obtain ⟨g, hg⟩ : ∃ g, w.heap.size = g := ⟨_, rfl⟩
  have HG : Hid (w.heap.size = g) := hg
  rw [hg] at H1 H2 ⊢
  clear hg
  go_loopw [6] (fun i wr => ∃ k : Nat, k ≤ 8 ∧ i = .int .i64 (k : Int) ∧ Ow g wr (.slice (some ⟨g, 0, none⟩) 8 8) ((be 8 n).take k ++ List.replicate (8 - k) 0) ∧ Below g w wr) (fun i _ => (8 - intOf i).toNat)
  case atStart => exact ⟨0, by omega, rfl, H1.out, H2.out⟩
  case round =>
    obtain ⟨k, hk, rfl, h1, h2⟩ := hrel
    have H3 : Hid (Ow g wr _ ((be 8 n).take k ++ List.replicate (8 - k) 0)) := h1
    have H4 : Hid (Below g w wr) := h2
    clear h1 h2
    by_cases hlt : k < 8
    · have HS : Hid (((be 8 n).take k ++ List.replicate (8 - k) 0).set k (dg n (7 - k)) = (be 8 n).take (k + 1) ++ List.replicate (8 - (k + 1)) 0) := by
        show ((be 8 n).take k ++ List.replicate (8 - k) 0).set k (dg n (7 - k)) = (be 8 n).take (k + 1) ++ List.replicate (8 - (k + 1)) 0
        rw [be_snoc 8 n k hlt, List.set_append_right k _ (by rw [List.length_take, be_length]; omega)]
        rw [List.length_take, be_length, show min k 8 = k by omega, Nat.sub_self, show 8 - k = (8 - (k + 1)) + 1 by omega, List.replicate_succ, List.set_cons_zero]
        simp
      obtain ⟨hc0, hf0⟩ := H3.out.cell (j := k) (by rw [List.length_append, List.length_take, be_length, List.length_replicate]; omega)
      have gk : (k : Int) ≤ 7 := by omega
      have HD : Hid (n / 2 ^ (56 - 8 * k) % 256 = dg n (7 - k)) := by
        show n / 2 ^ (56 - 8 * k) % 256 = n / 2 ^ (8 * (7 - k)) % 256
        rw [show 56 - 8 * k = 8 * (7 - k) by omega]
      go_wp2
      obtain ⟨s1, s2⟩ := H3.out.set k (dg n (7 - k))
      rw [HS.out] at s1
      rw [HD.out]
      refine ⟨⟨k + 1, hlt, by go_num, s1, H4.out.trans ?_⟩, by simp [intOf]; omega⟩
      exact (Below.refl g wr).grown s2 (by rw [← HG.out]; exact H4.out.size) (fun b e => by cases e; exact Nat.le_refl _)
    · obtain rfl : k = 8 := by omega
      rw [← HG.out] at H3 H4 ⊢
      go_wp2
      go_ret
      exact ⟨_, rfl, by have h := H3.out; rw [List.take_of_length_le (by rw [be_length]; omega)] at h; simpa using h, H4.out⟩
end Go.Proofs.Ytfnmdeekenjlgaa
