/- Package wire: leavesBytes, linksBytes, devicesBytes, nodesBytes. -/
import Derived.Test.YtfnmdeekenjlgaaWsA
namespace Go.Proofs.Ytfnmdeekenjlgaa
open Go Go.RowKit
set_option linter.unusedSimpArgs false
set_option linter.unusedVariables false
set_option maxRecDepth 100000

theorem fm_snoc {α : Type} (f : α → List Int) {ls : List α} {k : Nat} {x : α} (h : ls[k]? = some x) : (ls.take (k + 1)).flatMap f = (ls.take k).flatMap f ++ f x := by
  rw [List.take_add_one, h]; simp
theorem fm_len {α : Type} (f : α → List Int) (c : Nat) : ∀ {ls : List α}, (∀ x ∈ ls, (f x).length = c) → (ls.flatMap f).length = ls.length * c
  | [], _ => by simp
  | a :: r, h => by
    have ih := fm_len f c (ls := r) (fun x hx => h x (List.mem_cons_of_mem _ hx))
    rw [List.flatMap_cons, List.length_append, ih, h a List.mem_cons_self, List.length_cons, Nat.add_mul]; omega
theorem ow_ge {B : Nat} {w : World} {v : Value} {xs : List Int} (h : Ow B w v xs) {E : Nat} (hE : w.heap.size ≤ E) : v.ownBlock ≠ some E := fun e => by
  have := h.lt E e
  omega
def lfb (x : Lf) : List Int := x.p ++ x.q
def lkb (x : Lk) : List Int := x.o ++ (x.n ++ x.q)
def ndb (x : Nd) : List Int := be 2 x.n ++ (x.p ++ x.h)
theorem lfb_len {x : Lf} (h : x.Ok) : (lfb x).length = 64 := by simp [lfb, h.p.len, h.q.len]
theorem lkb_len {x : Lk} (h : x.Ok) : (lkb x).length = 96 := by simp [lkb, h.o.len, h.n.len, h.q.len]
theorem ndb_len {x : Nd} (h : x.Ok) : (ndb x).length = 66 := by simp [ndb, be_length, h.p.len, h.h.len]
theorem idb_len {x : List Int} (h : L32 x) : (id x).length = 32 := h.len
theorem bv32_len {x : List Int} (h : L32 x) : (bv x).length = 32 := by rw [bv_length]; exact h.len
theorem l32_one {x : List Int} (h : L32 x) : (Try.prog.info? 23).map (·.size) = some (bv x).length := size_l32 h
set_option maxHeartbeats 4000000 in
theorem leavesBytes_any (ls : List Lf) (hk : ∀ x ∈ ls, x.Ok) (hlen : ls.length * 64 ≤ 140737488351232) (v : Value) (w : World) (hv : LS w v ls) :
    Calls Try.prog 40 #[v] w fun e w' => ∃ v', e = .returned v' ∧ Ow w.heap.size w' v' (ls.flatMap lfb) ∧ Below w.heap.size w w' := by
  obtain ⟨ad, cap, rfl, hc, hx⟩ := hv
  have HXX : Hid ((ls = [] ∧ (ad = none → cap = 0)) ∨ ∃ b o, ad = some ⟨b, o, none⟩ ∧ b < w.heap.size ∧ ∀ (i : Nat) (x : Lf), ls[i]? = some x → w.rangeAt b (o + i * 64) (lfc x)) := hx
  have HK : Hid (∀ x ∈ ls, x.Ok) := hk
  have HC : Hid (∀ k, ((ls.take k).flatMap lfb).length ≤ 140737488351232) := fun k => by
    show _ ≤ _
    rw [fm_len lfb 64 (fun x hx => lfb_len (hk x (List.mem_of_mem_take hx))), List.length_take]
    exact Nat.le_trans (Nat.mul_le_mul_right _ (Nat.min_le_right _ _)) hlen
  obtain ⟨n, hn⟩ : ∃ n, ls.length = n := ⟨_, rfl⟩
  have HN : Hid (ls.length = n) := hn
  rw [hn] at hc hlen ⊢
  obtain ⟨C, hC⟩ : ∃ C, n * 64 = C := ⟨_, rfl⟩
  have hw1 : IntKind.i64.wrap (64 * (n : Int)) = (C : Int) := by rw [IntKind.wrap_i64]; omega
  have hC9 : C ≤ 140737488355328 := by omega
  have hz := zero_lf
  obtain ⟨Z, hZ⟩ : ∃ Z, (lfc lfz).toArray = Z := ⟨_, rfl⟩
  have HZS : Hid (Z.size = 64) := by show Z.size = 64; rw [← hZ, List.size_toArray]; exact lfc_length lfz_ok
  rw [hZ] at hz
  clear hx hk hn hC hZ
  go_enter Try.func40, Try.ntmps40
  go_wp2_with (at_make; refine make_u8 w rfl _ _ rfl .i64 .i64 (C : Int) C rfl rfl rfl hC9 ?_; intro w0 h1 h2; have O0 : Hid (Ow w.heap.size w0 (.slice (some ⟨w.heap.size, 0, none⟩) 0 C) []) := h1; have B0 : Hid (Below w.heap.size w w0) := h2; clear h1 h2)
  clear hw1
  go_loopw [3, 12] (fun ov i wr => ∃ k : Nat, k ≤ n ∧ i = .int .i64 (k : Int) ∧ Ow w.heap.size wr ov ((ls.take k).flatMap lfb) ∧ Below w.heap.size w wr) (fun _ i _ => n - (intOf i).toNat)
  case atStart => exact ⟨0, Nat.zero_le _, rfl, O0.out, B0.out⟩
  case round =>
    obtain ⟨k, hkn, rfl, h1, h2⟩ := hrel
    have O1 : Hid (Ow w.heap.size wr u3 ((ls.take k).flatMap lfb)) := h1
    have B1 : Hid (Below w.heap.size w wr) := h2
    clear h1 h2
    by_cases hlt : k < n
    · obtain ⟨x, hx⟩ : ∃ x, ls[k]? = some x := ⟨ls[k]'(by rw [HN.out]; exact hlt), List.getElem?_eq_getElem (by rw [HN.out]; exact hlt)⟩
      have HX : Hid (x.Ok) := HK.out x (List.mem_of_getElem? hx)
      have HSN : Hid ((ls.take (k + 1)).flatMap lfb = (ls.take k).flatMap lfb ++ lfb x) := fm_snoc lfb hx
      rcases HXX.out with ⟨h0, _⟩ | ⟨b, o, rfl, hlb, hm⟩
      · rw [h0] at hx; simp at hx
      · have HRX : Hid (wr.rangeAt b (o + k * 64) (lfc x)) := range_below (hm k x hx) B1.out hlb
        have HCK := HC.out k
        obtain ⟨L0, hL0⟩ : ∃ L, (ls.take k).flatMap lfb = L := ⟨_, rfl⟩
        rw [hL0] at HSN O1 HCK
        have HL0 : Hid (L0.length ≤ 140737488351232) := HCK
        obtain ⟨X, hX⟩ : ∃ X, (lfc x).toArray = X := ⟨_, rfl⟩
        have HXA : Hid ((lfc x).toArray = X) := hX
        clear hm hlb hx hL0 HCK
        go_upto_region 5 with (first
          | (refine load_g rfl 84 (.tmp 14) rfl b (o + k * 64) rfl (lfc x) _ HRX.out Try.underlying84 rfl (size_lfc HX.out) ?_; rw [hX])
          | (refine wpList_store_mid rfl 84 (.tmp 5) (.tmp 15) rfl wr.heap.size 0 (lfc x).toArray rfl (by rw [HXA.out]; rfl) (there_new wr (by rw [List.size_toArray, lfc_length HX.out, HZS.out])) (by rw [List.size_toArray]; exact size_lfc HX.out) (lfc_one x) ?_; simp only [List.toList_toArray]))
        obtain ⟨U0, hU⟩ : ∃ U, (wr.alloc (.cells Z 84)).setCells wr.heap.size 0 (lfc x) = U := ⟨_, rfl⟩
        rw [hU]
        obtain ⟨r1, r2, r3⟩ := laid_row (by rw [lfc_length HX.out, HZS.out]) (by rw [lfc_length HX.out]; omega) hU
        obtain ⟨E, hE⟩ : ∃ E, wr.heap.size = E := ⟨_, rfl⟩
        have HEW : Hid (wr.heap.size ≤ E) := by show _ ≤ _; omega
        rw [hE] at r1 r3 ⊢
        have RE0 : Hid (U0.rangeAt E 0 (lfc x)) := r1
        have LE0 : Hid (E < U0.heap.size) := r3
        have C0 : Hid (Below w.heap.size w U0) := B1.out.trans (r2.mono B1.out.size)
        have P0 : Hid (Ow w.heap.size U0 u3 L0) := O1.out.below r2
        have N0 : Hid (u3.ownBlock ≠ some E) := ow_ge O1.out HEW.out
        clear r1 r2 r3 hU hX hE
        have SX0 : Hid (Sl U0 (.slice (some ⟨E, 0, none⟩) 32 32) x.p) := sl_range HX.out.p (lf_p RE0.out) LE0.out
        have HB0 : Hid (L0.length + (x.p).length ≤ 140737488355328) := by show _ ≤ _; have h1 := HL0.out; have h2 := (HX.out.p).len; omega
        go_upto_region 6 with (at_builtin; refine app_u8 (B0 := w.heap.size) rfl (.tmp 16) (.tmp 18) rfl C0.out.size u3 L0 rfl P0.out (.slice (some ⟨E, 0, none⟩) 32 32) rfl (x.p) SX0.out HB0.out ?_; intro v1 U1 q1 q2 q3 q4; have P1 : Hid (Ow w.heap.size U1 v1 (L0 ++ x.p)) := q1; have C1 : Hid (Below w.heap.size w U1) := C0.out.trans q3; have RE1 : Hid (U1.rangeAt E 0 (lfc x)) := range_keep RE0.out (q2.block E LE0.out (fun e => N0.out e.symm)); have LE1 : Hid (E < U1.heap.size) := Nat.lt_of_lt_of_le LE0.out q2.size; have N1 : Hid (v1.ownBlock ≠ some E) := (by rcases q4 with q | q; rw [q]; exact N0.out; rw [q]; intro e; have h1 := LE0.out; cases e; omega); clear q1 q2 q3 q4)
        obtain ⟨L1, hL1⟩ : ∃ L, L0 ++ x.p = L := ⟨_, rfl⟩
        have HL1 : Hid (L1.length ≤ 140737488351264) := by rw [← hL1]; show _ ≤ _; rw [List.length_append]; have h1 := HL0.out; have h2 := (HX.out.p).len; omega
        have HE1 : Hid (L0 ++ x.p = L1) := hL1
        rw [hL1] at P1
        clear hL1
        have SX1 : Hid (Sl U1 (.slice (some ⟨E, 32, none⟩) 32 32) x.q) := sl_range HX.out.q (by have := lf_q HX.out.p RE1.out; rwa [Nat.zero_add] at this) LE1.out
        have HB1 : Hid (L1.length + (x.q).length ≤ 140737488355328) := by show _ ≤ _; have h1 := HL1.out; have h2 := (HX.out.q).len; omega
        go_wp2_with (at_builtin; refine app_u8 (B0 := w.heap.size) rfl (.tmp 20) (.tmp 22) rfl C1.out.size v1 L1 rfl P1.out (.slice (some ⟨E, 32, none⟩) 32 32) rfl (x.q) SX1.out HB1.out ?_; intro v2 U2 q1 q2 q3 q4; have P2 : Hid (Ow w.heap.size U2 v2 (L1 ++ x.q)) := q1; have C2 : Hid (Below w.heap.size w U2) := C1.out.trans q3; have RE2 : Hid (U2.rangeAt E 0 (lfc x)) := range_keep RE1.out (q2.block E LE1.out (fun e => N1.out e.symm)); have LE2 : Hid (E < U2.heap.size) := Nat.lt_of_lt_of_le LE1.out q2.size; have N2 : Hid (v2.ownBlock ≠ some E) := (by rcases q4 with q | q; rw [q]; exact N1.out; rw [q]; intro e; have h1 := LE1.out; cases e; omega); clear q1 q2 q3 q4)
        obtain ⟨L2, hL2⟩ : ∃ L, L1 ++ x.q = L := ⟨_, rfl⟩
        have HL2 : Hid (L2.length ≤ 140737488351296) := by rw [← hL2]; show _ ≤ _; rw [List.length_append]; have h1 := HL1.out; have h2 := (HX.out.q).len; omega
        have HE2 : Hid (L1 ++ x.q = L2) := hL2
        rw [hL2] at P2
        clear hL2
        exact ⟨⟨k + 1, hlt, by go_num, by rw [HSN.out]; have e : L0 ++ lfb x = L2 := by rw [← HE2.out, ← HE1.out]; simp [lfb]
                                          rw [e]; exact P2.out, C2.out⟩, by simp [intOf]; omega⟩
    · obtain rfl : k = n := by omega
      have HT : Hid (ls.take k = ls) := by show _ = _; rw [← HN.out, List.take_length]
      have O9 : Hid (Ow w.heap.size wr u3 (ls.flatMap lfb)) := by have := O1.out; rw [HT.out] at this; exact this
      go_wp2_with fail
      go_ret
      exact ⟨_, rfl, O9.out, B1.out⟩
set_option maxHeartbeats 4000000 in
theorem linksBytes_any (ls : List Lk) (hk : ∀ x ∈ ls, x.Ok) (hlen : ls.length * 96 ≤ 140737488351232) (v : Value) (w : World) (hv : KS w v ls) :
    Calls Try.prog 41 #[v] w fun e w' => ∃ v', e = .returned v' ∧ Ow w.heap.size w' v' (ls.flatMap lkb) ∧ Below w.heap.size w w' := by
  obtain ⟨ad, cap, rfl, hc, hx⟩ := hv
  have HXX : Hid ((ls = [] ∧ (ad = none → cap = 0)) ∨ ∃ b o, ad = some ⟨b, o, none⟩ ∧ b < w.heap.size ∧ ∀ (i : Nat) (x : Lk), ls[i]? = some x → w.rangeAt b (o + i * 96) (lkc x)) := hx
  have HK : Hid (∀ x ∈ ls, x.Ok) := hk
  have HC : Hid (∀ k, ((ls.take k).flatMap lkb).length ≤ 140737488351232) := fun k => by
    show _ ≤ _
    rw [fm_len lkb 96 (fun x hx => lkb_len (hk x (List.mem_of_mem_take hx))), List.length_take]
    exact Nat.le_trans (Nat.mul_le_mul_right _ (Nat.min_le_right _ _)) hlen
  obtain ⟨n, hn⟩ : ∃ n, ls.length = n := ⟨_, rfl⟩
  have HN : Hid (ls.length = n) := hn
  rw [hn] at hc hlen ⊢
  obtain ⟨C, hC⟩ : ∃ C, n * 96 = C := ⟨_, rfl⟩
  have hw1 : IntKind.i64.wrap (96 * (n : Int)) = (C : Int) := by rw [IntKind.wrap_i64]; omega
  have hC9 : C ≤ 140737488355328 := by omega
  have hz := zero_lk
  obtain ⟨Z, hZ⟩ : ∃ Z, (lkc lkz).toArray = Z := ⟨_, rfl⟩
  have HZS : Hid (Z.size = 96) := by show Z.size = 96; rw [← hZ, List.size_toArray]; exact lkc_length lkz_ok
  rw [hZ] at hz
  clear hx hk hn hC hZ
  go_enter Try.func41, Try.ntmps41
  go_wp2_with (at_make; refine make_u8 w rfl _ _ rfl .i64 .i64 (C : Int) C rfl rfl rfl hC9 ?_; intro w0 h1 h2; have O0 : Hid (Ow w.heap.size w0 (.slice (some ⟨w.heap.size, 0, none⟩) 0 C) []) := h1; have B0 : Hid (Below w.heap.size w w0) := h2; clear h1 h2)
  clear hw1
  go_loopw [3, 12] (fun ov i wr => ∃ k : Nat, k ≤ n ∧ i = .int .i64 (k : Int) ∧ Ow w.heap.size wr ov ((ls.take k).flatMap lkb) ∧ Below w.heap.size w wr) (fun _ i _ => n - (intOf i).toNat)
  case atStart => exact ⟨0, Nat.zero_le _, rfl, O0.out, B0.out⟩
  case round =>
    obtain ⟨k, hkn, rfl, h1, h2⟩ := hrel
    have O1 : Hid (Ow w.heap.size wr u3 ((ls.take k).flatMap lkb)) := h1
    have B1 : Hid (Below w.heap.size w wr) := h2
    clear h1 h2
    by_cases hlt : k < n
    · obtain ⟨x, hx⟩ : ∃ x, ls[k]? = some x := ⟨ls[k]'(by rw [HN.out]; exact hlt), List.getElem?_eq_getElem (by rw [HN.out]; exact hlt)⟩
      have HX : Hid (x.Ok) := HK.out x (List.mem_of_getElem? hx)
      have HSN : Hid ((ls.take (k + 1)).flatMap lkb = (ls.take k).flatMap lkb ++ lkb x) := fm_snoc lkb hx
      rcases HXX.out with ⟨h0, _⟩ | ⟨b, o, rfl, hlb, hm⟩
      · rw [h0] at hx; simp at hx
      · have HRX : Hid (wr.rangeAt b (o + k * 96) (lkc x)) := range_below (hm k x hx) B1.out hlb
        have HCK := HC.out k
        obtain ⟨L0, hL0⟩ : ∃ L, (ls.take k).flatMap lkb = L := ⟨_, rfl⟩
        rw [hL0] at HSN O1 HCK
        have HL0 : Hid (L0.length ≤ 140737488351232) := HCK
        obtain ⟨X, hX⟩ : ∃ X, (lkc x).toArray = X := ⟨_, rfl⟩
        have HXA : Hid ((lkc x).toArray = X) := hX
        clear hm hlb hx hL0 HCK
        go_upto_region 5 with (first
          | (refine load_g rfl 110 (.tmp 14) rfl b (o + k * 96) rfl (lkc x) _ HRX.out Try.underlying110 rfl (size_lkc HX.out) ?_; rw [hX])
          | (refine wpList_store_mid rfl 110 (.tmp 5) (.tmp 15) rfl wr.heap.size 0 (lkc x).toArray rfl (by rw [HXA.out]; rfl) (there_new wr (by rw [List.size_toArray, lkc_length HX.out, HZS.out])) (by rw [List.size_toArray]; exact size_lkc HX.out) (lkc_one x) ?_; simp only [List.toList_toArray]))
        obtain ⟨U0, hU⟩ : ∃ U, (wr.alloc (.cells Z 110)).setCells wr.heap.size 0 (lkc x) = U := ⟨_, rfl⟩
        rw [hU]
        obtain ⟨r1, r2, r3⟩ := laid_row (by rw [lkc_length HX.out, HZS.out]) (by rw [lkc_length HX.out]; omega) hU
        obtain ⟨E, hE⟩ : ∃ E, wr.heap.size = E := ⟨_, rfl⟩
        have HEW : Hid (wr.heap.size ≤ E) := by show _ ≤ _; omega
        rw [hE] at r1 r3 ⊢
        have RE0 : Hid (U0.rangeAt E 0 (lkc x)) := r1
        have LE0 : Hid (E < U0.heap.size) := r3
        have C0 : Hid (Below w.heap.size w U0) := B1.out.trans (r2.mono B1.out.size)
        have P0 : Hid (Ow w.heap.size U0 u3 L0) := O1.out.below r2
        have N0 : Hid (u3.ownBlock ≠ some E) := ow_ge O1.out HEW.out
        clear r1 r2 r3 hU hX hE
        have SX0 : Hid (Sl U0 (.slice (some ⟨E, 0, none⟩) 32 32) x.o) := sl_range HX.out.o ((range_lk HX.out RE0.out).1) LE0.out
        have HB0 : Hid (L0.length + (x.o).length ≤ 140737488355328) := by show _ ≤ _; have h1 := HL0.out; have h2 := (HX.out.o).len; omega
        go_upto_region 6 with (at_builtin; refine app_u8 (B0 := w.heap.size) rfl (.tmp 16) (.tmp 18) rfl C0.out.size u3 L0 rfl P0.out (.slice (some ⟨E, 0, none⟩) 32 32) rfl (x.o) SX0.out HB0.out ?_; intro v1 U1 q1 q2 q3 q4; have P1 : Hid (Ow w.heap.size U1 v1 (L0 ++ x.o)) := q1; have C1 : Hid (Below w.heap.size w U1) := C0.out.trans q3; have RE1 : Hid (U1.rangeAt E 0 (lkc x)) := range_keep RE0.out (q2.block E LE0.out (fun e => N0.out e.symm)); have LE1 : Hid (E < U1.heap.size) := Nat.lt_of_lt_of_le LE0.out q2.size; have N1 : Hid (v1.ownBlock ≠ some E) := (by rcases q4 with q | q; rw [q]; exact N0.out; rw [q]; intro e; have h1 := LE0.out; cases e; omega); clear q1 q2 q3 q4)
        obtain ⟨L1, hL1⟩ : ∃ L, L0 ++ x.o = L := ⟨_, rfl⟩
        have HL1 : Hid (L1.length ≤ 140737488351264) := by rw [← hL1]; show _ ≤ _; rw [List.length_append]; have h1 := HL0.out; have h2 := (HX.out.o).len; omega
        have HE1 : Hid (L0 ++ x.o = L1) := hL1
        rw [hL1] at P1
        clear hL1
        have SX1 : Hid (Sl U1 (.slice (some ⟨E, 32, none⟩) 32 32) x.n) := sl_range HX.out.n (by have := (range_lk HX.out RE1.out).2.1; rwa [Nat.zero_add] at this) LE1.out
        have HB1 : Hid (L1.length + (x.n).length ≤ 140737488355328) := by show _ ≤ _; have h1 := HL1.out; have h2 := (HX.out.n).len; omega
        go_upto_region 7 with (at_builtin; refine app_u8 (B0 := w.heap.size) rfl (.tmp 20) (.tmp 22) rfl C1.out.size v1 L1 rfl P1.out (.slice (some ⟨E, 32, none⟩) 32 32) rfl (x.n) SX1.out HB1.out ?_; intro v2 U2 q1 q2 q3 q4; have P2 : Hid (Ow w.heap.size U2 v2 (L1 ++ x.n)) := q1; have C2 : Hid (Below w.heap.size w U2) := C1.out.trans q3; have RE2 : Hid (U2.rangeAt E 0 (lkc x)) := range_keep RE1.out (q2.block E LE1.out (fun e => N1.out e.symm)); have LE2 : Hid (E < U2.heap.size) := Nat.lt_of_lt_of_le LE1.out q2.size; have N2 : Hid (v2.ownBlock ≠ some E) := (by rcases q4 with q | q; rw [q]; exact N1.out; rw [q]; intro e; have h1 := LE1.out; cases e; omega); clear q1 q2 q3 q4)
        obtain ⟨L2, hL2⟩ : ∃ L, L1 ++ x.n = L := ⟨_, rfl⟩
        have HL2 : Hid (L2.length ≤ 140737488351296) := by rw [← hL2]; show _ ≤ _; rw [List.length_append]; have h1 := HL1.out; have h2 := (HX.out.n).len; omega
        have HE2 : Hid (L1 ++ x.n = L2) := hL2
        rw [hL2] at P2
        clear hL2
        have SX2 : Hid (Sl U2 (.slice (some ⟨E, 64, none⟩) 32 32) x.q) := sl_range HX.out.q (by have := (range_lk HX.out RE2.out).2.2; rwa [Nat.zero_add] at this) LE2.out
        have HB2 : Hid (L2.length + (x.q).length ≤ 140737488355328) := by show _ ≤ _; have h1 := HL2.out; have h2 := (HX.out.q).len; omega
        go_wp2_with (at_builtin; refine app_u8 (B0 := w.heap.size) rfl (.tmp 24) (.tmp 26) rfl C2.out.size v2 L2 rfl P2.out (.slice (some ⟨E, 64, none⟩) 32 32) rfl (x.q) SX2.out HB2.out ?_; intro v3 U3 q1 q2 q3 q4; have P3 : Hid (Ow w.heap.size U3 v3 (L2 ++ x.q)) := q1; have C3 : Hid (Below w.heap.size w U3) := C2.out.trans q3; have RE3 : Hid (U3.rangeAt E 0 (lkc x)) := range_keep RE2.out (q2.block E LE2.out (fun e => N2.out e.symm)); have LE3 : Hid (E < U3.heap.size) := Nat.lt_of_lt_of_le LE2.out q2.size; have N3 : Hid (v3.ownBlock ≠ some E) := (by rcases q4 with q | q; rw [q]; exact N2.out; rw [q]; intro e; have h1 := LE2.out; cases e; omega); clear q1 q2 q3 q4)
        obtain ⟨L3, hL3⟩ : ∃ L, L2 ++ x.q = L := ⟨_, rfl⟩
        have HL3 : Hid (L3.length ≤ 140737488351328) := by rw [← hL3]; show _ ≤ _; rw [List.length_append]; have h1 := HL2.out; have h2 := (HX.out.q).len; omega
        have HE3 : Hid (L2 ++ x.q = L3) := hL3
        rw [hL3] at P3
        clear hL3
        exact ⟨⟨k + 1, hlt, by go_num, by rw [HSN.out]; have e : L0 ++ lkb x = L3 := by rw [← HE3.out, ← HE2.out, ← HE1.out]; simp [lkb]
                                          rw [e]; exact P3.out, C3.out⟩, by simp [intOf]; omega⟩
    · obtain rfl : k = n := by omega
      have HT : Hid (ls.take k = ls) := by show _ = _; rw [← HN.out, List.take_length]
      have O9 : Hid (Ow w.heap.size wr u3 (ls.flatMap lkb)) := by have := O1.out; rw [HT.out] at this; exact this
      go_wp2_with fail
      go_ret
      exact ⟨_, rfl, O9.out, B1.out⟩
set_option maxHeartbeats 4000000 in
theorem devicesBytes_any (ls : List (List Int)) (hk : ∀ x ∈ ls, L32 x) (hlen : ls.length * 32 ≤ 140737488351232) (v : Value) (w : World) (hv : YS w v ls) :
    Calls Try.prog 21 #[v] w fun e w' => ∃ v', e = .returned v' ∧ Ow w.heap.size w' v' (ls.flatMap id) ∧ Below w.heap.size w w' := by
  obtain ⟨ad, cap, rfl, hc, hx⟩ := hv
  have HXX : Hid ((ls = [] ∧ (ad = none → cap = 0)) ∨ ∃ b o, ad = some ⟨b, o, none⟩ ∧ b < w.heap.size ∧ ∀ (i : Nat) (x : (List Int)), ls[i]? = some x → w.rangeAt b (o + i * 32) (bv x)) := hx
  have HK : Hid (∀ x ∈ ls, L32 x) := hk
  have HC : Hid (∀ k, ((ls.take k).flatMap id).length ≤ 140737488351232) := fun k => by
    show _ ≤ _
    rw [fm_len id 32 (fun x hx => idb_len (hk x (List.mem_of_mem_take hx))), List.length_take]
    exact Nat.le_trans (Nat.mul_le_mul_right _ (Nat.min_le_right _ _)) hlen
  obtain ⟨n, hn⟩ : ∃ n, ls.length = n := ⟨_, rfl⟩
  have HN : Hid (ls.length = n) := hn
  rw [hn] at hc hlen ⊢
  obtain ⟨C, hC⟩ : ∃ C, n * 32 = C := ⟨_, rfl⟩
  have hw1 : IntKind.i64.wrap (32 * (n : Int)) = (C : Int) := by rw [IntKind.wrap_i64]; omega
  have hC9 : C ≤ 140737488355328 := by omega
  have hz := zero_32
  obtain ⟨Z, hZ⟩ : ∃ Z, (bv z32).toArray = Z := ⟨_, rfl⟩
  have HZS : Hid (Z.size = 32) := by show Z.size = 32; rw [← hZ, List.size_toArray]; exact bv32_len z32_l32
  rw [show List.replicate 32 (0 : Int) = z32 from rfl, hZ] at hz
  clear hx hk hn hC hZ
  go_enter Try.func21, Try.ntmps21
  go_wp2_with (at_make; refine make_u8 w rfl _ _ rfl .i64 .i64 (C : Int) C rfl rfl rfl hC9 ?_; intro w0 h1 h2; have O0 : Hid (Ow w.heap.size w0 (.slice (some ⟨w.heap.size, 0, none⟩) 0 C) []) := h1; have B0 : Hid (Below w.heap.size w w0) := h2; clear h1 h2)
  clear hw1
  go_loopw [3, 12] (fun ov i wr => ∃ k : Nat, k ≤ n ∧ i = .int .i64 (k : Int) ∧ Ow w.heap.size wr ov ((ls.take k).flatMap id) ∧ Below w.heap.size w wr) (fun _ i _ => n - (intOf i).toNat)
  case atStart => exact ⟨0, Nat.zero_le _, rfl, O0.out, B0.out⟩
  case round =>
    obtain ⟨k, hkn, rfl, h1, h2⟩ := hrel
    have O1 : Hid (Ow w.heap.size wr u3 ((ls.take k).flatMap id)) := h1
    have B1 : Hid (Below w.heap.size w wr) := h2
    clear h1 h2
    by_cases hlt : k < n
    · obtain ⟨x, hx⟩ : ∃ x, ls[k]? = some x := ⟨ls[k]'(by rw [HN.out]; exact hlt), List.getElem?_eq_getElem (by rw [HN.out]; exact hlt)⟩
      have HX : Hid (L32 x) := HK.out x (List.mem_of_getElem? hx)
      have HSN : Hid ((ls.take (k + 1)).flatMap id = (ls.take k).flatMap id ++ id x) := fm_snoc id hx
      rcases HXX.out with ⟨h0, _⟩ | ⟨b, o, rfl, hlb, hm⟩
      · rw [h0] at hx; simp at hx
      · have HRX : Hid (wr.rangeAt b (o + k * 32) (bv x)) := range_below (hm k x hx) B1.out hlb
        have HCK := HC.out k
        obtain ⟨L0, hL0⟩ : ∃ L, (ls.take k).flatMap id = L := ⟨_, rfl⟩
        rw [hL0] at HSN O1 HCK
        have HL0 : Hid (L0.length ≤ 140737488351232) := HCK
        obtain ⟨X, hX⟩ : ∃ X, (bv x).toArray = X := ⟨_, rfl⟩
        have HXA : Hid ((bv x).toArray = X) := hX
        clear hm hlb hx hL0 HCK
        go_upto_region 5 with (first
          | (refine load_g rfl 23 (.tmp 14) rfl b (o + k * 32) rfl (bv x) _ HRX.out Try.underlying23 rfl (size_l32 HX.out) ?_; rw [hX])
          | (refine wpList_store_mid rfl 23 (.tmp 5) (.tmp 15) rfl wr.heap.size 0 (bv x).toArray rfl (by rw [HXA.out]; rfl) (there_new wr (by rw [List.size_toArray, bv32_len HX.out, HZS.out])) (by rw [List.size_toArray]; exact size_l32 HX.out) (bv_one' x) ?_; simp only [List.toList_toArray]))
        obtain ⟨U0, hU⟩ : ∃ U, (wr.alloc (.cells Z 23)).setCells wr.heap.size 0 (bv x) = U := ⟨_, rfl⟩
        rw [hU]
        obtain ⟨r1, r2, r3⟩ := laid_row (by rw [bv32_len HX.out, HZS.out]) (by rw [bv32_len HX.out]; omega) hU
        obtain ⟨E, hE⟩ : ∃ E, wr.heap.size = E := ⟨_, rfl⟩
        have HEW : Hid (wr.heap.size ≤ E) := by show _ ≤ _; omega
        rw [hE] at r1 r3 ⊢
        have RE0 : Hid (U0.rangeAt E 0 (bv x)) := r1
        have LE0 : Hid (E < U0.heap.size) := r3
        have C0 : Hid (Below w.heap.size w U0) := B1.out.trans (r2.mono B1.out.size)
        have P0 : Hid (Ow w.heap.size U0 u3 L0) := O1.out.below r2
        have N0 : Hid (u3.ownBlock ≠ some E) := ow_ge O1.out HEW.out
        clear r1 r2 r3 hU hX hE
        have SX0 : Hid (Sl U0 (.slice (some ⟨E, 0, none⟩) 32 32) x) := sl_range HX.out (RE0.out) LE0.out
        have HB0 : Hid (L0.length + (x).length ≤ 140737488355328) := by show _ ≤ _; have h1 := HL0.out; have h2 := (HX.out).len; omega
        go_wp2_with (at_builtin; refine app_u8 (B0 := w.heap.size) rfl (.tmp 16) (.tmp 17) rfl C0.out.size u3 L0 rfl P0.out (.slice (some ⟨E, 0, none⟩) 32 32) rfl (x) SX0.out HB0.out ?_; intro v1 U1 q1 q2 q3 q4; have P1 : Hid (Ow w.heap.size U1 v1 (L0 ++ x)) := q1; have C1 : Hid (Below w.heap.size w U1) := C0.out.trans q3; have RE1 : Hid (U1.rangeAt E 0 (bv x)) := range_keep RE0.out (q2.block E LE0.out (fun e => N0.out e.symm)); have LE1 : Hid (E < U1.heap.size) := Nat.lt_of_lt_of_le LE0.out q2.size; have N1 : Hid (v1.ownBlock ≠ some E) := (by rcases q4 with q | q; rw [q]; exact N0.out; rw [q]; intro e; have h1 := LE0.out; cases e; omega); clear q1 q2 q3 q4)
        obtain ⟨L1, hL1⟩ : ∃ L, L0 ++ x = L := ⟨_, rfl⟩
        have HL1 : Hid (L1.length ≤ 140737488351264) := by rw [← hL1]; show _ ≤ _; rw [List.length_append]; have h1 := HL0.out; have h2 := (HX.out).len; omega
        have HE1 : Hid (L0 ++ x = L1) := hL1
        rw [hL1] at P1
        clear hL1
        exact ⟨⟨k + 1, hlt, by go_num, by rw [HSN.out]; have e : L0 ++ id x = L1 := by rw [← HE1.out]; simp [id]
                                          rw [e]; exact P1.out, C1.out⟩, by simp [intOf]; omega⟩
    · obtain rfl : k = n := by omega
      have HT : Hid (ls.take k = ls) := by show _ = _; rw [← HN.out, List.take_length]
      have O9 : Hid (Ow w.heap.size wr u3 (ls.flatMap id)) := by have := O1.out; rw [HT.out] at this; exact this
      go_wp2_with fail
      go_ret
      exact ⟨_, rfl, O9.out, B1.out⟩
set_option maxHeartbeats 4000000 in
theorem nodesBytes_any (ls : List Nd) (hk : ∀ x ∈ ls, x.Ok) (hq : ∀ x ∈ ls, 0 ≤ x.n ∧ x.n ≤ 256) (hlen : ls.length * 66 ≤ 140000000000000) (v : Value) (w : World) (hv : NS w v ls) :
    Calls Try.prog 22 #[v] w fun e w' => ∃ v', e = .returned v' ∧ Ow w.heap.size w' v' (ls.flatMap ndb) ∧ Below w.heap.size w w' := by
  obtain ⟨ad, cap, rfl, hc, hx⟩ := hv
  have HXX : Hid ((ls = [] ∧ (ad = none → cap = 0)) ∨ ∃ b o, ad = some ⟨b, o, none⟩ ∧ b < w.heap.size ∧ ∀ (i : Nat) (x : Nd), ls[i]? = some x → w.rangeAt b (o + i * 65) (nc x)) := hx
  have HK : Hid (∀ x ∈ ls, x.Ok) := hk
  have HQ : Hid (∀ x ∈ ls, 0 ≤ x.n ∧ x.n ≤ 256) := hq
  have HC : Hid (∀ k, ((ls.take k).flatMap ndb).length ≤ 140000000000000) := fun k => by
    show _ ≤ _
    rw [fm_len ndb 66 (fun x hx => ndb_len (hk x (List.mem_of_mem_take hx))), List.length_take]
    exact Nat.le_trans (Nat.mul_le_mul_right _ (Nat.min_le_right _ _)) hlen
  obtain ⟨n, hn⟩ : ∃ n, ls.length = n := ⟨_, rfl⟩
  have HN : Hid (ls.length = n) := hn
  rw [hn] at hc hlen ⊢
  obtain ⟨C, hC⟩ : ∃ C, n * 66 = C := ⟨_, rfl⟩
  have hw1 : IntKind.i64.wrap (66 * (n : Int)) = (C : Int) := by rw [IntKind.wrap_i64]; omega
  have hC9 : C ≤ 140737488355328 := by omega
  have hz := zero_nd
  obtain ⟨Z, hZ⟩ : ∃ Z, (nc ndz).toArray = Z := ⟨_, rfl⟩
  have HZS : Hid (Z.size = 65) := by show Z.size = 65; rw [← hZ, List.size_toArray]; exact nc_length ndz_ok
  rw [hZ] at hz
  clear hx hk hn hC hZ
  go_enter Try.func22, Try.ntmps22
  go_wp2_with (at_make; refine make_u8 w rfl _ _ rfl .i64 .i64 (C : Int) C rfl rfl rfl hC9 ?_; intro w0 h1 h2; have O0 : Hid (Ow w.heap.size w0 (.slice (some ⟨w.heap.size, 0, none⟩) 0 C) []) := h1; have B0 : Hid (Below w.heap.size w w0) := h2; clear h1 h2)
  clear hw1
  go_loopw [3, 12] (fun ov i wr => ∃ k : Nat, k ≤ n ∧ i = .int .i64 (k : Int) ∧ Ow w.heap.size wr ov ((ls.take k).flatMap ndb) ∧ Below w.heap.size w wr) (fun _ i _ => n - (intOf i).toNat)
  case atStart => exact ⟨0, Nat.zero_le _, rfl, O0.out, B0.out⟩
  case round =>
    obtain ⟨k, hkn, rfl, h1, h2⟩ := hrel
    have O1 : Hid (Ow w.heap.size wr u3 ((ls.take k).flatMap ndb)) := h1
    have B1 : Hid (Below w.heap.size w wr) := h2
    clear h1 h2
    by_cases hlt : k < n
    · obtain ⟨x, hx⟩ : ∃ x, ls[k]? = some x := ⟨ls[k]'(by rw [HN.out]; exact hlt), List.getElem?_eq_getElem (by rw [HN.out]; exact hlt)⟩
      have HX : Hid (x.Ok) := HK.out x (List.mem_of_getElem? hx)
      have HSN : Hid ((ls.take (k + 1)).flatMap ndb = (ls.take k).flatMap ndb ++ ndb x) := fm_snoc ndb hx
      have HXQ : Hid (0 ≤ x.n ∧ x.n ≤ 256) := HQ.out x (List.mem_of_getElem? hx)
      rcases HXX.out with ⟨h0, _⟩ | ⟨b, o, rfl, hlb, hm⟩
      · rw [h0] at hx; simp at hx
      · have HRX : Hid (wr.rangeAt b (o + k * 65) (nc x)) := range_below (hm k x hx) B1.out hlb
        have HCK := HC.out k
        obtain ⟨L0, hL0⟩ : ∃ L, (ls.take k).flatMap ndb = L := ⟨_, rfl⟩
        rw [hL0] at HSN O1 HCK
        have HL0 : Hid (L0.length ≤ 140000000000000) := HCK
        obtain ⟨X, hX⟩ : ∃ X, (nc x).toArray = X := ⟨_, rfl⟩
        have HXA : Hid ((nc x).toArray = X) := hX
        clear hm hlb hx hL0 HCK
        go_upto_region 5 with (first
          | (refine load_g rfl 94 (.tmp 14) rfl b (o + k * 65) rfl (nc x) _ HRX.out Try.underlying94 rfl (size_nc HX.out) ?_; rw [hX])
          | (refine wpList_store_mid rfl 94 (.tmp 5) (.tmp 15) rfl wr.heap.size 0 (nc x).toArray rfl (by rw [HXA.out]; rfl) (there_new wr (by rw [List.size_toArray, nc_length HX.out, HZS.out])) (by rw [List.size_toArray]; exact size_nc HX.out) (nc_one x) ?_; simp only [List.toList_toArray]))
        obtain ⟨U0, hU⟩ : ∃ U, (wr.alloc (.cells Z 94)).setCells wr.heap.size 0 (nc x) = U := ⟨_, rfl⟩
        rw [hU]
        obtain ⟨r1, r2, r3⟩ := laid_row (by rw [nc_length HX.out, HZS.out]) (by rw [nc_length HX.out]; omega) hU
        obtain ⟨E, hE⟩ : ∃ E, wr.heap.size = E := ⟨_, rfl⟩
        have HEW : Hid (wr.heap.size ≤ E) := by show _ ≤ _; omega
        rw [hE] at r1 r3 ⊢
        have RE0 : Hid (U0.rangeAt E 0 (nc x)) := r1
        have LE0 : Hid (E < U0.heap.size) := r3
        have C0 : Hid (Below w.heap.size w U0) := B1.out.trans (r2.mono B1.out.size)
        have P0 : Hid (Ow w.heap.size U0 u3 L0) := O1.out.below r2
        have N0 : Hid (u3.ownBlock ≠ some E) := ow_ge O1.out HEW.out
        clear r1 r2 r3 hU hX hE
        have hw2 : IntKind.u64.wrap x.n = x.n := by have := HXQ.out; simp [IntKind.wrap, IntKind.bits, IntKind.signed]; omega
        have hcl : U0.cell? ⟨E, 0, none⟩ = some (.int .i64 x.n) := nc_n RE0.out
        go_upto_region 6 with (go_at_call 52; refine (appendNumber_any w.heap.size L0 x.n 2 u3 U0 P0.out C0.out.size HXQ.out.1 (by have := HXQ.out; omega) (by omega) HL0.out).mono ?_; rintro e U1 ⟨v1, rfl, q1, q2⟩; have P1 : Hid (Ow w.heap.size U1 v1 (L0 ++ be 2 x.n)) := q1; have C1 : Hid (Below w.heap.size w U1) := C0.out.trans (q2.below C0.out.size (fun b e => P0.out.blk b e)); have RE1 : Hid (U1.rangeAt E 0 (nc x)) := range_keep RE0.out (q2.grown.block E LE0.out (fun e => N0.out e.symm)); have LE1 : Hid (E < U1.heap.size) := Nat.lt_of_lt_of_le LE0.out q2.grown.size; have N1 : Hid (v1.ownBlock ≠ some E) := (by rcases q2.blk with q | ⟨g, q, h9⟩; rw [q]; exact N0.out; rw [q]; intro e; have h1 := LE0.out; cases e; omega); clear q1 q2)
        clear hw2 hcl
        obtain ⟨L1, hL1⟩ : ∃ L, L0 ++ be 2 x.n = L := ⟨_, rfl⟩
        have HL1 : Hid (L1.length ≤ 140000000000002) := by rw [← hL1]; show _ ≤ _; rw [List.length_append, be_length]; have := HL0.out; omega
        have HE1 : Hid (L0 ++ be 2 x.n = L1) := hL1
        rw [hL1] at P1
        clear hL1
        have SX1 : Hid (Sl U1 (.slice (some ⟨E, 1, none⟩) 32 32) x.p) := sl_range HX.out.p (by have := nc_p RE1.out; rwa [Nat.zero_add] at this) LE1.out
        have HB1 : Hid (L1.length + (x.p).length ≤ 140737488355328) := by show _ ≤ _; have h1 := HL1.out; have h2 := (HX.out.p).len; omega
        go_upto_region 7 with (at_builtin; refine app_u8 (B0 := w.heap.size) rfl (.tmp 21) (.tmp 23) rfl C1.out.size v1 L1 rfl P1.out (.slice (some ⟨E, 1, none⟩) 32 32) rfl (x.p) SX1.out HB1.out ?_; intro v2 U2 q1 q2 q3 q4; have P2 : Hid (Ow w.heap.size U2 v2 (L1 ++ x.p)) := q1; have C2 : Hid (Below w.heap.size w U2) := C1.out.trans q3; have RE2 : Hid (U2.rangeAt E 0 (nc x)) := range_keep RE1.out (q2.block E LE1.out (fun e => N1.out e.symm)); have LE2 : Hid (E < U2.heap.size) := Nat.lt_of_lt_of_le LE1.out q2.size; have N2 : Hid (v2.ownBlock ≠ some E) := (by rcases q4 with q | q; rw [q]; exact N1.out; rw [q]; intro e; have h1 := LE1.out; cases e; omega); clear q1 q2 q3 q4)
        obtain ⟨L2, hL2⟩ : ∃ L, L1 ++ x.p = L := ⟨_, rfl⟩
        have HL2 : Hid (L2.length ≤ 140000000000034) := by rw [← hL2]; show _ ≤ _; rw [List.length_append]; have h1 := HL1.out; have h2 := (HX.out.p).len; omega
        have HE2 : Hid (L1 ++ x.p = L2) := hL2
        rw [hL2] at P2
        clear hL2
        have SX2 : Hid (Sl U2 (.slice (some ⟨E, 33, none⟩) 32 32) x.h) := sl_range HX.out.h (by have := nc_h HX.out RE2.out; rwa [Nat.zero_add] at this) LE2.out
        have HB2 : Hid (L2.length + (x.h).length ≤ 140737488355328) := by show _ ≤ _; have h1 := HL2.out; have h2 := (HX.out.h).len; omega
        go_wp2_with (at_builtin; refine app_u8 (B0 := w.heap.size) rfl (.tmp 25) (.tmp 27) rfl C2.out.size v2 L2 rfl P2.out (.slice (some ⟨E, 33, none⟩) 32 32) rfl (x.h) SX2.out HB2.out ?_; intro v3 U3 q1 q2 q3 q4; have P3 : Hid (Ow w.heap.size U3 v3 (L2 ++ x.h)) := q1; have C3 : Hid (Below w.heap.size w U3) := C2.out.trans q3; have RE3 : Hid (U3.rangeAt E 0 (nc x)) := range_keep RE2.out (q2.block E LE2.out (fun e => N2.out e.symm)); have LE3 : Hid (E < U3.heap.size) := Nat.lt_of_lt_of_le LE2.out q2.size; have N3 : Hid (v3.ownBlock ≠ some E) := (by rcases q4 with q | q; rw [q]; exact N2.out; rw [q]; intro e; have h1 := LE2.out; cases e; omega); clear q1 q2 q3 q4)
        obtain ⟨L3, hL3⟩ : ∃ L, L2 ++ x.h = L := ⟨_, rfl⟩
        have HL3 : Hid (L3.length ≤ 140000000000066) := by rw [← hL3]; show _ ≤ _; rw [List.length_append]; have h1 := HL2.out; have h2 := (HX.out.h).len; omega
        have HE3 : Hid (L2 ++ x.h = L3) := hL3
        rw [hL3] at P3
        clear hL3
        exact ⟨⟨k + 1, hlt, by go_num, by rw [HSN.out]; have e : L0 ++ ndb x = L3 := by rw [← HE3.out, ← HE2.out, ← HE1.out]; simp [ndb]
                                          rw [e]; exact P3.out, C3.out⟩, by simp [intOf]; omega⟩
    · obtain rfl : k = n := by omega
      have HT : Hid (ls.take k = ls) := by show _ = _; rw [← HN.out, List.take_length]
      have O9 : Hid (Ow w.heap.size wr u3 (ls.flatMap ndb)) := by have := O1.out; rw [HT.out] at this; exact this
      go_wp2_with fail
      go_ret
      exact ⟨_, rfl, O9.out, B1.out⟩
end Go.Proofs.Ytfnmdeekenjlgaa
