/- Lookups: EncodeLookup, and the reference's. -/
import Derived.Test.YtfnmdeekenjlgaaWsT
import Derived.Lib.ConvBytes
namespace Go.Proofs.Ytfnmdeekenjlgaa
open Go Go.RowKit
set_option linter.unusedSimpArgs false
set_option linter.unusedVariables false
set_option maxRecDepth 100000

def nb (s : ByteArray) : List Int := s.data.toList.map (fun b => (b.toNat : Int))
theorem nb_length (s : ByteArray) : (nb s).length = s.size := by unfold nb; rw [List.length_map, Array.length_toList]; rfl
theorem nb_get {s : ByteArray} {i : Nat} (h : i < s.size) : gi (nb s) i = ((s.data.toList.getD i 0).toNat : Int) := by
  have h' : i < s.data.toList.length := by rw [Array.length_toList]; exact h
  unfold gi nb
  simp [List.getD, h]
theorem nb_inj {s t : ByteArray} (h : nb s = nb t) : s = t := by
  unfold nb at h
  have : s.data.toList = t.data.toList := by
    refine List.map_inj_right (f := fun b : UInt8 => (b.toNat : Int)) (fun x y e => ?_) |>.1 h
    exact UInt8.toNat_inj.1 (by simpa using Int.ofNat.inj e)
  cases s; cases t
  simp only at this
  rw [Array.toList_inj.1 this]
/-- []byte(s). -/
theorem conv_any (w : World) (s : ByteArray) : ∃ w1 c, (convert 9 34 (.string s)).run Try.prog w = .ok (.slice (some ⟨w.heap.size, 0, none⟩) s.size c) w1 ∧ Sl w1 (.slice (some ⟨w.heap.size, 0, none⟩) s.size c) (nb s) ∧ Below w.heap.size w w1 ∧ w1.heap.size = w.heap.size + 1 := by
  have hr := Lib.run_convert_string_bytes (P := Try.prog) w 9 34 5 s Try.underlying9 Try.underlying34 Try.underlying5
  refine ⟨_, _, hr, ?_, ⟨?_, ?_, ?_, by rw [Lib.bytesWorld_size]; omega, fun k hk => Lib.bytesWorld_at_old w _ s k hk⟩, Lib.bytesWorld_size _ _ _⟩
  · refine ⟨_, _, by rw [nb_length], by rw [nb_length]; exact grownCap_ge _ _ _ _, .inr ⟨w.heap.size, 0, rfl, by rw [Lib.bytesWorld_size]; omega, fun i hi => ?_⟩⟩
    rw [nb_length] at hi
    rw [nb_get hi, Nat.zero_add]; exact Lib.bytesWorld_cell w _ s i hi
  · rfl
  · rfl
  · rfl
/-- A lookup. -/
structure Lp where
  R : Rt
  ac : ByteArray
  ve : Int
  ds : List (List Int)
  fp : List Int
  fn : List Nd
  sp : List Int
  sn : List Nd
structure Lp.Ok (L : Lp) : Prop where
  R : L.R.Ok
  ac : L.ac.size ≤ 140737488351232
  ve : 0 ≤ L.ve ∧ L.ve < 18446744073709551616
  ds : ∀ x ∈ L.ds, L32 x
  dl : L.ds.length * 32 ≤ 140737488351232
  fp : L.fp.length = 80 ∧ Byt L.fp
  fn : ∀ x ∈ L.fn, x.Ok
  fl : L.fn.length * 72 ≤ 140737488351232
  sp : L.sp.length = 80 ∧ Byt L.sp
  sn : ∀ x ∈ L.sn, x.Ok
  sl : L.sn.length * 72 ≤ 140737488351232
def Lp.list (L : Lp) : List (List Int) := [[108, 111, 111, 107, 117, 112], encB L.R.all, nb L.ac, be 8 L.ve, L.ds.flatMap id, L.fp, L.fn.flatMap ndb, L.sp, L.sn.flatMap ndb]
def llb (L : Lp) : Bool := lokb L.fn && lokb L.sn
def leE (L : Lp) : Int := match llb L with | true => encE L.list | false => 1
def leB (L : Lp) : List Int := match llb L with | true => encB L.list | false => []
theorem le_yes {L : Lp} (h : llb L = true) : leE L = encE L.list ∧ leB L = encB L.list := by unfold leE leB; rw [h]; exact ⟨rfl, rfl⟩
theorem le_no {L : Lp} (h : llb L = false) : leE L = 1 ∧ leB L = [] := by unfold leE leB; rw [h]; exact ⟨rfl, rfl⟩
/-- A lookup's cells. -/
def lc (L : Lp) (dv nv mv : Value) : List Value := L.R.cells ++ ([.string L.ac, .int .u64 L.ve, dv] ++ ((bv L.fp ++ [nv]) ++ (bv L.sp ++ [mv])))
structure Lp.Le (L : Lp) : Prop where
  R : L.R.cells.length = 163
  fp : L.fp.length = 80
  sp : L.sp.length = 80
theorem Lp.Ok.le {L : Lp} (h : L.Ok) : L.Le := ⟨Rt.size h.R, h.fp.1, h.sp.1⟩
theorem lc_length {L : Lp} (h : L.Le) (dv nv mv : Value) : (lc L dv nv mv).length = 328 := by simp [lc, h.R, h.fp, h.sp, bv_length]
def LV (w : World) (A : List Value) (L : Lp) : Prop := ∃ dv nv mv, A = lc L dv nv mv ∧ YS w dv L.ds ∧ NS w nv L.fn ∧ NS w mv L.sn
theorem YS.below' {w w' : World} {v : Value} {l : List (List Int)} (h : YS w v l) (hb : Below w.heap.size w w') : YS w' v l := by
  obtain ⟨ad, cap, rfl, hc, h⟩ := h
  refine ⟨ad, cap, rfl, hc, ?_⟩
  rcases h with h | ⟨b, o, rfl, hlt, hm⟩
  · exact .inl h
  · exact .inr ⟨b, o, rfl, Nat.lt_of_lt_of_le hlt hb.size, fun i x hi => range_below (hm i x hi) hb hlt⟩
theorem LV.below {w w' : World} {A : List Value} {L : Lp} (h : LV w A L) (hb : Below w.heap.size w w') : LV w' A L := by
  obtain ⟨dv, nv, mv, e, h1, h2, h3⟩ := h
  exact ⟨dv, nv, mv, e, h1.below' hb, h2.below hb, h3.below hb⟩
/-- Where the parts lie. -/
structure LAt (L : Lp) (dv nv mv : Value) (A : Nat → Option Value) : Prop where
  ac : A 163 = some (.string L.ac)
  ve : A 164 = some (.int .u64 L.ve)
  dv : A 165 = some dv
  fp : ∀ j, j < 80 → A (166 + j) = some (.int .u8 (gi L.fp j))
  nv : A 246 = some nv
  sp : ∀ j, j < 80 → A (247 + j) = some (.int .u8 (gi L.sp j))
  mv : A 327 = some mv
  R : ∀ j u, L.R.cells[j]? = some u → A j = some u
theorem lc_at {L : Lp} (h : L.Le) (dv nv mv : Value) : LAt L dv nv mv (fun j => (lc L dv nv mv)[j]?) := by
  have hr := h.R
  have hf := h.fp
  have hs := h.sp
  have bf : (bv L.fp).length = 80 := by rw [bv_length, hf]
  have bs : (bv L.sp).length = 80 := by rw [bv_length, hs]
  have key : ∀ j, 163 ≤ j → (lc L dv nv mv)[j]? = ([.string L.ac, .int .u64 L.ve, dv] ++ ((bv L.fp ++ [nv]) ++ (bv L.sp ++ [mv])))[j - 163]? := fun j hj => by
    unfold lc; rw [List.getElem?_append_right (by omega), hr]
  have key2 : ∀ j, 166 ≤ j → (lc L dv nv mv)[j]? = ((bv L.fp ++ [nv]) ++ (bv L.sp ++ [mv]))[j - 166]? := fun j hj => by
    rw [key j (by omega), List.getElem?_append_right (by simp; omega)]
    congr 1
  refine ⟨by rw [key 163 (by omega)]; rfl, by rw [key 164 (by omega)]; rfl, by rw [key 165 (by omega)]; rfl, fun j hj => ?_, ?_, fun j hj => ?_, ?_, fun j u hu => ?_⟩
  · show (lc L dv nv mv)[166 + j]? = _
    rw [key2 _ (by omega), Nat.add_sub_cancel_left, List.getElem?_append_left (by simp; omega), List.getElem?_append_left (by omega), bv_get _ (by omega)]
  · show (lc L dv nv mv)[246]? = _
    rw [key2 _ (by omega), List.getElem?_append_left (by simp; omega), List.getElem?_append_right (by omega), bf]; rfl
  · show (lc L dv nv mv)[247 + j]? = _
    rw [key2 _ (by omega), List.getElem?_append_right (by simp; omega), List.getElem?_append_left (by simp; omega)]
    rw [show 247 + j - 166 - (bv L.fp ++ [nv]).length = j by simp; omega, bv_get _ (by omega)]
  · show (lc L dv nv mv)[327]? = _
    rw [key2 _ (by omega), List.getElem?_append_right (by simp; omega), List.getElem?_append_right (by simp; omega)]
    rw [show 327 - 166 - (bv L.fp ++ [nv]).length - (bv L.sp).length = 0 by simp; omega]; rfl
  · show (lc L dv nv mv)[j]? = _
    unfold lc; rw [List.getElem?_append_left (List.getElem?_eq_some_iff.1 hu).1]; exact hu
theorem lc_root {w : World} {b : Nat} {L : Lp} {dv nv mv : Value} (h : LAt L dv nv mv (fun j => w.cell? ⟨b, j, none⟩)) : w.rangeAt b 0 L.R.cells := fun j u hu => by rw [Nat.zero_add]; exact h.R j u hu
theorem lat_of {w : World} {b : Nat} {L : Lp} {dv nv mv : Value} (hL : L.Le) (h : ∀ j, w.cell? ⟨b, j, none⟩ = (lc L dv nv mv)[j]?) : LAt L dv nv mv (fun j => w.cell? ⟨b, j, none⟩) := by
  have := lc_at hL dv nv mv
  exact ⟨(h _).trans this.ac, (h _).trans this.ve, (h _).trans this.dv, fun j hj => (h _).trans (this.fp j hj), (h _).trans this.nv, fun j hj => (h _).trans (this.sp j hj), (h _).trans this.mv, fun j u hu => (h _).trans (this.R j u hu)⟩
theorem Lp.lens {L : Lp} (h : L.Ok) : Lens L.list ∧ L.list.length = 9 := by
  refine ⟨fun i hi => ?_, rfl⟩
  have hi' : i < 9 := hi
  have h1 := encB_small L.R.all
  have h2 := fm_len ndb 66 (fun x hx => ndb_len (h.fn x hx))
  have h3 := fm_len ndb 66 (fun x hx => ndb_len (h.sn x hx))
  have h4 := fm_len id 32 (fun x hx => idb_len (h.ds x hx))
  have h5 := h.fl
  have h6 := h.sl
  have h7 := h.dl
  have h8 := h.ac
  rcases (show i = 0 ∨ i = 1 ∨ i = 2 ∨ i = 3 ∨ i = 4 ∨ i = 5 ∨ i = 6 ∨ i = 7 ∨ i = 8 by omega) with rfl | rfl | rfl | rfl | rfl | rfl | rfl | rfl | rfl
  · simp [mi, Lp.list]
  · show (encB L.R.all).length ≤ _; omega
  · show (nb L.ac).length ≤ _; rw [nb_length]; omega
  · show (be 8 L.ve).length ≤ _; rw [be_length]; omega
  · show (L.ds.flatMap id).length ≤ _; rw [h4]; omega
  · show L.fp.length ≤ _; rw [h.fp.1]; omega
  · show (L.fn.flatMap ndb).length ≤ _; rw [h2]; omega
  · show L.sp.length ≤ _; rw [h.sp.1]; omega
  · show (L.sn.flatMap ndb).length ≤ _; rw [h3]; omega
theorem sl80 {w : World} {b o : Nat} {x : List Int} (hx : x.length = 80) (hb : b < w.heap.size) (h : ∀ j, j < 80 → w.cell? ⟨b, o + j, none⟩ = some (.int .u8 (gi x j))) : Sl w (.slice (some ⟨b, o, none⟩) 80 80) x := ⟨_, 80, by rw [hx], by rw [hx]; exact Nat.le_refl _, .inr ⟨b, o, rfl, hb, fun i hi => h i (by omega)⟩⟩
def eLp (L : Lp) (h : Nat) (dv nv mv v4 v6 : Value) (B : Nat) : Nat → Value → World → Prop
  | 0, v, w => ∃ g n, v = .slice (some ⟨g, 0, none⟩) 6 6 ∧ B ≤ g ∧ g < w.heap.size ∧ w.shape? g = some (5, n) ∧ Sl w v [108, 111, 111, 107, 117, 112]
  | 1, v, w => Sl w v [108, 111, 111, 107, 117, 112]
  | 2, v, w => v = .pointer (some ⟨h, 0, none⟩)
  | 3, v, w => v = .agg L.R.cells.toArray
  | 4, v, w => Sl w v (encB L.R.all)
  | 5, v, w => v = .pointer (some ⟨h, 163, none⟩)
  | 6, v, w => v = .string L.ac
  | 7, v, w => Sl w v (nb L.ac)
  | 8, v, w => v = .pointer (some ⟨h, 164, none⟩)
  | 9, v, w => v = .int .u64 L.ve
  | 10, v, w => Sl w v (be 8 L.ve)
  | 11, v, w => v = .pointer (some ⟨h, 165, none⟩)
  | 12, v, w => v = dv
  | 13, v, w => Sl w v (L.ds.flatMap id)
  | 14, v, w => v = .pointer (some ⟨h, 166, none⟩)
  | 15, v, w => v = .pointer (some ⟨h, 166, none⟩)
  | 16, v, w => Sl w v L.fp
  | 17, v, w => v = .pointer (some ⟨h, 166, none⟩)
  | 18, v, w => v = .pointer (some ⟨h, 246, none⟩)
  | 19, v, w => v = nv
  | 20, v, w => Sl w v (L.fn.flatMap ndb)
  | 21, v, w => v = .pointer (some ⟨h, 247, none⟩)
  | 22, v, w => v = .pointer (some ⟨h, 247, none⟩)
  | 23, v, w => Sl w v L.sp
  | 24, v, w => v = .pointer (some ⟨h, 247, none⟩)
  | 25, v, w => v = .pointer (some ⟨h, 327, none⟩)
  | 26, v, w => v = mv
  | 27, v, w => Sl w v (L.sn.flatMap ndb)
  | 28, v, w => LL w v L.list
  | 29, v, w => ∃ v', v = .tuple #[v', .int .i64 (encE L.list)] ∧ Sl w v' (encB L.list)
  | 30, v, w => Sl w v (encB L.list)
  | 31, v, w => v = .int .i64 (encE L.list)
  | 32, v, w => Sl w v (encB L.list)
  | 33, v, w => v = .int .i64 (encE L.list)
  | _ + 34, _, _ => True
theorem eLp.stays {L : Lp} {h : Nat} {dv nv mv v4 v6 : Value} {B : Nat} : ∀ (i : Nat) (v : Value) (w w' : World), eLp L h dv nv mv v4 v6 B i v w → Mk B w w' → eLp L h dv nv mv v4 v6 B i v w'
  | 0, v, w, w', k, m => by
    obtain ⟨g, n, h1, h2, h3, h4, h5⟩ := k
    exact ⟨g, n, h1, h2, Nat.lt_of_lt_of_le h3 m.size, (m.shape g h3).trans h4, h5.mk m⟩
  | 1, v, w, w', k, m => Sl.mk k m
  | 2, v, w, w', k, m => k
  | 3, v, w, w', k, m => k
  | 4, v, w, w', k, m => Sl.mk k m
  | 5, v, w, w', k, m => k
  | 6, v, w, w', k, m => k
  | 7, v, w, w', k, m => Sl.mk k m
  | 8, v, w, w', k, m => k
  | 9, v, w, w', k, m => k
  | 10, v, w, w', k, m => Sl.mk k m
  | 11, v, w, w', k, m => k
  | 12, v, w, w', k, m => k
  | 13, v, w, w', k, m => Sl.mk k m
  | 14, v, w, w', k, m => k
  | 15, v, w, w', k, m => k
  | 16, v, w, w', k, m => Sl.mk k m
  | 17, v, w, w', k, m => k
  | 18, v, w, w', k, m => k
  | 19, v, w, w', k, m => k
  | 20, v, w, w', k, m => Sl.mk k m
  | 21, v, w, w', k, m => k
  | 22, v, w, w', k, m => k
  | 23, v, w, w', k, m => Sl.mk k m
  | 24, v, w, w', k, m => k
  | 25, v, w, w', k, m => k
  | 26, v, w, w', k, m => k
  | 27, v, w, w', k, m => Sl.mk k m
  | 28, v, w, w', k, m => LL.mk k m
  | 29, v, w, w', k, m => by
    obtain ⟨v', h1, h2⟩ := k
    exact ⟨v', h1, h2.mk m⟩
  | 30, v, w, w', k, m => Sl.mk k m
  | 31, v, w, w', k, m => k
  | 32, v, w, w', k, m => Sl.mk k m
  | 33, v, w, w', k, m => k
  | _ + 34, _, _, _, _, _ => trivial
set_option maxHeartbeats 8000000 in
theorem encodeLookup_any (L : Lp) (hS : L.Ok) (A : List Value) (w : World) (hA : LV w A L) :
    Calls Try.prog 6 #[.agg A.toArray] w fun e w' => ∃ v', e = .returned (.tuple #[v', .int .i64 (leE L)]) ∧ Sl w' v' (leB L) ∧ Below w.heap.size w w' := by
  have HS : Hid L.Ok := hS
  obtain ⟨dv, nv, mv, rfl, h1, h2, h3⟩ := hA
  have HV0 : Hid (YS w dv L.ds ∧ NS w nv L.fn ∧ NS w mv L.sn) := ⟨h1, h2, h3⟩
  have hsz : (lc L dv nv mv).toArray.size = 328 := by rw [List.size_toArray]; exact lc_length hS.le _ _ _
  obtain ⟨A, hA⟩ : ∃ A, (lc L dv nv mv).toArray = A := ⟨_, rfl⟩
  have HA : Hid (∀ j, A[j]? = (lc L dv nv mv)[j]?) := fun j => by rw [← hA, List.getElem?_toArray]
  rw [hA] at hsz ⊢
  clear hA hS h1 h2 h3
  have HW0 : Hid (∀ j, (w.alloc (Obj.cells A 33)).cell? ⟨w.heap.size, j, none⟩ = (lc L dv nv mv)[j]?) := fun j => (cell_alloc w A _ _ j).trans (HA.out j)
  have HB0 : Hid (Below w.heap.size w (w.alloc (Obj.cells A 33)) ∧ w.heap.size < (w.alloc (Obj.cells A 33)).heap.size) := ⟨(Below.refl _ w).alloc (Nat.le_refl _) _, by simp⟩
  have hcn : (w.alloc (Obj.cells A 33)).cell? ⟨w.heap.size, 246, none⟩ = some nv := (lat_of HS.out.le HW0.out).nv
  have HN0 : Hid (NS (w.alloc (Obj.cells A 33)) nv L.fn) := HV0.out.2.1.below HB0.out.1
  have HCL : Hid (Calls Try.prog 18 #[nv] (w.alloc (Obj.cells A 33)) fun e w' => ∃ ok, e = .returned (.bool ok) ∧ (ok = true ↔ lok L.fn) ∧ Below (w.alloc (Obj.cells A 33)).heap.size (w.alloc (Obj.cells A 33)) w') := lensHold_any L.fn HS.out.fn (by have := HS.out.fl; omega) nv _ HN0.out
  go_enter Try.func6, Try.ntmps6
  go_wp2_with fail
  refine HCL.out.mono ?_
  rintro e w1 ⟨ok, rfl, g1, g2⟩
  have K1 : Hid (ok = true ↔ lok L.fn) := g1
  have G2 : Hid (Below (w.alloc (Obj.cells A 33)).heap.size (w.alloc (Obj.cells A 33)) w1) := g2
  clear g1 g2 hcn
  cases ok with
  | false =>
    have hno : llb L = false := by
      unfold llb
      cases hq : lokb L.fn with
      | false => rfl
      | true => exact absurd (K1.out.2 ((lokb_iff _).1 hq)) (by decide)
    have BE : Hid (Below w.heap.size w w1) := HB0.out.1.trans (G2.out.mono HB0.out.1.size)
    have E : Hid (leE L = 1 ∧ leB L = []) := le_no hno
    go_wp2_with fail
    go_ret2
    rw [E.out.1, E.out.2]
    exact ⟨_, rfl, ⟨none, 0, rfl, Nat.le_refl _, .inl ⟨rfl, fun _ => rfl⟩⟩, BE.out⟩
  | true =>
    have hcm : w1.cell? ⟨w.heap.size, 327, none⟩ = some mv := (G2.out.cell (p := ⟨w.heap.size, 327, none⟩) HB0.out.2).trans (lat_of HS.out.le HW0.out).mv
    have HM1 : Hid (NS w1 mv L.sn) := (HV0.out.2.2.below HB0.out.1).below G2.out
    go_wp2_with fail
    refine (lensHold_any L.sn HS.out.sn (by have := HS.out.sl; omega) mv w1 HM1.out).mono ?_
    rintro e w2 ⟨ok2, rfl, g1, g2⟩
    have K2 : Hid (ok2 = true ↔ lok L.sn) := g1
    have G3 : Hid (Below (w.alloc (Obj.cells A 33)).heap.size (w.alloc (Obj.cells A 33)) w2) := G2.out.trans (g2.mono G2.out.size)
    clear g1 g2 hcm G2
    have G2 : Hid (Below (w.alloc (Obj.cells A 33)).heap.size (w.alloc (Obj.cells A 33)) w2) := G3.out
    cases ok2 with
    | false =>
      have hno : llb L = false := by
        unfold llb
        cases hq : lokb L.sn with
        | false => exact Bool.and_false _
        | true => exact absurd (K2.out.2 ((lokb_iff _).1 hq)) (by decide)
      have BE : Hid (Below w.heap.size w w2) := HB0.out.1.trans (G2.out.mono HB0.out.1.size)
      have E : Hid (leE L = 1 ∧ leB L = []) := le_no hno
      go_wp2_with fail
      go_ret2
      rw [E.out.1, E.out.2]
      exact ⟨_, rfl, ⟨none, 0, rfl, Nat.le_refl _, .inl ⟨rfl, fun _ => rfl⟩⟩, BE.out⟩
    | true =>
      have HLK : Hid (lok L.fn ∧ lok L.sn) := ⟨K1.out.1 (by simp), K2.out.1 (by simp)⟩
      have E : Hid (leE L = encE L.list ∧ leB L = encB L.list) := le_yes (by unfold llb; rw [(lokb_iff _).2 HLK.out.1, (lokb_iff _).2 HLK.out.2]; rfl)
      have BE : Hid (Below w.heap.size w w2) := HB0.out.1.trans (G2.out.mono HB0.out.1.size)
      have HV1 : Hid (YS w2 dv L.ds ∧ NS w2 nv L.fn ∧ NS w2 mv L.sn) := ⟨HV0.out.1.below' BE.out, HV0.out.2.1.below BE.out, HV0.out.2.2.below BE.out⟩
      have HC1 : Hid (∀ j, w2.cell? ⟨w.heap.size, j, none⟩ = (lc L dv nv mv)[j]?) := fun j => (G2.out.cell (p := ⟨w.heap.size, j, none⟩) HB0.out.2).trans (HW0.out j)
      have HL1 : Hid (w.heap.size < w2.heap.size) := Nat.lt_of_lt_of_le HB0.out.2 G2.out.size
      obtain ⟨h, hh⟩ : ∃ h, w.heap.size = h := ⟨_, rfl⟩
      have HH : Hid (w.heap.size = h) := hh
      rw [hh] at HC1 HL1
      go_upto_region 3 with (fail)
      try rw [hh]
      clear hh
      obtain ⟨B, hB⟩ : ∃ B, w2.heap.size = B := ⟨_, rfl⟩
      have HB : Hid (w2.heap.size = B) := hB
      have HC : Hid (∀ W, Mk B w2 W → LAt L dv nv mv (fun j => W.cell? ⟨h, j, none⟩)) := fun W m => lat_of HS.out.le (fun j => (m.cell h j HL1.out).trans (HC1.out j))
      have HV : Hid (∀ W, Mk B w2 W → YS W dv L.ds ∧ NS W nv L.fn ∧ NS W mv L.sn) := fun W m => by
        have mb := m.below
        rw [← hB] at mb
        exact ⟨HV1.out.1.below' mb, HV1.out.2.1.below mb, HV1.out.2.2.below mb⟩
      have HZ1 : Hid (∀ W, Mk B w2 W → B ≤ W.heap.size) := fun W m => by have := m.size; rw [hB] at this; exact this
      clear hB
      refine RR.wp_rgn (eLp L h dv nv mv undef undef B) (Mk B) (Mk.draw _ _) (fun _ _ _ => Mk.trans) (by kernel_rfl) (by decide) (by kernel_rfl) (by kernel_rfl) eLp.stays ?_ ?_
      · refine ⟨?_, ?_, ?_, ?_, ?_, ?_, ?_, ?_, ?_, ?_, ?_, ?_, ?_, ?_, ?_, ?_, ?_, ?_, ?_, ?_, ?_, ?_, ?_, ?_, ?_, ?_, ?_, ?_, ?_, ?_, ?_, ?_, ?_, ?_, trivial⟩
        · intro a W hb hf hp
          refine RR.ob_run (w' := W.alloc (.cells #[.int .u8 108, .int .u8 111, .int .u8 111, .int .u8 107, .int .u8 117, .int .u8 112] 5)) (v := .slice (some ⟨W.heap.size, 0, none⟩) 6 6) rfl (RR.wanted_none rfl) (fun ev hE hc => by simp only [List.getElem_toArray, List.getElem_cons_succ, List.getElem_cons_zero, execOp]; simp [hc]; go_simp) ?_ (Mk.of ((Below.refl _ W).alloc (Nat.le_refl _) _) (HZ1.out W hb))
          have hsl : Sl (W.alloc (.cells #[.int .u8 108, .int .u8 111, .int .u8 111, .int .u8 107, .int .u8 117, .int .u8 112] 5)) (.slice (some ⟨W.heap.size, 0, none⟩) 6 6) [108, 111, 111, 107, 117, 112] := (Ow.lit W [108, 111, 111, 107, 117, 112] _ 6 rfl rfl (by simp)).sl
          exact ⟨W.heap.size, 6, rfl, HZ1.out W hb, by simp, shape_new W _ _, hsl⟩
        · intro a W hb hf hp
          obtain ⟨g, n, h1, h2, h3, h4, h5⟩ : ∃ g n, a.eval (.tmp 16) = .slice (some ⟨g, 0, none⟩) 6 6 ∧ B ≤ g ∧ g < W.heap.size ∧ W.shape? g = some (5, n) ∧ Sl W (a.eval (.tmp 16)) [108, 111, 111, 107, 117, 112] := hpB hp 0 16 (by kernel_rfl)
          refine RR.ob_run (w' := W.freeze ⟨g, n, none⟩ 1) (v := .slice (some ⟨g, 0, none⟩) 6 6) rfl (RR.wanted_none rfl) (fun ev hE hc => by have q := (hE (.tmp 16)).trans h1; simp only [List.getElem_toArray, List.getElem_cons_succ, List.getElem_cons_zero, execOp]; rw [q]; simp [conv_mark g 6 6 _ n W h4]) ?_ (Mk.freeze h2)
          rw [h1] at h5
          exact h5.mk (Mk.freeze (B := B) h2)
        · intro a W hb hf hp
          have f1 : a.eval (.tmp 1) = .pointer (some ⟨h, 0, none⟩) := hf 1 (by kernel_rfl)
          exact RR.ob_val (Mk.refl _) rfl (RR.wanted_none rfl) (fun ev hE hc => by have q1 := (hE (.tmp 1)).trans f1; simp only [List.getElem_toArray, List.getElem_cons_succ, List.getElem_cons_zero, execOp]; rw [q1]; first | (go_simp; done) | (go_simp; rfl) | rfl) rfl
        · intro a W hb hf hp
          have f1 : a.eval (.tmp 18) = .pointer (some ⟨h, 0, none⟩) := hpB hp 2 18 (by kernel_rfl)
          exact RR.ob_val (Mk.refl _) rfl (RR.wanted_none rfl) (fun ev hE hc => by have hld := run_loadAt_mid (P := Try.prog) W h 0 26 (L.R.cells) _ (lc_root (HC.out W hb)) Try.underlying26 rfl (by rw [Rt.size HS.out.R]; kernel_rfl); have q := (hE (.tmp 18)).trans f1; simp only [List.getElem_toArray, List.getElem_cons_succ, List.getElem_cons_zero, execOp]; rw [q]; simp [hld]) rfl
        · intro a W hb hf hp
          have e0 : a.eval (.tmp 19) = .agg L.R.cells.toArray := hpB hp 3 19 (by kernel_rfl)
          refine RR.ob_call (f := 19) (args := #[.agg L.R.cells.toArray]) rfl (RR.wanted_none rfl) (fun ev hE hc => by have hfn := hE (.func 19); have q := (hE (.tmp 19)).trans e0; simp only [List.getElem_toArray, List.getElem_cons_succ, List.getElem_cons_zero, execOp, resolve]; simp [q, hfn, hc, go_sem]) ((encodeRoot_any L.R W HS.out.R).mono ?_)
          rintro e w6 ⟨v6, rfl, h6, h7⟩
          exact ⟨v6, rfl, h6, Mk.of h7 (HZ1.out W hb)⟩
        · intro a W hb hf hp
          have f1 : a.eval (.tmp 1) = .pointer (some ⟨h, 0, none⟩) := hf 1 (by kernel_rfl)
          exact RR.ob_val (Mk.refl _) rfl (RR.wanted_none rfl) (fun ev hE hc => by have q1 := (hE (.tmp 1)).trans f1; simp only [List.getElem_toArray, List.getElem_cons_succ, List.getElem_cons_zero, execOp]; rw [q1]; first | (go_simp; done) | (go_simp; rfl) | rfl) rfl
        · intro a W hb hf hp
          have f1 : a.eval (.tmp 21) = .pointer (some ⟨h, 163, none⟩) := hpB hp 5 21 (by kernel_rfl)
          have hcl := (HC.out W hb).ac
          exact RR.ob_val (Mk.refl _) rfl (RR.wanted_none rfl) (fun ev hE hc => by have q := (hE (.tmp 21)).trans f1; simp only [List.getElem_toArray, List.getElem_cons_succ, List.getElem_cons_zero, execOp]; rw [q]; first | (go_simp; done) | (go_simp; rfl)) rfl
        · intro a W hb hf hp
          have hs9 := conv_any W L.ac
          have f22 : a.eval (.tmp 22) = .string L.ac := hpB hp 6 22 (by kernel_rfl)
          obtain ⟨w9, c9, r1, r2, r3, r4⟩ := hs9
          refine RR.ob_run (w' := w9) (v := .slice (some ⟨W.heap.size, 0, none⟩) L.ac.size c9) rfl (RR.wanted_none rfl) (fun ev hE hc => by have q := (hE (.tmp 22)).trans f22; simp only [List.getElem_toArray, List.getElem_cons_succ, List.getElem_cons_zero, execOp]; rw [q]; simp [r1]) r2 (Mk.of r3 (HZ1.out W hb))
        · intro a W hb hf hp
          have f1 : a.eval (.tmp 1) = .pointer (some ⟨h, 0, none⟩) := hf 1 (by kernel_rfl)
          exact RR.ob_val (Mk.refl _) rfl (RR.wanted_none rfl) (fun ev hE hc => by have q1 := (hE (.tmp 1)).trans f1; simp only [List.getElem_toArray, List.getElem_cons_succ, List.getElem_cons_zero, execOp]; rw [q1]; first | (go_simp; done) | (go_simp; rfl) | rfl) rfl
        · intro a W hb hf hp
          have f1 : a.eval (.tmp 24) = .pointer (some ⟨h, 164, none⟩) := hpB hp 8 24 (by kernel_rfl)
          have hcl := (HC.out W hb).ve
          exact RR.ob_val (Mk.refl _) rfl (RR.wanted_none rfl) (fun ev hE hc => by have q := (hE (.tmp 24)).trans f1; simp only [List.getElem_toArray, List.getElem_cons_succ, List.getElem_cons_zero, execOp]; rw [q]; first | (go_simp; done) | (go_simp; rfl)) rfl
        · intro a W hb hf hp
          have e0 : a.eval (.tmp 25) = .int .u64 L.ve := hpB hp 9 25 (by kernel_rfl)
          refine RR.ob_call (f := 20) (args := #[.int .u64 L.ve]) rfl (RR.wanted_none rfl) (fun ev hE hc => by have hfn := hE (.func 20); have q := (hE (.tmp 25)).trans e0; simp only [List.getElem_toArray, List.getElem_cons_succ, List.getElem_cons_zero, execOp, resolve]; simp [q, hfn, hc, go_sem]) ((num_any L.ve W HS.out.ve.1 HS.out.ve.2).mono ?_)
          rintro e w6 ⟨v6, rfl, h6, h7⟩
          exact ⟨v6, rfl, h6.sl, Mk.of h7 (HZ1.out W hb)⟩
        · intro a W hb hf hp
          have f1 : a.eval (.tmp 1) = .pointer (some ⟨h, 0, none⟩) := hf 1 (by kernel_rfl)
          exact RR.ob_val (Mk.refl _) rfl (RR.wanted_none rfl) (fun ev hE hc => by have q1 := (hE (.tmp 1)).trans f1; simp only [List.getElem_toArray, List.getElem_cons_succ, List.getElem_cons_zero, execOp]; rw [q1]; first | (go_simp; done) | (go_simp; rfl) | rfl) rfl
        · intro a W hb hf hp
          have f1 : a.eval (.tmp 27) = .pointer (some ⟨h, 165, none⟩) := hpB hp 11 27 (by kernel_rfl)
          have hcl := (HC.out W hb).dv
          exact RR.ob_val (Mk.refl _) rfl (RR.wanted_none rfl) (fun ev hE hc => by have q := (hE (.tmp 27)).trans f1; simp only [List.getElem_toArray, List.getElem_cons_succ, List.getElem_cons_zero, execOp]; rw [q]; first | (go_simp; done) | (go_simp; rfl)) rfl
        · intro a W hb hf hp
          have e0 : a.eval (.tmp 28) = dv := hpB hp 12 28 (by kernel_rfl)
          refine RR.ob_call (f := 21) (args := #[dv]) rfl (RR.wanted_none rfl) (fun ev hE hc => by have hfn := hE (.func 21); have q := (hE (.tmp 28)).trans e0; simp only [List.getElem_toArray, List.getElem_cons_succ, List.getElem_cons_zero, execOp, resolve]; simp [q, hfn, hc, go_sem]) ((devicesBytes_any L.ds HS.out.ds HS.out.dl dv W (HV.out W hb).1).mono ?_)
          rintro e w6 ⟨v6, rfl, h6, h7⟩
          exact ⟨v6, rfl, h6.sl, Mk.of h7 (HZ1.out W hb)⟩
        · intro a W hb hf hp
          have f1 : a.eval (.tmp 1) = .pointer (some ⟨h, 0, none⟩) := hf 1 (by kernel_rfl)
          exact RR.ob_val (Mk.refl _) rfl (RR.wanted_none rfl) (fun ev hE hc => by have q1 := (hE (.tmp 1)).trans f1; simp only [List.getElem_toArray, List.getElem_cons_succ, List.getElem_cons_zero, execOp]; rw [q1]; first | (go_simp; done) | (go_simp; rfl) | rfl) rfl
        · intro a W hb hf hp
          have f30 : a.eval (.tmp 30) = .pointer (some ⟨h, 166, none⟩) := hpB hp 14 30 (by kernel_rfl)
          exact RR.ob_val (Mk.refl _) rfl (RR.wanted_none rfl) (fun ev hE hc => by have q30 := (hE (.tmp 30)).trans f30; simp only [List.getElem_toArray, List.getElem_cons_succ, List.getElem_cons_zero, execOp]; rw [q30]; first | (go_simp; done) | (go_simp; rfl) | rfl) rfl
        · intro a W hb hf hp
          have hs9 := sl80 HS.out.fp.1 (Nat.lt_of_lt_of_le HL1.out hb.size) (HC.out W hb).fp
          have f31 : a.eval (.tmp 31) = .pointer (some ⟨h, 166, none⟩) := hpB hp 15 31 (by kernel_rfl)
          exact RR.ob_val (Mk.refl _) (v := .slice (some ⟨h, 166, none⟩) 80 80) rfl (RR.wanted_none rfl) (fun ev hE hc => by have q31 := (hE (.tmp 31)).trans f31; simp only [List.getElem_toArray, List.getElem_cons_succ, List.getElem_cons_zero, execOp]; rw [q31]; first | (go_simp; done) | (go_simp; rfl) | rfl) hs9
        · intro a W hb hf hp
          have f1 : a.eval (.tmp 1) = .pointer (some ⟨h, 0, none⟩) := hf 1 (by kernel_rfl)
          exact RR.ob_val (Mk.refl _) rfl (RR.wanted_none rfl) (fun ev hE hc => by have q1 := (hE (.tmp 1)).trans f1; simp only [List.getElem_toArray, List.getElem_cons_succ, List.getElem_cons_zero, execOp]; rw [q1]; first | (go_simp; done) | (go_simp; rfl) | rfl) rfl
        · intro a W hb hf hp
          have f33 : a.eval (.tmp 33) = .pointer (some ⟨h, 166, none⟩) := hpB hp 17 33 (by kernel_rfl)
          exact RR.ob_val (Mk.refl _) rfl (RR.wanted_none rfl) (fun ev hE hc => by have q33 := (hE (.tmp 33)).trans f33; simp only [List.getElem_toArray, List.getElem_cons_succ, List.getElem_cons_zero, execOp]; rw [q33]; first | (go_simp; done) | (go_simp; rfl) | rfl) rfl
        · intro a W hb hf hp
          have f1 : a.eval (.tmp 34) = .pointer (some ⟨h, 246, none⟩) := hpB hp 18 34 (by kernel_rfl)
          have hcl := (HC.out W hb).nv
          exact RR.ob_val (Mk.refl _) rfl (RR.wanted_none rfl) (fun ev hE hc => by have q := (hE (.tmp 34)).trans f1; simp only [List.getElem_toArray, List.getElem_cons_succ, List.getElem_cons_zero, execOp]; rw [q]; first | (go_simp; done) | (go_simp; rfl)) rfl
        · intro a W hb hf hp
          have e0 : a.eval (.tmp 35) = nv := hpB hp 19 35 (by kernel_rfl)
          refine RR.ob_call (f := 22) (args := #[nv]) rfl (RR.wanted_none rfl) (fun ev hE hc => by have hfn := hE (.func 22); have q := (hE (.tmp 35)).trans e0; simp only [List.getElem_toArray, List.getElem_cons_succ, List.getElem_cons_zero, execOp, resolve]; simp [q, hfn, hc, go_sem]) ((nodesBytes_any L.fn HS.out.fn HLK.out.1 (by have := HS.out.fl; omega) nv W (HV.out W hb).2.1).mono ?_)
          rintro e w6 ⟨v6, rfl, h6, h7⟩
          exact ⟨v6, rfl, h6.sl, Mk.of h7 (HZ1.out W hb)⟩
        · intro a W hb hf hp
          have f1 : a.eval (.tmp 1) = .pointer (some ⟨h, 0, none⟩) := hf 1 (by kernel_rfl)
          exact RR.ob_val (Mk.refl _) rfl (RR.wanted_none rfl) (fun ev hE hc => by have q1 := (hE (.tmp 1)).trans f1; simp only [List.getElem_toArray, List.getElem_cons_succ, List.getElem_cons_zero, execOp]; rw [q1]; first | (go_simp; done) | (go_simp; rfl) | rfl) rfl
        · intro a W hb hf hp
          have f37 : a.eval (.tmp 37) = .pointer (some ⟨h, 247, none⟩) := hpB hp 21 37 (by kernel_rfl)
          exact RR.ob_val (Mk.refl _) rfl (RR.wanted_none rfl) (fun ev hE hc => by have q37 := (hE (.tmp 37)).trans f37; simp only [List.getElem_toArray, List.getElem_cons_succ, List.getElem_cons_zero, execOp]; rw [q37]; first | (go_simp; done) | (go_simp; rfl) | rfl) rfl
        · intro a W hb hf hp
          have hs9 := sl80 HS.out.sp.1 (Nat.lt_of_lt_of_le HL1.out hb.size) (HC.out W hb).sp
          have f38 : a.eval (.tmp 38) = .pointer (some ⟨h, 247, none⟩) := hpB hp 22 38 (by kernel_rfl)
          exact RR.ob_val (Mk.refl _) (v := .slice (some ⟨h, 247, none⟩) 80 80) rfl (RR.wanted_none rfl) (fun ev hE hc => by have q38 := (hE (.tmp 38)).trans f38; simp only [List.getElem_toArray, List.getElem_cons_succ, List.getElem_cons_zero, execOp]; rw [q38]; first | (go_simp; done) | (go_simp; rfl) | rfl) hs9
        · intro a W hb hf hp
          have f1 : a.eval (.tmp 1) = .pointer (some ⟨h, 0, none⟩) := hf 1 (by kernel_rfl)
          exact RR.ob_val (Mk.refl _) rfl (RR.wanted_none rfl) (fun ev hE hc => by have q1 := (hE (.tmp 1)).trans f1; simp only [List.getElem_toArray, List.getElem_cons_succ, List.getElem_cons_zero, execOp]; rw [q1]; first | (go_simp; done) | (go_simp; rfl) | rfl) rfl
        · intro a W hb hf hp
          have f40 : a.eval (.tmp 40) = .pointer (some ⟨h, 247, none⟩) := hpB hp 24 40 (by kernel_rfl)
          exact RR.ob_val (Mk.refl _) rfl (RR.wanted_none rfl) (fun ev hE hc => by have q40 := (hE (.tmp 40)).trans f40; simp only [List.getElem_toArray, List.getElem_cons_succ, List.getElem_cons_zero, execOp]; rw [q40]; first | (go_simp; done) | (go_simp; rfl) | rfl) rfl
        · intro a W hb hf hp
          have f1 : a.eval (.tmp 41) = .pointer (some ⟨h, 327, none⟩) := hpB hp 25 41 (by kernel_rfl)
          have hcl := (HC.out W hb).mv
          exact RR.ob_val (Mk.refl _) rfl (RR.wanted_none rfl) (fun ev hE hc => by have q := (hE (.tmp 41)).trans f1; simp only [List.getElem_toArray, List.getElem_cons_succ, List.getElem_cons_zero, execOp]; rw [q]; first | (go_simp; done) | (go_simp; rfl)) rfl
        · intro a W hb hf hp
          have e0 : a.eval (.tmp 42) = mv := hpB hp 26 42 (by kernel_rfl)
          refine RR.ob_call (f := 22) (args := #[mv]) rfl (RR.wanted_none rfl) (fun ev hE hc => by have hfn := hE (.func 22); have q := (hE (.tmp 42)).trans e0; simp only [List.getElem_toArray, List.getElem_cons_succ, List.getElem_cons_zero, execOp, resolve]; simp [q, hfn, hc, go_sem]) ((nodesBytes_any L.sn HS.out.sn HLK.out.2 (by have := HS.out.sl; omega) mv W (HV.out W hb).2.2).mono ?_)
          rintro e w6 ⟨v6, rfl, h6, h7⟩
          exact ⟨v6, rfl, h6.sl, Mk.of h7 (HZ1.out W hb)⟩
        · intro a W hb hf hp
          have u0 : Sl W (a.eval (.tmp 17)) ([108, 111, 111, 107, 117, 112]) := hpB hp 1 17 (by kernel_rfl)
          have u1 : Sl W (a.eval (.tmp 20)) ((encB L.R.all)) := hpB hp 4 20 (by kernel_rfl)
          have u2 : Sl W (a.eval (.tmp 23)) ((nb L.ac)) := hpB hp 7 23 (by kernel_rfl)
          have u3 : Sl W (a.eval (.tmp 26)) ((be 8 L.ve)) := hpB hp 10 26 (by kernel_rfl)
          have u4 : Sl W (a.eval (.tmp 29)) ((L.ds.flatMap id)) := hpB hp 13 29 (by kernel_rfl)
          have u5 : Sl W (a.eval (.tmp 32)) (L.fp) := hpB hp 16 32 (by kernel_rfl)
          have u6 : Sl W (a.eval (.tmp 36)) ((L.fn.flatMap ndb)) := hpB hp 20 36 (by kernel_rfl)
          have u7 : Sl W (a.eval (.tmp 39)) (L.sp) := hpB hp 23 39 (by kernel_rfl)
          have u8 : Sl W (a.eval (.tmp 43)) ((L.sn.flatMap ndb)) := hpB hp 27 43 (by kernel_rfl)
          have U0 := u0
          obtain ⟨a0, k0, q0, -, -⟩ := u0
          rw [q0] at U0
          have U1 := u1
          obtain ⟨a1, k1, q1, -, -⟩ := u1
          rw [q1] at U1
          have U2 := u2
          obtain ⟨a2, k2, q2, -, -⟩ := u2
          rw [q2] at U2
          have U3 := u3
          obtain ⟨a3, k3, q3, -, -⟩ := u3
          rw [q3] at U3
          have U4 := u4
          obtain ⟨a4, k4, q4, -, -⟩ := u4
          rw [q4] at U4
          have U5 := u5
          obtain ⟨a5, k5, q5, -, -⟩ := u5
          rw [q5] at U5
          have U6 := u6
          obtain ⟨a6, k6, q6, -, -⟩ := u6
          rw [q6] at U6
          have U7 := u7
          obtain ⟨a7, k7, q7, -, -⟩ := u7
          rw [q7] at U7
          have U8 := u8
          obtain ⟨a8, k8, q8, -, -⟩ := u8
          rw [q8] at U8
          obtain ⟨l0, hl0⟩ : ∃ l, List.length ([108, 111, 111, 107, 117, 112] : List Int) = l := ⟨_, rfl⟩
          rw [hl0] at q0 U0
          obtain ⟨l1, hl1⟩ : ∃ l, List.length ((encB L.R.all) : List Int) = l := ⟨_, rfl⟩
          rw [hl1] at q1 U1
          obtain ⟨l2, hl2⟩ : ∃ l, List.length ((nb L.ac) : List Int) = l := ⟨_, rfl⟩
          rw [hl2] at q2 U2
          obtain ⟨l3, hl3⟩ : ∃ l, List.length ((be 8 L.ve) : List Int) = l := ⟨_, rfl⟩
          rw [hl3] at q3 U3
          obtain ⟨l4, hl4⟩ : ∃ l, List.length ((L.ds.flatMap id) : List Int) = l := ⟨_, rfl⟩
          rw [hl4] at q4 U4
          obtain ⟨l5, hl5⟩ : ∃ l, List.length (L.fp : List Int) = l := ⟨_, rfl⟩
          rw [hl5] at q5 U5
          obtain ⟨l6, hl6⟩ : ∃ l, List.length ((L.fn.flatMap ndb) : List Int) = l := ⟨_, rfl⟩
          rw [hl6] at q6 U6
          obtain ⟨l7, hl7⟩ : ∃ l, List.length (L.sp : List Int) = l := ⟨_, rfl⟩
          rw [hl7] at q7 U7
          obtain ⟨l8, hl8⟩ : ∃ l, List.length ((L.sn.flatMap ndb) : List Int) = l := ⟨_, rfl⟩
          rw [hl8] at q8 U8
          have hbl : Below W.heap.size W (W.alloc (.cells #[.slice a0 l0 k0, .slice a1 l1 k1, .slice a2 l2 k2, .slice a3 l3 k3, .slice a4 l4 k4, .slice a5 l5 k5, .slice a6 l6 k6, .slice a7 l7 k7, .slice a8 l8 k8] 34)) := (Below.refl _ W).alloc (Nat.le_refl _) _
          refine RR.ob_run (w' := W.alloc (.cells #[.slice a0 l0 k0, .slice a1 l1 k1, .slice a2 l2 k2, .slice a3 l3 k3, .slice a4 l4 k4, .slice a5 l5 k5, .slice a6 l6 k6, .slice a7 l7 k7, .slice a8 l8 k8] 34)) (v := .slice (some ⟨W.heap.size, 0, none⟩) 9 9) rfl (RR.wanted_none rfl) (fun ev hE hc => by have p0 := (hE (.tmp 17)).trans q0; have p1 := (hE (.tmp 20)).trans q1; have p2 := (hE (.tmp 23)).trans q2; have p3 := (hE (.tmp 26)).trans q3; have p4 := (hE (.tmp 29)).trans q4; have p5 := (hE (.tmp 32)).trans q5; have p6 := (hE (.tmp 36)).trans q6; have p7 := (hE (.tmp 39)).trans q7; have p8 := (hE (.tmp 43)).trans q8; simp only [List.getElem_toArray, List.getElem_cons_succ, List.getElem_cons_zero, execOp]; simp [p0, p1, p2, p3, p4, p5, p6, p7, p8]; go_simp) ?_ (Mk.of hbl (HZ1.out W hb))
          refine ⟨_, 9, rfl, Nat.le_refl _, .inr ⟨W.heap.size, 0, rfl, by simp, fun i hi => ?_⟩⟩
          have hi3 : i < 9 := hi
          rw [Nat.zero_add, cell_alloc]
          rcases (show i = 0 ∨ i = 1 ∨ i = 2 ∨ i = 3 ∨ i = 4 ∨ i = 5 ∨ i = 6 ∨ i = 7 ∨ i = 8 by omega) with rfl | rfl | rfl | rfl | rfl | rfl | rfl | rfl | rfl
          · exact ⟨_, rfl, U0.below hbl (Nat.le_refl _)⟩
          · exact ⟨_, rfl, U1.below hbl (Nat.le_refl _)⟩
          · exact ⟨_, rfl, U2.below hbl (Nat.le_refl _)⟩
          · exact ⟨_, rfl, U3.below hbl (Nat.le_refl _)⟩
          · exact ⟨_, rfl, U4.below hbl (Nat.le_refl _)⟩
          · exact ⟨_, rfl, U5.below hbl (Nat.le_refl _)⟩
          · exact ⟨_, rfl, U6.below hbl (Nat.le_refl _)⟩
          · exact ⟨_, rfl, U7.below hbl (Nat.le_refl _)⟩
          · exact ⟨_, rfl, U8.below hbl (Nat.le_refl _)⟩
        · intro a W hb hf hp
          have e0 : LL W (a.eval (.tmp 44)) L.list := hpB hp 28 44 (by kernel_rfl)
          refine RR.ob_call (f := 16) (args := #[a.eval (.tmp 44)]) rfl (RR.wanted_none rfl) (fun ev hE hc => by have hfn := hE (.func 16); have q := hE (.tmp 44); simp only [List.getElem_toArray, List.getElem_cons_succ, List.getElem_cons_zero, execOp, resolve]; simp [q, hfn, hc, go_sem]) ((encode_any L.list _ W e0 (Lp.lens HS.out).1 (by rw [(Lp.lens HS.out).2]; omega)).mono ?_)
          rintro e w6 ⟨v6, rfl, h6, h7⟩
          exact ⟨_, rfl, ⟨v6, rfl, h6.sl⟩, Mk.of h7 (HZ1.out W hb)⟩
        · intro a W hb hf hp
          obtain ⟨v6, h6, h7⟩ : ∃ v', a.eval (.tmp 45) = .tuple #[v', .int .i64 (encE L.list)] ∧ Sl W v' (encB L.list) := hpB hp 29 45 (by kernel_rfl)
          exact RR.ob_val (Mk.refl _) rfl (RR.wanted_none rfl) (fun ev hE hc => by have q := (hE (.tmp 45)).trans h6; simp [execOp, q, hc, go_sem]) h7
        · intro a W hb hf hp
          obtain ⟨v6, h6, h7⟩ : ∃ v', a.eval (.tmp 45) = .tuple #[v', .int .i64 (encE L.list)] ∧ Sl W v' (encB L.list) := hpB hp 29 45 (by kernel_rfl)
          exact RR.ob_val (Mk.refl _) rfl (RR.wanted_none rfl) (fun ev hE hc => by have q := (hE (.tmp 45)).trans h6; simp [execOp, q, hc, go_sem]) rfl
        · intro a W hb hf hp
          have h7 : Sl W (a.eval (.tmp 46)) (encB L.list) := hpB hp 30 46 (by kernel_rfl)
          exact RR.ob_val (Mk.refl _) rfl (RR.wanted_none rfl) (fun ev hE hc => by have q := hE (.tmp 46); simp only [List.getElem_toArray, List.getElem_cons_succ, List.getElem_cons_zero, execOp]; rw [q]; rfl) h7
        · intro a W hb hf hp
          have e0 : a.eval (.tmp 47) = .int .i64 (encE L.list) := hpB hp 31 47 (by kernel_rfl)
          exact RR.ob_val (Mk.refl _) rfl (RR.wanted_none rfl) (fun ev hE hc => by have q := (hE (.tmp 47)).trans e0; simp [execOp, q, hc, go_sem]) rfl
      · intro a W g1 g2 g3 g4 g5
        have hres : Sl W (a.eval (.tmp 2)) (encB L.list) := g5 32 _ 2 rfl rfl
        have her : a.eval (.tmp 3) = .int .i64 (encE L.list) := g5 33 _ 3 rfl rfl
        have HD : Hid (Below w.heap.size w W) := BE.out.trans (g3.below.mono (by rw [← HB.out]; exact BE.out.size))
        obtain ⟨t, df⟩ := a
        simp only at g1 g2
        subst g2
        obtain ⟨l, rfl⟩ : ∃ l : List Value, t = l.toArray := ⟨t.toList, by simp⟩
        have hl17 : l.length = 48 := by simpa using g1
        clear g1 g3 g4 g5
        match l, hl17, hres, her with
        | x0 :: x1 :: x2 :: x3 :: x4 :: x5 :: x6 :: x7 :: x8 :: x9 :: x10 :: x11 :: x12 :: x13 :: x14 :: x15 :: x16 :: x17 :: x18 :: x19 :: x20 :: x21 :: x22 :: x23 :: x24 :: x25 :: x26 :: x27 :: x28 :: x29 :: x30 :: x31 :: x32 :: x33 :: x34 :: x35 :: x36 :: x37 :: x38 :: x39 :: x40 :: x41 :: x42 :: x43 :: x44 :: x45 :: x46 :: x47 :: [], _, hres, her =>
          have HRS : Hid (Sl W x2 (encB L.list)) := hres
          have HER : Hid (x3 = .int .i64 (encE L.list)) := her
          clear hres her
          go_wp2
          go_ret2
          rw [E.out.1, E.out.2, HER.out]
          exact ⟨_, rfl, HRS.out, HD.out⟩
def eLr (L : Lp) (h : Nat) (dv nv mv v4 v6 : Value) (B : Nat) : Nat → Value → World → Prop
  | 0, v, w => ∃ g n, v = .slice (some ⟨g, 0, none⟩) 6 6 ∧ B ≤ g ∧ g < w.heap.size ∧ w.shape? g = some (5, n) ∧ Sl w v [108, 111, 111, 107, 117, 112]
  | 1, v, w => Sl w v [108, 111, 111, 107, 117, 112]
  | 2, v, w => v = .pointer (some ⟨h, 0, none⟩)
  | 3, v, w => v = .agg L.R.cells.toArray
  | 4, v, w => Sl w v (encB L.R.all)
  | 5, v, w => v = .pointer (some ⟨h, 163, none⟩)
  | 6, v, w => v = .string L.ac
  | 7, v, w => Sl w v (nb L.ac)
  | 8, v, w => v = .pointer (some ⟨h, 164, none⟩)
  | 9, v, w => v = .int .u64 L.ve
  | 10, v, w => Sl w v (be 8 L.ve)
  | 11, v, w => v = .pointer (some ⟨h, 165, none⟩)
  | 12, v, w => v = dv
  | 13, v, w => Sl w v (L.ds.flatMap id)
  | 14, v, w => v = .pointer (some ⟨h, 166, none⟩)
  | 15, v, w => v = .pointer (some ⟨h, 166, none⟩)
  | 16, v, w => Sl w v L.fp
  | 17, v, w => Sl w v (L.fn.flatMap ndb)
  | 18, v, w => v = .pointer (some ⟨h, 247, none⟩)
  | 19, v, w => v = .pointer (some ⟨h, 247, none⟩)
  | 20, v, w => Sl w v L.sp
  | 21, v, w => Sl w v (L.sn.flatMap ndb)
  | 22, v, w => LL w v L.list
  | 23, v, w => ∃ v', v = .tuple #[v', .int .i64 (encE L.list)] ∧ Sl w v' (encB L.list)
  | 24, v, w => Sl w v (encB L.list)
  | 25, v, w => v = .int .i64 (encE L.list)
  | 26, v, w => Sl w v (encB L.list)
  | 27, v, w => v = .int .i64 (encE L.list)
  | _ + 28, _, _ => True
theorem eLr.stays {L : Lp} {h : Nat} {dv nv mv v4 v6 : Value} {B : Nat} : ∀ (i : Nat) (v : Value) (w w' : World), eLr L h dv nv mv v4 v6 B i v w → Mk B w w' → eLr L h dv nv mv v4 v6 B i v w'
  | 0, v, w, w', k, m => by
    obtain ⟨g, n, h1, h2, h3, h4, h5⟩ := k
    exact ⟨g, n, h1, h2, Nat.lt_of_lt_of_le h3 m.size, (m.shape g h3).trans h4, h5.mk m⟩
  | 1, v, w, w', k, m => Sl.mk k m
  | 2, v, w, w', k, m => k
  | 3, v, w, w', k, m => k
  | 4, v, w, w', k, m => Sl.mk k m
  | 5, v, w, w', k, m => k
  | 6, v, w, w', k, m => k
  | 7, v, w, w', k, m => Sl.mk k m
  | 8, v, w, w', k, m => k
  | 9, v, w, w', k, m => k
  | 10, v, w, w', k, m => Sl.mk k m
  | 11, v, w, w', k, m => k
  | 12, v, w, w', k, m => k
  | 13, v, w, w', k, m => Sl.mk k m
  | 14, v, w, w', k, m => k
  | 15, v, w, w', k, m => k
  | 16, v, w, w', k, m => Sl.mk k m
  | 17, v, w, w', k, m => Sl.mk k m
  | 18, v, w, w', k, m => k
  | 19, v, w, w', k, m => k
  | 20, v, w, w', k, m => Sl.mk k m
  | 21, v, w, w', k, m => Sl.mk k m
  | 22, v, w, w', k, m => LL.mk k m
  | 23, v, w, w', k, m => by
    obtain ⟨v', h1, h2⟩ := k
    exact ⟨v', h1, h2.mk m⟩
  | 24, v, w, w', k, m => Sl.mk k m
  | 25, v, w, w', k, m => k
  | 26, v, w, w', k, m => Sl.mk k m
  | 27, v, w, w', k, m => k
  | _ + 28, _, _, _, _, _ => trivial
set_option maxHeartbeats 8000000 in
theorem rencodeLookup_any (L : Lp) (hS : L.Ok) (A : List Value) (w : World) (hA : LV w A L) :
    Calls Try.prog 7 #[.agg A.toArray] w fun e w' => ∃ v', e = .returned (.tuple #[v', .int .i64 (leE L)]) ∧ Sl w' v' (leB L) ∧ Below w.heap.size w w' := by
  have HS : Hid L.Ok := hS
  obtain ⟨dv, nv, mv, rfl, h1, h2, h3⟩ := hA
  have HV0 : Hid (YS w dv L.ds ∧ NS w nv L.fn ∧ NS w mv L.sn) := ⟨h1, h2, h3⟩
  have hsz : (lc L dv nv mv).toArray.size = 328 := by rw [List.size_toArray]; exact lc_length hS.le _ _ _
  obtain ⟨A, hA⟩ : ∃ A, (lc L dv nv mv).toArray = A := ⟨_, rfl⟩
  have HA : Hid (∀ j, A[j]? = (lc L dv nv mv)[j]?) := fun j => by rw [← hA, List.getElem?_toArray]
  rw [hA] at hsz ⊢
  clear hA hS h1 h2 h3
  have HW0 : Hid (∀ j, (w.alloc (Obj.cells A 33)).cell? ⟨w.heap.size, j, none⟩ = (lc L dv nv mv)[j]?) := fun j => (cell_alloc w A _ _ j).trans (HA.out j)
  have HB0 : Hid (Below w.heap.size w (w.alloc (Obj.cells A 33)) ∧ w.heap.size < (w.alloc (Obj.cells A 33)).heap.size) := ⟨(Below.refl _ w).alloc (Nat.le_refl _) _, by simp⟩
  have hcn : (w.alloc (Obj.cells A 33)).cell? ⟨w.heap.size, 246, none⟩ = some nv := (lat_of HS.out.le HW0.out).nv
  have HN0 : Hid (NS (w.alloc (Obj.cells A 33)) nv L.fn) := HV0.out.2.1.below HB0.out.1
  have HCL : Hid (Calls Try.prog 23 #[nv] (w.alloc (Obj.cells A 33)) fun e w' => ∃ v' ok, e = .returned (.tuple #[v', .bool ok]) ∧ RNb (w.alloc (Obj.cells A 33)).heap.size L.fn v' ok w' ∧ Below (w.alloc (Obj.cells A 33)).heap.size (w.alloc (Obj.cells A 33)) w') := rnodes_any L.fn HS.out.fn (by have := HS.out.fl; omega) nv _ HN0.out
  go_enter Try.func7, Try.ntmps7
  go_wp2_with fail
  refine HCL.out.mono ?_
  rintro e w1 ⟨v4, ok, rfl, g1, g2⟩
  have K1 : Hid (RNb (w.alloc (Obj.cells A 33)).heap.size L.fn v4 ok w1) := g1
  have G1 : Hid (Below (w.alloc (Obj.cells A 33)).heap.size (w.alloc (Obj.cells A 33)) w1) := g2
  clear g1 g2 hcn
  have hcm : w1.cell? ⟨w.heap.size, 327, none⟩ = some mv := (G1.out.cell (p := ⟨w.heap.size, 327, none⟩) HB0.out.2).trans (lat_of HS.out.le HW0.out).mv
  have HM1 : Hid (NS w1 mv L.sn) := (HV0.out.2.2.below HB0.out.1).below G1.out
  go_wp2_with fail
  refine (rnodes_any L.sn HS.out.sn (by have := HS.out.sl; omega) mv w1 HM1.out).mono ?_
  rintro e w2 ⟨v6, ok2, rfl, g1, g2⟩
  have K2 : Hid (RNb w1.heap.size L.sn v6 ok2 w2) := g1
  have B12 : Hid (Below w1.heap.size w1 w2) := g2
  have G2 : Hid (Below (w.alloc (Obj.cells A 33)).heap.size (w.alloc (Obj.cells A 33)) w2) := G1.out.trans (g2.mono G1.out.size)
  clear g1 g2 hcm
  cases ok with
  | false =>
    have hno : llb L = false := by
      unfold llb
      cases hq : lokb L.fn with
      | false => rfl
      | true =>
        rcases K1.out with ⟨_, e, _⟩ | ⟨hn, _⟩
        · cases e
        · exact absurd ((lokb_iff _).1 hq) hn
    have BE : Hid (Below w.heap.size w w2) := HB0.out.1.trans (G2.out.mono HB0.out.1.size)
    have E : Hid (leE L = 1 ∧ leB L = []) := le_no hno
    go_wp2_with fail
    go_ret2
    rw [E.out.1, E.out.2]
    exact ⟨_, rfl, ⟨none, 0, rfl, Nat.le_refl _, .inl ⟨rfl, fun _ => rfl⟩⟩, BE.out⟩
  | true =>
    cases ok2 with
    | false =>
      have hno : llb L = false := by
        unfold llb
        cases hq : lokb L.sn with
        | false => exact Bool.and_false _
        | true =>
          rcases K2.out with ⟨_, e, _⟩ | ⟨hn, _⟩
          · cases e
          · exact absurd ((lokb_iff _).1 hq) hn
      have BE : Hid (Below w.heap.size w w2) := HB0.out.1.trans (G2.out.mono HB0.out.1.size)
      have E : Hid (leE L = 1 ∧ leB L = []) := le_no hno
      go_wp2_with fail
      go_ret2
      rw [E.out.1, E.out.2]
      exact ⟨_, rfl, ⟨none, 0, rfl, Nat.le_refl _, .inl ⟨rfl, fun _ => rfl⟩⟩, BE.out⟩
    | true =>
      have F1 : Hid (lok L.fn ∧ Sl w2 v4 (L.fn.flatMap ndb)) := by
        rcases K1.out with ⟨hy, _, hq⟩ | ⟨_, e, _⟩
        · exact ⟨hy, hq.sl.below B12.out (Nat.le_refl _)⟩
        · cases e
      have F2 : Hid (lok L.sn ∧ Sl w2 v6 (L.sn.flatMap ndb)) := by
        rcases K2.out with ⟨hy, _, hq⟩ | ⟨_, e, _⟩
        · exact ⟨hy, hq.sl⟩
        · cases e
      have HLK : Hid (lok L.fn ∧ lok L.sn) := ⟨F1.out.1, F2.out.1⟩
      have E : Hid (leE L = encE L.list ∧ leB L = encB L.list) := le_yes (by unfold llb; rw [(lokb_iff _).2 HLK.out.1, (lokb_iff _).2 HLK.out.2]; rfl)
      have BE : Hid (Below w.heap.size w w2) := HB0.out.1.trans (G2.out.mono HB0.out.1.size)
      have HV1 : Hid (YS w2 dv L.ds ∧ NS w2 nv L.fn ∧ NS w2 mv L.sn) := ⟨HV0.out.1.below' BE.out, HV0.out.2.1.below BE.out, HV0.out.2.2.below BE.out⟩
      have HC1 : Hid (∀ j, w2.cell? ⟨w.heap.size, j, none⟩ = (lc L dv nv mv)[j]?) := fun j => (G2.out.cell (p := ⟨w.heap.size, j, none⟩) HB0.out.2).trans (HW0.out j)
      have HL1 : Hid (w.heap.size < w2.heap.size) := Nat.lt_of_lt_of_le HB0.out.2 G2.out.size
      obtain ⟨h, hh⟩ : ∃ h, w.heap.size = h := ⟨_, rfl⟩
      have HH : Hid (w.heap.size = h) := hh
      rw [hh] at HC1 HL1
      go_upto_region 5 with (fail)
      try rw [hh]
      clear hh
      obtain ⟨B, hB⟩ : ∃ B, w2.heap.size = B := ⟨_, rfl⟩
      have HB : Hid (w2.heap.size = B) := hB
      have HC : Hid (∀ W, Mk B w2 W → LAt L dv nv mv (fun j => W.cell? ⟨h, j, none⟩)) := fun W m => lat_of HS.out.le (fun j => (m.cell h j HL1.out).trans (HC1.out j))
      have HV : Hid (∀ W, Mk B w2 W → YS W dv L.ds ∧ NS W nv L.fn ∧ NS W mv L.sn) := fun W m => by
        have mb := m.below
        rw [← hB] at mb
        exact ⟨HV1.out.1.below' mb, HV1.out.2.1.below mb, HV1.out.2.2.below mb⟩
      have HF : Hid (∀ W, Mk B w2 W → Sl W v4 (L.fn.flatMap ndb)) := fun W m => F1.out.2.mk m
      have HG : Hid (∀ W, Mk B w2 W → Sl W v6 (L.sn.flatMap ndb)) := fun W m => F2.out.2.mk m
      have HZ1 : Hid (∀ W, Mk B w2 W → B ≤ W.heap.size) := fun W m => by have := m.size; rw [hB] at this; exact this
      clear hB
      refine RR.wp_rgn (eLr L h dv nv mv v4 v6 B) (Mk B) (Mk.draw _ _) (fun _ _ _ => Mk.trans) (by kernel_rfl) (by decide) (by kernel_rfl) (by kernel_rfl) eLr.stays ?_ ?_
      · refine ⟨?_, ?_, ?_, ?_, ?_, ?_, ?_, ?_, ?_, ?_, ?_, ?_, ?_, ?_, ?_, ?_, ?_, ?_, ?_, ?_, ?_, ?_, ?_, ?_, ?_, ?_, ?_, ?_, trivial⟩
        · intro a W hb hf hp
          refine RR.ob_run (w' := W.alloc (.cells #[.int .u8 108, .int .u8 111, .int .u8 111, .int .u8 107, .int .u8 117, .int .u8 112] 5)) (v := .slice (some ⟨W.heap.size, 0, none⟩) 6 6) rfl (RR.wanted_none rfl) (fun ev hE hc => by simp only [List.getElem_toArray, List.getElem_cons_succ, List.getElem_cons_zero, execOp]; simp [hc]; go_simp) ?_ (Mk.of ((Below.refl _ W).alloc (Nat.le_refl _) _) (HZ1.out W hb))
          have hsl : Sl (W.alloc (.cells #[.int .u8 108, .int .u8 111, .int .u8 111, .int .u8 107, .int .u8 117, .int .u8 112] 5)) (.slice (some ⟨W.heap.size, 0, none⟩) 6 6) [108, 111, 111, 107, 117, 112] := (Ow.lit W [108, 111, 111, 107, 117, 112] _ 6 rfl rfl (by simp)).sl
          exact ⟨W.heap.size, 6, rfl, HZ1.out W hb, by simp, shape_new W _ _, hsl⟩
        · intro a W hb hf hp
          obtain ⟨g, n, h1, h2, h3, h4, h5⟩ : ∃ g n, a.eval (.tmp 28) = .slice (some ⟨g, 0, none⟩) 6 6 ∧ B ≤ g ∧ g < W.heap.size ∧ W.shape? g = some (5, n) ∧ Sl W (a.eval (.tmp 28)) [108, 111, 111, 107, 117, 112] := hpB hp 0 28 (by kernel_rfl)
          refine RR.ob_run (w' := W.freeze ⟨g, n, none⟩ 1) (v := .slice (some ⟨g, 0, none⟩) 6 6) rfl (RR.wanted_none rfl) (fun ev hE hc => by have q := (hE (.tmp 28)).trans h1; simp only [List.getElem_toArray, List.getElem_cons_succ, List.getElem_cons_zero, execOp]; rw [q]; simp [conv_mark g 6 6 _ n W h4]) ?_ (Mk.freeze h2)
          rw [h1] at h5
          exact h5.mk (Mk.freeze (B := B) h2)
        · intro a W hb hf hp
          have f1 : a.eval (.tmp 1) = .pointer (some ⟨h, 0, none⟩) := hf 1 (by kernel_rfl)
          exact RR.ob_val (Mk.refl _) rfl (RR.wanted_none rfl) (fun ev hE hc => by have q1 := (hE (.tmp 1)).trans f1; simp only [List.getElem_toArray, List.getElem_cons_succ, List.getElem_cons_zero, execOp]; rw [q1]; first | (go_simp; done) | (go_simp; rfl) | rfl) rfl
        · intro a W hb hf hp
          have f1 : a.eval (.tmp 30) = .pointer (some ⟨h, 0, none⟩) := hpB hp 2 30 (by kernel_rfl)
          exact RR.ob_val (Mk.refl _) rfl (RR.wanted_none rfl) (fun ev hE hc => by have hld := run_loadAt_mid (P := Try.prog) W h 0 26 (L.R.cells) _ (lc_root (HC.out W hb)) Try.underlying26 rfl (by rw [Rt.size HS.out.R]; kernel_rfl); have q := (hE (.tmp 30)).trans f1; simp only [List.getElem_toArray, List.getElem_cons_succ, List.getElem_cons_zero, execOp]; rw [q]; simp [hld]) rfl
        · intro a W hb hf hp
          have e0 : a.eval (.tmp 31) = .agg L.R.cells.toArray := hpB hp 3 31 (by kernel_rfl)
          refine RR.ob_call (f := 25) (args := #[.agg L.R.cells.toArray]) rfl (RR.wanted_none rfl) (fun ev hE hc => by have hfn := hE (.func 25); have q := (hE (.tmp 31)).trans e0; simp only [List.getElem_toArray, List.getElem_cons_succ, List.getElem_cons_zero, execOp, resolve]; simp [q, hfn, hc, go_sem]) ((rencodeRoot_any L.R W HS.out.R).mono ?_)
          rintro e w6 ⟨v6, rfl, h6, h7⟩
          exact ⟨v6, rfl, h6, Mk.of h7 (HZ1.out W hb)⟩
        · intro a W hb hf hp
          have f1 : a.eval (.tmp 1) = .pointer (some ⟨h, 0, none⟩) := hf 1 (by kernel_rfl)
          exact RR.ob_val (Mk.refl _) rfl (RR.wanted_none rfl) (fun ev hE hc => by have q1 := (hE (.tmp 1)).trans f1; simp only [List.getElem_toArray, List.getElem_cons_succ, List.getElem_cons_zero, execOp]; rw [q1]; first | (go_simp; done) | (go_simp; rfl) | rfl) rfl
        · intro a W hb hf hp
          have f1 : a.eval (.tmp 33) = .pointer (some ⟨h, 163, none⟩) := hpB hp 5 33 (by kernel_rfl)
          have hcl := (HC.out W hb).ac
          exact RR.ob_val (Mk.refl _) rfl (RR.wanted_none rfl) (fun ev hE hc => by have q := (hE (.tmp 33)).trans f1; simp only [List.getElem_toArray, List.getElem_cons_succ, List.getElem_cons_zero, execOp]; rw [q]; first | (go_simp; done) | (go_simp; rfl)) rfl
        · intro a W hb hf hp
          have hs9 := conv_any W L.ac
          have f34 : a.eval (.tmp 34) = .string L.ac := hpB hp 6 34 (by kernel_rfl)
          obtain ⟨w9, c9, r1, r2, r3, r4⟩ := hs9
          refine RR.ob_run (w' := w9) (v := .slice (some ⟨W.heap.size, 0, none⟩) L.ac.size c9) rfl (RR.wanted_none rfl) (fun ev hE hc => by have q := (hE (.tmp 34)).trans f34; simp only [List.getElem_toArray, List.getElem_cons_succ, List.getElem_cons_zero, execOp]; rw [q]; simp [r1]) r2 (Mk.of r3 (HZ1.out W hb))
        · intro a W hb hf hp
          have f1 : a.eval (.tmp 1) = .pointer (some ⟨h, 0, none⟩) := hf 1 (by kernel_rfl)
          exact RR.ob_val (Mk.refl _) rfl (RR.wanted_none rfl) (fun ev hE hc => by have q1 := (hE (.tmp 1)).trans f1; simp only [List.getElem_toArray, List.getElem_cons_succ, List.getElem_cons_zero, execOp]; rw [q1]; first | (go_simp; done) | (go_simp; rfl) | rfl) rfl
        · intro a W hb hf hp
          have f1 : a.eval (.tmp 36) = .pointer (some ⟨h, 164, none⟩) := hpB hp 8 36 (by kernel_rfl)
          have hcl := (HC.out W hb).ve
          exact RR.ob_val (Mk.refl _) rfl (RR.wanted_none rfl) (fun ev hE hc => by have q := (hE (.tmp 36)).trans f1; simp only [List.getElem_toArray, List.getElem_cons_succ, List.getElem_cons_zero, execOp]; rw [q]; first | (go_simp; done) | (go_simp; rfl)) rfl
        · intro a W hb hf hp
          have e0 : a.eval (.tmp 37) = .int .u64 L.ve := hpB hp 9 37 (by kernel_rfl)
          refine RR.ob_call (f := 26) (args := #[.int .u64 L.ve]) rfl (RR.wanted_none rfl) (fun ev hE hc => by have hfn := hE (.func 26); have q := (hE (.tmp 37)).trans e0; simp only [List.getElem_toArray, List.getElem_cons_succ, List.getElem_cons_zero, execOp, resolve]; simp [q, hfn, hc, go_sem]) ((rnum_any L.ve W HS.out.ve.1 HS.out.ve.2).mono ?_)
          rintro e w6 ⟨v6, rfl, h6, h7⟩
          exact ⟨v6, rfl, h6.sl, Mk.of h7 (HZ1.out W hb)⟩
        · intro a W hb hf hp
          have f1 : a.eval (.tmp 1) = .pointer (some ⟨h, 0, none⟩) := hf 1 (by kernel_rfl)
          exact RR.ob_val (Mk.refl _) rfl (RR.wanted_none rfl) (fun ev hE hc => by have q1 := (hE (.tmp 1)).trans f1; simp only [List.getElem_toArray, List.getElem_cons_succ, List.getElem_cons_zero, execOp]; rw [q1]; first | (go_simp; done) | (go_simp; rfl) | rfl) rfl
        · intro a W hb hf hp
          have f1 : a.eval (.tmp 39) = .pointer (some ⟨h, 165, none⟩) := hpB hp 11 39 (by kernel_rfl)
          have hcl := (HC.out W hb).dv
          exact RR.ob_val (Mk.refl _) rfl (RR.wanted_none rfl) (fun ev hE hc => by have q := (hE (.tmp 39)).trans f1; simp only [List.getElem_toArray, List.getElem_cons_succ, List.getElem_cons_zero, execOp]; rw [q]; first | (go_simp; done) | (go_simp; rfl)) rfl
        · intro a W hb hf hp
          have e0 : a.eval (.tmp 40) = dv := hpB hp 12 40 (by kernel_rfl)
          refine RR.ob_call (f := 27) (args := #[dv]) rfl (RR.wanted_none rfl) (fun ev hE hc => by have hfn := hE (.func 27); have q := (hE (.tmp 40)).trans e0; simp only [List.getElem_toArray, List.getElem_cons_succ, List.getElem_cons_zero, execOp, resolve]; simp [q, hfn, hc, go_sem]) ((rhashes_any L.ds HS.out.ds (by have := HS.out.dl; omega) dv W (HV.out W hb).1).mono ?_)
          rintro e w6 ⟨v6, rfl, h6, h7⟩
          exact ⟨v6, rfl, h6.sl, Mk.of h7 (HZ1.out W hb)⟩
        · intro a W hb hf hp
          have f1 : a.eval (.tmp 1) = .pointer (some ⟨h, 0, none⟩) := hf 1 (by kernel_rfl)
          exact RR.ob_val (Mk.refl _) rfl (RR.wanted_none rfl) (fun ev hE hc => by have q1 := (hE (.tmp 1)).trans f1; simp only [List.getElem_toArray, List.getElem_cons_succ, List.getElem_cons_zero, execOp]; rw [q1]; first | (go_simp; done) | (go_simp; rfl) | rfl) rfl
        · intro a W hb hf hp
          have f42 : a.eval (.tmp 42) = .pointer (some ⟨h, 166, none⟩) := hpB hp 14 42 (by kernel_rfl)
          exact RR.ob_val (Mk.refl _) rfl (RR.wanted_none rfl) (fun ev hE hc => by have q42 := (hE (.tmp 42)).trans f42; simp only [List.getElem_toArray, List.getElem_cons_succ, List.getElem_cons_zero, execOp]; rw [q42]; first | (go_simp; done) | (go_simp; rfl) | rfl) rfl
        · intro a W hb hf hp
          have hs9 := sl80 HS.out.fp.1 (Nat.lt_of_lt_of_le HL1.out hb.size) (HC.out W hb).fp
          have f43 : a.eval (.tmp 43) = .pointer (some ⟨h, 166, none⟩) := hpB hp 15 43 (by kernel_rfl)
          exact RR.ob_val (Mk.refl _) (v := .slice (some ⟨h, 166, none⟩) 80 80) rfl (RR.wanted_none rfl) (fun ev hE hc => by have q43 := (hE (.tmp 43)).trans f43; simp only [List.getElem_toArray, List.getElem_cons_succ, List.getElem_cons_zero, execOp]; rw [q43]; first | (go_simp; done) | (go_simp; rfl) | rfl) hs9
        · intro a W hb hf hp
          have hs9 := HF.out W hb
          have f4 : a.eval (.tmp 4) = v4 := hf 4 (by kernel_rfl)
          exact RR.ob_val (Mk.refl _) (v := v4) rfl (RR.wanted_none rfl) (fun ev hE hc => by have q4 := (hE (.tmp 4)).trans f4; simp only [List.getElem_toArray, List.getElem_cons_succ, List.getElem_cons_zero, execOp]; rw [q4]; first | (go_simp; done) | (go_simp; rfl) | rfl) hs9
        · intro a W hb hf hp
          have f1 : a.eval (.tmp 1) = .pointer (some ⟨h, 0, none⟩) := hf 1 (by kernel_rfl)
          exact RR.ob_val (Mk.refl _) rfl (RR.wanted_none rfl) (fun ev hE hc => by have q1 := (hE (.tmp 1)).trans f1; simp only [List.getElem_toArray, List.getElem_cons_succ, List.getElem_cons_zero, execOp]; rw [q1]; first | (go_simp; done) | (go_simp; rfl) | rfl) rfl
        · intro a W hb hf hp
          have f46 : a.eval (.tmp 46) = .pointer (some ⟨h, 247, none⟩) := hpB hp 18 46 (by kernel_rfl)
          exact RR.ob_val (Mk.refl _) rfl (RR.wanted_none rfl) (fun ev hE hc => by have q46 := (hE (.tmp 46)).trans f46; simp only [List.getElem_toArray, List.getElem_cons_succ, List.getElem_cons_zero, execOp]; rw [q46]; first | (go_simp; done) | (go_simp; rfl) | rfl) rfl
        · intro a W hb hf hp
          have hs9 := sl80 HS.out.sp.1 (Nat.lt_of_lt_of_le HL1.out hb.size) (HC.out W hb).sp
          have f47 : a.eval (.tmp 47) = .pointer (some ⟨h, 247, none⟩) := hpB hp 19 47 (by kernel_rfl)
          exact RR.ob_val (Mk.refl _) (v := .slice (some ⟨h, 247, none⟩) 80 80) rfl (RR.wanted_none rfl) (fun ev hE hc => by have q47 := (hE (.tmp 47)).trans f47; simp only [List.getElem_toArray, List.getElem_cons_succ, List.getElem_cons_zero, execOp]; rw [q47]; first | (go_simp; done) | (go_simp; rfl) | rfl) hs9
        · intro a W hb hf hp
          have hs9 := HG.out W hb
          have f6 : a.eval (.tmp 6) = v6 := hf 6 (by kernel_rfl)
          exact RR.ob_val (Mk.refl _) (v := v6) rfl (RR.wanted_none rfl) (fun ev hE hc => by have q6 := (hE (.tmp 6)).trans f6; simp only [List.getElem_toArray, List.getElem_cons_succ, List.getElem_cons_zero, execOp]; rw [q6]; first | (go_simp; done) | (go_simp; rfl) | rfl) hs9
        · intro a W hb hf hp
          have u0 : Sl W (a.eval (.tmp 29)) ([108, 111, 111, 107, 117, 112]) := hpB hp 1 29 (by kernel_rfl)
          have u1 : Sl W (a.eval (.tmp 32)) ((encB L.R.all)) := hpB hp 4 32 (by kernel_rfl)
          have u2 : Sl W (a.eval (.tmp 35)) ((nb L.ac)) := hpB hp 7 35 (by kernel_rfl)
          have u3 : Sl W (a.eval (.tmp 38)) ((be 8 L.ve)) := hpB hp 10 38 (by kernel_rfl)
          have u4 : Sl W (a.eval (.tmp 41)) ((L.ds.flatMap id)) := hpB hp 13 41 (by kernel_rfl)
          have u5 : Sl W (a.eval (.tmp 44)) (L.fp) := hpB hp 16 44 (by kernel_rfl)
          have u6 : Sl W (a.eval (.tmp 45)) ((L.fn.flatMap ndb)) := hpB hp 17 45 (by kernel_rfl)
          have u7 : Sl W (a.eval (.tmp 48)) (L.sp) := hpB hp 20 48 (by kernel_rfl)
          have u8 : Sl W (a.eval (.tmp 49)) ((L.sn.flatMap ndb)) := hpB hp 21 49 (by kernel_rfl)
          have U0 := u0
          obtain ⟨a0, k0, q0, -, -⟩ := u0
          rw [q0] at U0
          have U1 := u1
          obtain ⟨a1, k1, q1, -, -⟩ := u1
          rw [q1] at U1
          have U2 := u2
          obtain ⟨a2, k2, q2, -, -⟩ := u2
          rw [q2] at U2
          have U3 := u3
          obtain ⟨a3, k3, q3, -, -⟩ := u3
          rw [q3] at U3
          have U4 := u4
          obtain ⟨a4, k4, q4, -, -⟩ := u4
          rw [q4] at U4
          have U5 := u5
          obtain ⟨a5, k5, q5, -, -⟩ := u5
          rw [q5] at U5
          have U6 := u6
          obtain ⟨a6, k6, q6, -, -⟩ := u6
          rw [q6] at U6
          have U7 := u7
          obtain ⟨a7, k7, q7, -, -⟩ := u7
          rw [q7] at U7
          have U8 := u8
          obtain ⟨a8, k8, q8, -, -⟩ := u8
          rw [q8] at U8
          obtain ⟨l0, hl0⟩ : ∃ l, List.length ([108, 111, 111, 107, 117, 112] : List Int) = l := ⟨_, rfl⟩
          rw [hl0] at q0 U0
          obtain ⟨l1, hl1⟩ : ∃ l, List.length ((encB L.R.all) : List Int) = l := ⟨_, rfl⟩
          rw [hl1] at q1 U1
          obtain ⟨l2, hl2⟩ : ∃ l, List.length ((nb L.ac) : List Int) = l := ⟨_, rfl⟩
          rw [hl2] at q2 U2
          obtain ⟨l3, hl3⟩ : ∃ l, List.length ((be 8 L.ve) : List Int) = l := ⟨_, rfl⟩
          rw [hl3] at q3 U3
          obtain ⟨l4, hl4⟩ : ∃ l, List.length ((L.ds.flatMap id) : List Int) = l := ⟨_, rfl⟩
          rw [hl4] at q4 U4
          obtain ⟨l5, hl5⟩ : ∃ l, List.length (L.fp : List Int) = l := ⟨_, rfl⟩
          rw [hl5] at q5 U5
          obtain ⟨l6, hl6⟩ : ∃ l, List.length ((L.fn.flatMap ndb) : List Int) = l := ⟨_, rfl⟩
          rw [hl6] at q6 U6
          obtain ⟨l7, hl7⟩ : ∃ l, List.length (L.sp : List Int) = l := ⟨_, rfl⟩
          rw [hl7] at q7 U7
          obtain ⟨l8, hl8⟩ : ∃ l, List.length ((L.sn.flatMap ndb) : List Int) = l := ⟨_, rfl⟩
          rw [hl8] at q8 U8
          have hbl : Below W.heap.size W (W.alloc (.cells #[.slice a0 l0 k0, .slice a1 l1 k1, .slice a2 l2 k2, .slice a3 l3 k3, .slice a4 l4 k4, .slice a5 l5 k5, .slice a6 l6 k6, .slice a7 l7 k7, .slice a8 l8 k8] 34)) := (Below.refl _ W).alloc (Nat.le_refl _) _
          refine RR.ob_run (w' := W.alloc (.cells #[.slice a0 l0 k0, .slice a1 l1 k1, .slice a2 l2 k2, .slice a3 l3 k3, .slice a4 l4 k4, .slice a5 l5 k5, .slice a6 l6 k6, .slice a7 l7 k7, .slice a8 l8 k8] 34)) (v := .slice (some ⟨W.heap.size, 0, none⟩) 9 9) rfl (RR.wanted_none rfl) (fun ev hE hc => by have p0 := (hE (.tmp 29)).trans q0; have p1 := (hE (.tmp 32)).trans q1; have p2 := (hE (.tmp 35)).trans q2; have p3 := (hE (.tmp 38)).trans q3; have p4 := (hE (.tmp 41)).trans q4; have p5 := (hE (.tmp 44)).trans q5; have p6 := (hE (.tmp 45)).trans q6; have p7 := (hE (.tmp 48)).trans q7; have p8 := (hE (.tmp 49)).trans q8; simp only [List.getElem_toArray, List.getElem_cons_succ, List.getElem_cons_zero, execOp]; simp [p0, p1, p2, p3, p4, p5, p6, p7, p8]; go_simp) ?_ (Mk.of hbl (HZ1.out W hb))
          refine ⟨_, 9, rfl, Nat.le_refl _, .inr ⟨W.heap.size, 0, rfl, by simp, fun i hi => ?_⟩⟩
          have hi3 : i < 9 := hi
          rw [Nat.zero_add, cell_alloc]
          rcases (show i = 0 ∨ i = 1 ∨ i = 2 ∨ i = 3 ∨ i = 4 ∨ i = 5 ∨ i = 6 ∨ i = 7 ∨ i = 8 by omega) with rfl | rfl | rfl | rfl | rfl | rfl | rfl | rfl | rfl
          · exact ⟨_, rfl, U0.below hbl (Nat.le_refl _)⟩
          · exact ⟨_, rfl, U1.below hbl (Nat.le_refl _)⟩
          · exact ⟨_, rfl, U2.below hbl (Nat.le_refl _)⟩
          · exact ⟨_, rfl, U3.below hbl (Nat.le_refl _)⟩
          · exact ⟨_, rfl, U4.below hbl (Nat.le_refl _)⟩
          · exact ⟨_, rfl, U5.below hbl (Nat.le_refl _)⟩
          · exact ⟨_, rfl, U6.below hbl (Nat.le_refl _)⟩
          · exact ⟨_, rfl, U7.below hbl (Nat.le_refl _)⟩
          · exact ⟨_, rfl, U8.below hbl (Nat.le_refl _)⟩
        · intro a W hb hf hp
          have e0 : LL W (a.eval (.tmp 50)) L.list := hpB hp 22 50 (by kernel_rfl)
          refine RR.ob_call (f := 24) (args := #[a.eval (.tmp 50)]) rfl (RR.wanted_none rfl) (fun ev hE hc => by have hfn := hE (.func 24); have q := hE (.tmp 50); simp only [List.getElem_toArray, List.getElem_cons_succ, List.getElem_cons_zero, execOp, resolve]; simp [q, hfn, hc, go_sem]) ((rencode_any L.list _ W e0 (Lp.lens HS.out).1 (by rw [(Lp.lens HS.out).2]; omega)).mono ?_)
          rintro e w6 ⟨v6, rfl, h6, h7⟩
          exact ⟨_, rfl, ⟨v6, rfl, h6.sl⟩, Mk.of h7 (HZ1.out W hb)⟩
        · intro a W hb hf hp
          obtain ⟨v6, h6, h7⟩ : ∃ v', a.eval (.tmp 51) = .tuple #[v', .int .i64 (encE L.list)] ∧ Sl W v' (encB L.list) := hpB hp 23 51 (by kernel_rfl)
          exact RR.ob_val (Mk.refl _) rfl (RR.wanted_none rfl) (fun ev hE hc => by have q := (hE (.tmp 51)).trans h6; simp [execOp, q, hc, go_sem]) h7
        · intro a W hb hf hp
          obtain ⟨v6, h6, h7⟩ : ∃ v', a.eval (.tmp 51) = .tuple #[v', .int .i64 (encE L.list)] ∧ Sl W v' (encB L.list) := hpB hp 23 51 (by kernel_rfl)
          exact RR.ob_val (Mk.refl _) rfl (RR.wanted_none rfl) (fun ev hE hc => by have q := (hE (.tmp 51)).trans h6; simp [execOp, q, hc, go_sem]) rfl
        · intro a W hb hf hp
          have h7 : Sl W (a.eval (.tmp 52)) (encB L.list) := hpB hp 24 52 (by kernel_rfl)
          exact RR.ob_val (Mk.refl _) rfl (RR.wanted_none rfl) (fun ev hE hc => by have q := hE (.tmp 52); simp only [List.getElem_toArray, List.getElem_cons_succ, List.getElem_cons_zero, execOp]; rw [q]; rfl) h7
        · intro a W hb hf hp
          have e0 : a.eval (.tmp 53) = .int .i64 (encE L.list) := hpB hp 25 53 (by kernel_rfl)
          exact RR.ob_val (Mk.refl _) rfl (RR.wanted_none rfl) (fun ev hE hc => by have q := (hE (.tmp 53)).trans e0; simp [execOp, q, hc, go_sem]) rfl
      · intro a W g1 g2 g3 g4 g5
        have hres : Sl W (a.eval (.tmp 2)) (encB L.list) := g5 26 _ 2 rfl rfl
        have her : a.eval (.tmp 3) = .int .i64 (encE L.list) := g5 27 _ 3 rfl rfl
        have HD : Hid (Below w.heap.size w W) := BE.out.trans (g3.below.mono (by rw [← HB.out]; exact BE.out.size))
        obtain ⟨t, df⟩ := a
        simp only at g1 g2
        subst g2
        obtain ⟨l, rfl⟩ : ∃ l : List Value, t = l.toArray := ⟨t.toList, by simp⟩
        have hl17 : l.length = 54 := by simpa using g1
        clear g1 g3 g4 g5
        match l, hl17, hres, her with
        | x0 :: x1 :: x2 :: x3 :: x4 :: x5 :: x6 :: x7 :: x8 :: x9 :: x10 :: x11 :: x12 :: x13 :: x14 :: x15 :: x16 :: x17 :: x18 :: x19 :: x20 :: x21 :: x22 :: x23 :: x24 :: x25 :: x26 :: x27 :: x28 :: x29 :: x30 :: x31 :: x32 :: x33 :: x34 :: x35 :: x36 :: x37 :: x38 :: x39 :: x40 :: x41 :: x42 :: x43 :: x44 :: x45 :: x46 :: x47 :: x48 :: x49 :: x50 :: x51 :: x52 :: x53 :: [], _, hres, her =>
          have HRS : Hid (Sl W x2 (encB L.list)) := hres
          have HER : Hid (x3 = .int .i64 (encE L.list)) := her
          clear hres her
          go_wp2
          go_ret2
          rw [E.out.1, E.out.2, HER.out]
          exact ⟨_, rfl, HRS.out, HD.out⟩
end Go.Proofs.Ytfnmdeekenjlgaa
