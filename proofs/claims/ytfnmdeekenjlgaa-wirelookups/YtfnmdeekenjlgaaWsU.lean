/- Lookups and their bytes undo each other. -/
import Derived.Test.YtfnmdeekenjlgaaWsY
namespace Go.Proofs.Ytfnmdeekenjlgaa
open Go Go.RowKit
set_option linter.unusedSimpArgs false
set_option linter.unusedVariables false
set_option maxRecDepth 100000

def lookS : ByteArray := ⟨#[108, 111, 111, 107, 117, 112]⟩
/-- These bytes are a lookup's. -/
def isL (xs : List Int) : Bool := hasF xs lookS 8 && (isR (mi (decL xs) 1) && (decide (rnErr (mi (decL xs) 3) = 0) && (decide ((mi (decL xs) 4).length % 32 = 0) && (oOk (mi (decL xs) 5) (mi (decL xs) 6) && oOk (mi (decL xs) 7) (mi (decL xs) 8)))))
def zLp : Lp := ⟨zRt, ⟨#[]⟩, 0, [], z80, [], z80, []⟩
def dLp (xs : List Int) : Lp := match isL xs with | true => ⟨dRt (mi (decL xs) 1), strOfNums (mi (decL xs) 2), rnVal (mi (decL xs) 3), rdy (mi (decL xs) 4), mi (decL xs) 5, rdn (mi (decL xs) 6), mi (decL xs) 7, rdn (mi (decL xs) 8)⟩ | false => zLp
def dlE (xs : List Int) : Int := match isL xs with | true => 0 | false => 2
theorem dl_no {xs : List Int} (h : isL xs = false) : dLp xs = zLp ∧ dlE xs = 2 := by unfold dLp dlE; rw [h]; exact ⟨rfl, rfl⟩
theorem dl_yes {xs : List Int} (h : isL xs = true) : dLp xs = ⟨dRt (mi (decL xs) 1), strOfNums (mi (decL xs) 2), rnVal (mi (decL xs) 3), rdy (mi (decL xs) 4), mi (decL xs) 5, rdn (mi (decL xs) 6), mi (decL xs) 7, rdn (mi (decL xs) 8)⟩ ∧ dlE xs = 0 := by unfold dLp dlE; rw [h]; exact ⟨rfl, rfl⟩
theorem isL_of {xs : List Int} (h0 : hasF xs lookS 8 = true) (h1 : isR (mi (decL xs) 1) = true) (h3 : rnErr (mi (decL xs) 3) = 0) (h4 : (mi (decL xs) 4).length % 32 = 0) (h5 : oOk (mi (decL xs) 5) (mi (decL xs) 6) = true) (h7 : oOk (mi (decL xs) 7) (mi (decL xs) 8) = true) : isL xs = true := by unfold isL; rw [h0, h1, decide_eq_true h3, decide_eq_true h4, h5, h7]; rfl
theorem nb_str {xs : List Int} (hb : Byt xs) : nb (strOfNums xs) = xs := by
  have e1 : (strOfNums xs).data.toList = xs.map fun n => UInt8.ofNat n.toNat := by rfl
  unfold nb
  rw [e1, List.map_map]
  have key : ∀ a : List Int, Byt a → a.map ((fun b : UInt8 => (b.toNat : Int)) ∘ fun n => UInt8.ofNat n.toNat) = a := by
    intro a
    induction a with
    | nil => intro _; rfl
    | cons x a ih =>
      intro ha
      have hx := ha x (by simp)
      rw [List.map_cons, ih (fun z hz => ha z (by simp [hz]))]
      congr 1
      simp only [Function.comp, UInt8.toNat_ofNat']
      omega
  exact key xs hb
theorem str_nb (s : ByteArray) : strOfNums (nb s) = s := nb_inj (nb_str (fun z hz => by
  unfold nb at hz
  obtain ⟨b, _, rfl⟩ := List.mem_map.1 hz
  have := b.toNat_lt
  omega))
theorem rdy_back {xs : List Int} (h : xs.length % 32 = 0) : (rdy xs).flatMap id = xs := by
  unfold rdy; rw [if_pos h]
  exact pieces_all id (dvAt xs) xs 32 _ (by omega) (fun k _ => rfl)
theorem rdy_of {ls : List (List Int)} (hk : ∀ x ∈ ls, L32 x) : (ls.flatMap id).length % 32 = 0 ∧ rdy (ls.flatMap id) = ls := by
  have hl := fm_len id 32 (fun x hx => (hk x hx).len)
  have h0 : (ls.flatMap id).length % 32 = 0 := by rw [hl]; omega
  refine ⟨h0, ?_⟩
  unfold rdy; rw [if_pos h0, show (ls.flatMap id).length / 32 = ls.length by omega]
  exact flat_back id dvAt 32 (fun x hx => (hk x hx).len) (fun k x hx => flat_at id 32 (fun x hx => (hk x hx).len) k x hx)
theorem rn_be8 (n : Int) (hn : 0 ≤ n) (hn2 : n < 18446744073709551616) : rnVal (be 8 n) = n ∧ rnErr (be 8 n) = 0 := by
  have h : (be 8 n).length = 8 := be_length 8 n
  unfold rnVal rnErr
  rw [if_pos h, if_pos h]
  exact ⟨nm_be8 n hn hn2, rfl⟩
theorem oOk_of {ps : List Int} {ls : List Nd} (hp : ps.length = 80) (hk : ∀ x ∈ ls, x.Ok) (hq : lokb ls = true) : oOk ps (ls.flatMap ndb) = true ∧ rdn (ls.flatMap ndb) = ls := by
  obtain ⟨n1, n2⟩ := rdn_of hk ((lokb_iff _).1 hq)
  exact ⟨by unfold oOk; rw [n1, decide_eq_true hp]; rfl, n2⟩
theorem oOk_iff {ps xs : List Int} (h : oOk ps xs = true) : rnb xs = true ∧ ps.length = 80 := by
  unfold oOk at h
  simpa only [Bool.and_eq_true, decide_eq_true_eq] using h
theorem lookS_eq : strOfNums [108, 111, 111, 107, 117, 112] = lookS := by rfl
theorem byt_look : Byt [108, 111, 111, 107, 117, 112] := fun z hz => by simp at hz; omega
/-- What was encoded is decoded. -/
theorem l_of {L : Lp} (h : L.Ok) (hk : llb L = true) (hE : encE L.list = 0) : isL (encB L.list) = true ∧ dLp (encB L.list) = L := by
  obtain ⟨e1, e2⟩ := decode_enc L.list (big_of_E hE)
  unfold llb at hk
  rw [Bool.and_eq_true] at hk
  obtain ⟨r1, r2⟩ := r_of h.R
  obtain ⟨v1, v2⟩ := rn_be8 L.ve h.ve.1 h.ve.2
  obtain ⟨d1, d2⟩ := rdy_of h.ds
  obtain ⟨f1, f2⟩ := oOk_of h.fp.1 h.fn hk.1
  obtain ⟨s1, s2⟩ := oOk_of h.sp.1 h.sn hk.2
  have hF : hasF (encB L.list) lookS 8 = true := by
    unfold hasF
    rw [e1, e2, show mi L.list 0 = [108, 111, 111, 107, 117, 112] from rfl, lookS_eq, show L.list.length = 1 + 8 from rfl]; simp
  have m1 : mi (decL (encB L.list)) 1 = encB L.R.all := by rw [e2]; rfl
  have m2 : mi (decL (encB L.list)) 2 = nb L.ac := by rw [e2]; rfl
  have m3 : mi (decL (encB L.list)) 3 = be 8 L.ve := by rw [e2]; rfl
  have m4 : mi (decL (encB L.list)) 4 = L.ds.flatMap id := by rw [e2]; rfl
  have m5 : mi (decL (encB L.list)) 5 = L.fp := by rw [e2]; rfl
  have m6 : mi (decL (encB L.list)) 6 = L.fn.flatMap ndb := by rw [e2]; rfl
  have m7 : mi (decL (encB L.list)) 7 = L.sp := by rw [e2]; rfl
  have m8 : mi (decL (encB L.list)) 8 = L.sn.flatMap ndb := by rw [e2]; rfl
  have hI : isL (encB L.list) = true := isL_of hF (by rw [m1]; exact r1) (by rw [m3]; exact v2) (by rw [m4]; exact d1) (by rw [m5, m6]; exact f1) (by rw [m7, m8]; exact s1)
  refine ⟨hI, ?_⟩
  rw [(dl_yes hI).1, m1, m2, m3, m4, m5, m6, m7, m8, r2, str_nb, v1, d2, f2, s2]
theorem rdn_lokb {xs : List Int} (hn : rnb xs = true) : lokb (rdn xs) = true := by
  rw [rdn_yes hn]
  have h0 : xs.length % 66 = 0 := by
    unfold rnb at hn
    simp only [Bool.and_eq_true, decide_eq_true_eq] at hn
    exact hn.1
  exact (lokb_iff _).2 ((rnb_lok h0).1 hn)
theorem rdn_oks {xs : List Int} (hb : Byt xs) (hn : rnb xs = true) : (∀ x ∈ rdn xs, x.Ok) ∧ (rdn xs).length = xs.length / 66 := by
  rw [rdn_yes hn]
  refine ⟨fun x hx => ?_, by unfold ndl; rw [List.length_map, List.length_range]⟩
  obtain ⟨k, hk', rfl⟩ := List.mem_map.1 hx
  have := List.mem_range.1 hk'
  exact ndAt_ok hb (by omega)
/-- What was decoded is encoded as it stood. -/
theorem l_back {xs : List Int} (hb : Byt xs) (h : isL xs = true) : (dLp xs).Ok ∧ llb (dLp xs) = true ∧ encE (dLp xs).list = 0 ∧ encB (dLp xs).list = xs := by
  have h' := h
  unfold isL at h'
  simp only [Bool.and_eq_true, decide_eq_true_eq] at h'
  obtain ⟨hF, hr, hv, hd, hf, hs⟩ := h'
  unfold hasF at hF
  simp only [Bool.and_eq_true, decide_eq_true_eq] at hF
  obtain ⟨hE, hL, hw⟩ := hF
  have hbm := decL_mi hb
  obtain ⟨rb, ro⟩ := r_back (hbm 1).1 hr
  obtain ⟨v1, v2⟩ := rn8 hv
  obtain ⟨f1, f2⟩ := oOk_iff hf
  obtain ⟨s1, s2⟩ := oOk_iff hs
  have hm0 : mi (decL xs) 0 = [108, 111, 111, 107, 117, 112] := nums_of_str (hbm 0).1 byt_look (by rw [eq_of_beq hw, lookS_eq])
  have e := (dl_yes h).1
  have hlist : (dLp xs).list = decL xs := by
    rw [mi_get' hL]
    show (dLp xs).list = [mi (decL xs) 0, mi (decL xs) 1, mi (decL xs) 2, mi (decL xs) 3, mi (decL xs) 4, mi (decL xs) 5, mi (decL xs) 6, mi (decL xs) 7, mi (decL xs) 8]
    rw [e]
    unfold Lp.list
    simp only
    rw [rb, nb_str (hbm 2).1, v2, be_nm8 (hbm 3).1 v1, rdy_back hd, rdn_back (hbm 6).1 f1, rdn_back (hbm 8).1 s1, hm0]
  have b2 := (hbm 2).2
  have b4 := (hbm 4).2
  have b6 := (hbm 6).2
  have b8 := (hbm 8).2
  obtain ⟨n1, n2⟩ := rdn_oks (hbm 6).1 f1
  obtain ⟨t1, t2⟩ := rdn_oks (hbm 8).1 s1
  have hlk : llb (dLp xs) = true := by
    rw [e]
    show (lokb (rdn _) && lokb (rdn _)) = true
    rw [rdn_lokb f1, rdn_lokb s1]; rfl
  have hok : (dLp xs).Ok := by
    rw [e]
    refine ⟨ro, ?_, ?_, fun x hx => ?_, ?_, ⟨f2, (hbm 5).1⟩, n1, ?_, ⟨s2, (hbm 7).1⟩, t1, ?_⟩
    · show (strOfNums (mi (decL xs) 2)).size ≤ _
      rw [← nb_length, nb_str (hbm 2).1]; omega
    · show 0 ≤ rnVal _ ∧ rnVal _ < _
      rw [v2]; exact nm8_range (hbm 3).1 v1
    · have hx : x ∈ rdy (mi (decL xs) 4) := hx
      unfold rdy at hx; rw [if_pos hd] at hx
      obtain ⟨k, hk', rfl⟩ := List.mem_map.1 hx
      have := List.mem_range.1 hk'
      exact dvAt_ok (hbm 4).1 (by omega)
    · show (rdy (mi (decL xs) 4)).length * 32 ≤ _
      unfold rdy; rw [if_pos hd, List.length_map, List.length_range]; omega
    · show (rdn (mi (decL xs) 6)).length * 72 ≤ _
      omega
    · show (rdn (mi (decL xs) 8)).length * 72 ≤ _
      omega
  rcases dec_cases hb with ⟨h0, _⟩ | ⟨_, hbg, hback⟩
  · rw [hE] at h0; omega
  · exact ⟨hok, hlk, by rw [hlist]; exact (encE_ok hbg).1, by rw [hlist]; exact hback⟩
theorem z80_ok : z80.length = 80 ∧ Byt z80 := ⟨rfl, fun z hz => by unfold z80 at hz; have := (List.mem_replicate.1 hz).2; omega⟩
theorem zLp_ok : zLp.Ok := ⟨zRt_ok, by decide, by decide, (fun x hx => by cases hx), by decide, z80_ok, (fun x hx => by cases hx), by decide, z80_ok, (fun x hx => by cases hx), by decide⟩
theorem dLp_ok {xs : List Int} (hb : Byt xs) : (dLp xs).Ok := by
  cases h : isL xs with
  | true => exact (l_back hb h).1
  | false => rw [(dl_no h).1]; exact zLp_ok
end Go.Proofs.Ytfnmdeekenjlgaa
/- A lookup's cells. -/
namespace Go.Proofs.Ytfnmdeekenjlgaa
open Go Go.RowKit
set_option linter.unusedSimpArgs false
set_option linter.unusedVariables false
set_option maxRecDepth 100000

def z328 : List Value := lc zLp (.slice none 0 0) (.slice none 0 0) (.slice none 0 0)
theorem z328_length : z328.length = 328 := by kernel_rfl
theorem z328_one : z328.toArray.all (·.oneCell') = true := by kernel_rfl
theorem zero_look (w : World) : (zeroValue 33).run Try.prog w = .ok (.agg z328.toArray) w := by kernel_rfl
theorem look_size : (Try.prog.info? 33).map (·.size) = some 328 := by kernel_rfl
theorem size_look {A : List Value} (hA : A.length = 328) : (Try.prog.info? 33).map (·.size) = some A.toArray.size := by rw [List.size_toArray, hA]; exact look_size
theorem z_lv (w : World) : LV w z328 zLp := ⟨_, _, _, rfl, ⟨none, 0, rfl, Nat.le_refl _, .inl ⟨rfl, fun _ => rfl⟩⟩, ⟨none, 0, rfl, Nat.le_refl _, .inl ⟨rfl, fun _ => rfl⟩⟩, ⟨none, 0, rfl, Nat.le_refl _, .inl ⟨rfl, fun _ => rfl⟩⟩⟩
theorem build_zl (w : World) : (Instr.build 33 #[]).run Try.prog w = .ok (.agg z328.toArray) w := run_build w _ _ _ (by kernel_rfl)
theorem lc_one (L : Lp) (a1 a2 a3 : Option Addr) (l1 l2 l3 c1 c2 c3 : Nat) : (lc L (.slice a1 l1 c1) (.slice a2 l2 c2) (.slice a3 l3 c3)).toArray.all (·.oneCell') = true := all_oneCell_toArray (fun u hu => by
  unfold lc at hu
  simp only [List.mem_append, List.mem_cons, List.mem_nil_iff, or_false] at hu
  rcases hu with hu | (rfl | rfl | rfl) | (hu | rfl) | (hu | rfl)
  · unfold Rt.cells at hu
    simp only [List.mem_append, List.mem_cons, List.mem_nil_iff, or_false] at hu
    rcases hu with (rfl | rfl | rfl) | hu | hu | hu | hu
    · rfl
    · rfl
    · rfl
    · exact bv_one _ u hu
    · exact bv_one _ u hu
    · exact bv_one _ u hu
    · exact bv_one _ u hu
  · rfl
  · rfl
  · rfl
  · exact bv_one _ u hu
  · rfl
  · exact bv_one _ u hu
  · rfl)
theorem built_l4 {R : Rt} (hR : R.L) (s : ByteArray) (z : Int) (a1 a2 a3 : Option Addr) (l1 l2 l3 c1 c2 c3 : Nat) : Try.prog.built 33 [(0, .agg R.cells.toArray), (1, .string s), (2, .int .u64 z), (3, .slice a1 l1 c1)] = some (lc ⟨R, s, z, [], z80, [], z80, []⟩ (.slice a1 l1 c1) (.slice none 0 0) (.slice none 0 0)).toArray := by
  obtain ⟨ep, kd, gn, pr, hs, lk, sg⟩ := R
  obtain ⟨h1, h2, h3, h4⟩ := hR
  obtain ⟨ga, gb, h5, h6, rfl⟩ := list64 h4
  obtain ⟨pr_0, pr_1, pr_2, pr_3, pr_4, pr_5, pr_6, pr_7, pr_8, pr_9, pr_10, pr_11, pr_12, pr_13, pr_14, pr_15, pr_16, pr_17, pr_18, pr_19, pr_20, pr_21, pr_22, pr_23, pr_24, pr_25, pr_26, pr_27, pr_28, pr_29, pr_30, pr_31, rfl⟩ := list32 h1
  obtain ⟨hs_0, hs_1, hs_2, hs_3, hs_4, hs_5, hs_6, hs_7, hs_8, hs_9, hs_10, hs_11, hs_12, hs_13, hs_14, hs_15, hs_16, hs_17, hs_18, hs_19, hs_20, hs_21, hs_22, hs_23, hs_24, hs_25, hs_26, hs_27, hs_28, hs_29, hs_30, hs_31, rfl⟩ := list32 h2
  obtain ⟨lk_0, lk_1, lk_2, lk_3, lk_4, lk_5, lk_6, lk_7, lk_8, lk_9, lk_10, lk_11, lk_12, lk_13, lk_14, lk_15, lk_16, lk_17, lk_18, lk_19, lk_20, lk_21, lk_22, lk_23, lk_24, lk_25, lk_26, lk_27, lk_28, lk_29, lk_30, lk_31, rfl⟩ := list32 h3
  obtain ⟨ga_0, ga_1, ga_2, ga_3, ga_4, ga_5, ga_6, ga_7, ga_8, ga_9, ga_10, ga_11, ga_12, ga_13, ga_14, ga_15, ga_16, ga_17, ga_18, ga_19, ga_20, ga_21, ga_22, ga_23, ga_24, ga_25, ga_26, ga_27, ga_28, ga_29, ga_30, ga_31, rfl⟩ := list32 h5
  obtain ⟨gb_0, gb_1, gb_2, gb_3, gb_4, gb_5, gb_6, gb_7, gb_8, gb_9, gb_10, gb_11, gb_12, gb_13, gb_14, gb_15, gb_16, gb_17, gb_18, gb_19, gb_20, gb_21, gb_22, gb_23, gb_24, gb_25, gb_26, gb_27, gb_28, gb_29, gb_30, gb_31, rfl⟩ := list32 h6
  kernel_rfl
theorem build_l4 {R : Rt} (hR : R.L) (s : ByteArray) (z : Int) (a1 a2 a3 : Option Addr) (l1 l2 l3 c1 c2 c3 : Nat) (w : World) : (Instr.build 33 #[(0, .agg R.cells.toArray), (1, .string s), (2, .int .u64 z), (3, .slice a1 l1 c1)]).run Try.prog w = .ok (.agg (lc ⟨R, s, z, [], z80, [], z80, []⟩ (.slice a1 l1 c1) (.slice none 0 0) (.slice none 0 0)).toArray) w := run_build w _ _ _ (built_l4 hR s z a1 a2 a3 l1 l2 l3 c1 c2 c3)
theorem built_l6 {R : Rt} (hR : R.L) {p q : List Int} (hp : p.length = 80) (hq : q.length = 80) (s : ByteArray) (z : Int) (a1 a2 a3 : Option Addr) (l1 l2 l3 c1 c2 c3 : Nat) : Try.prog.built 33 [(0, .agg R.cells.toArray), (1, .string s), (2, .int .u64 z), (3, .slice a1 l1 c1), (4, .agg (oc p (.slice a2 l2 c2)).toArray), (5, .agg (oc q (.slice a3 l3 c3)).toArray)] = some (lc ⟨R, s, z, [], p, [], q, []⟩ (.slice a1 l1 c1) (.slice a2 l2 c2) (.slice a3 l3 c3)).toArray := by
  obtain ⟨ep, kd, gn, pr, hs, lk, sg⟩ := R
  obtain ⟨h1, h2, h3, h4⟩ := hR
  obtain ⟨ga, gb, h5, h6, rfl⟩ := list64 h4
  obtain ⟨pr_0, pr_1, pr_2, pr_3, pr_4, pr_5, pr_6, pr_7, pr_8, pr_9, pr_10, pr_11, pr_12, pr_13, pr_14, pr_15, pr_16, pr_17, pr_18, pr_19, pr_20, pr_21, pr_22, pr_23, pr_24, pr_25, pr_26, pr_27, pr_28, pr_29, pr_30, pr_31, rfl⟩ := list32 h1
  obtain ⟨hs_0, hs_1, hs_2, hs_3, hs_4, hs_5, hs_6, hs_7, hs_8, hs_9, hs_10, hs_11, hs_12, hs_13, hs_14, hs_15, hs_16, hs_17, hs_18, hs_19, hs_20, hs_21, hs_22, hs_23, hs_24, hs_25, hs_26, hs_27, hs_28, hs_29, hs_30, hs_31, rfl⟩ := list32 h2
  obtain ⟨lk_0, lk_1, lk_2, lk_3, lk_4, lk_5, lk_6, lk_7, lk_8, lk_9, lk_10, lk_11, lk_12, lk_13, lk_14, lk_15, lk_16, lk_17, lk_18, lk_19, lk_20, lk_21, lk_22, lk_23, lk_24, lk_25, lk_26, lk_27, lk_28, lk_29, lk_30, lk_31, rfl⟩ := list32 h3
  obtain ⟨ga_0, ga_1, ga_2, ga_3, ga_4, ga_5, ga_6, ga_7, ga_8, ga_9, ga_10, ga_11, ga_12, ga_13, ga_14, ga_15, ga_16, ga_17, ga_18, ga_19, ga_20, ga_21, ga_22, ga_23, ga_24, ga_25, ga_26, ga_27, ga_28, ga_29, ga_30, ga_31, rfl⟩ := list32 h5
  obtain ⟨gb_0, gb_1, gb_2, gb_3, gb_4, gb_5, gb_6, gb_7, gb_8, gb_9, gb_10, gb_11, gb_12, gb_13, gb_14, gb_15, gb_16, gb_17, gb_18, gb_19, gb_20, gb_21, gb_22, gb_23, gb_24, gb_25, gb_26, gb_27, gb_28, gb_29, gb_30, gb_31, rfl⟩ := list32 h6
  obtain ⟨pa, pb, pc, k1, k2, k3, rfl⟩ := list80 hp
  obtain ⟨pa_0, pa_1, pa_2, pa_3, pa_4, pa_5, pa_6, pa_7, pa_8, pa_9, pa_10, pa_11, pa_12, pa_13, pa_14, pa_15, pa_16, pa_17, pa_18, pa_19, pa_20, pa_21, pa_22, pa_23, pa_24, pa_25, pa_26, pa_27, pa_28, pa_29, pa_30, pa_31, rfl⟩ := list32 k1
  obtain ⟨pb_0, pb_1, pb_2, pb_3, pb_4, pb_5, pb_6, pb_7, pb_8, pb_9, pb_10, pb_11, pb_12, pb_13, pb_14, pb_15, pb_16, pb_17, pb_18, pb_19, pb_20, pb_21, pb_22, pb_23, pb_24, pb_25, pb_26, pb_27, pb_28, pb_29, pb_30, pb_31, rfl⟩ := list32 k2
  obtain ⟨pc_0, pc_1, pc_2, pc_3, pc_4, pc_5, pc_6, pc_7, pc_8, pc_9, pc_10, pc_11, pc_12, pc_13, pc_14, pc_15, rfl⟩ := list16 k3
  obtain ⟨qa, qb, qc, k1, k2, k3, rfl⟩ := list80 hq
  obtain ⟨qa_0, qa_1, qa_2, qa_3, qa_4, qa_5, qa_6, qa_7, qa_8, qa_9, qa_10, qa_11, qa_12, qa_13, qa_14, qa_15, qa_16, qa_17, qa_18, qa_19, qa_20, qa_21, qa_22, qa_23, qa_24, qa_25, qa_26, qa_27, qa_28, qa_29, qa_30, qa_31, rfl⟩ := list32 k1
  obtain ⟨qb_0, qb_1, qb_2, qb_3, qb_4, qb_5, qb_6, qb_7, qb_8, qb_9, qb_10, qb_11, qb_12, qb_13, qb_14, qb_15, qb_16, qb_17, qb_18, qb_19, qb_20, qb_21, qb_22, qb_23, qb_24, qb_25, qb_26, qb_27, qb_28, qb_29, qb_30, qb_31, rfl⟩ := list32 k2
  obtain ⟨qc_0, qc_1, qc_2, qc_3, qc_4, qc_5, qc_6, qc_7, qc_8, qc_9, qc_10, qc_11, qc_12, qc_13, qc_14, qc_15, rfl⟩ := list16 k3
  kernel_rfl
theorem build_l6 {R : Rt} (hR : R.L) {p q : List Int} (hp : p.length = 80) (hq : q.length = 80) (s : ByteArray) (z : Int) (a1 a2 a3 : Option Addr) (l1 l2 l3 c1 c2 c3 : Nat) (w : World) : (Instr.build 33 #[(0, .agg R.cells.toArray), (1, .string s), (2, .int .u64 z), (3, .slice a1 l1 c1), (4, .agg (oc p (.slice a2 l2 c2)).toArray), (5, .agg (oc q (.slice a3 l3 c3)).toArray)]).run Try.prog w = .ok (.agg (lc ⟨R, s, z, [], p, [], q, []⟩ (.slice a1 l1 c1) (.slice a2 l2 c2) (.slice a3 l3 c3)).toArray) w := run_build w _ _ _ (built_l6 hR hp hq s z a1 a2 a3 l1 l2 l3 c1 c2 c3)
end Go.Proofs.Ytfnmdeekenjlgaa
