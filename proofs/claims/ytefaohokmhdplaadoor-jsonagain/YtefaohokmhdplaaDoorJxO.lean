/- The law for JSON: a value is a tree: objects. -/
import Derived.Test.YtefaohokmhdplaaDoorJxL
namespace Go.Proofs.YtefaohokmhdplaaDoor
open Go Go.RowKit
set_option linter.unusedSimpArgs false
set_option linter.unusedVariables false
set_option maxRecDepth 100000

def is32 (b o pn cap k b2 o2 pc b3 o3 kc D : Nat) (c : ByteArray) (t : TypeId) (p : Value) (z : Tv) : Nat → Value
  | 0 => .slice (some ⟨b, o, none⟩) pn cap
  | 1 => .int .i64 (k : Int)
  | 2 => .pointer (some ⟨b, o + k * 2, none⟩)
  | 3 => .pointer (some ⟨b, o + k * 2, none⟩)
  | 4 => .string c
  | 5 => .pointer (some ⟨D, 3, none⟩)
  | 6 => .slice (some ⟨b3, o3, none⟩) pn kc
  | 7 => .int .i64 (k : Int)
  | 8 => .pointer (some ⟨b3, o3 + k, none⟩)
  | 9 => .string c
  | 10 => .bool false
  | 11 => .bool false
  | 12 => .slice (some ⟨b, o, none⟩) pn cap
  | 13 => .int .i64 (k : Int)
  | 14 => .pointer (some ⟨b, o + k * 2, none⟩)
  | 15 => .pointer (some ⟨b, o + k * 2 + 1, none⟩)
  | 16 => .iface t p
  | 17 => .pointer (some ⟨D, 4, none⟩)
  | 18 => .slice (some ⟨b2, o2, none⟩) pn pc
  | 19 => .int .i64 (k : Int)
  | 20 => .pointer (some ⟨b2, o2 + k * 5, none⟩)
  | 21 => .agg (tcv z).toArray
  | 22 => .bool true
  | 23 => .bool false
  | 24 => .bool false
  | _ => undef
set_option maxHeartbeats 16000000 in
theorem is_obj {A A' : Nat → Prop} {w : World} {x : Tv} {v : Value} {A3 : Nat → Prop} {ms : List (ByteArray × Value)} {ks : List ByteArray} {xs : List Tv} (hk : x.k = 5) (hv : RV A w 2 v (mcs ms)) (hq : RV A3 w 1 x.ks.v (keyc ks)) (hkl : ms.length = ks.length) (hkk : ∀ (i : Nat) (m : ByteArray × Value) (c : ByteArray), ms[i]? = some m → ks[i]? = some c → c = m.1) (hp : RV A' w 5 x.ps.v (tcs xs)) (hl : ms.length = xs.length) (hn : ms.length ≤ 8192) (hI : ∀ y ∈ ms, ∃ t p, y.2 = .iface t p)
    (HE : ∀ (i : Nat) (y : ByteArray × Value) (z : Tv), ms[i]? = some y → xs[i]? = some z → ∀ W', Below w.heap.size w W' → Calls Tryd.prog 12 #[y.2, z.val] W' fun e w' => IsP W' e w') :
    Calls Tryd.prog 12 #[.iface 73 v, x.val] w fun e w' => IsP w e w' := by
  obtain ⟨xk, xb, xt, ⟨ka, kn, kc⟩, ⟨pa, pn, pc⟩⟩ := x
  obtain rfl : xk = 5 := hk
  obtain ⟨ad, n, cap, rfl, h1, h2, h3⟩ := hv
  obtain ⟨pd', pn', pc', e, g1, g2, g3⟩ := hp
  obtain ⟨rfl, rfl, rfl⟩ : pa = pd' ∧ pn = pn' ∧ pc = pc' := by simpa [Sv.v] using e
  rw [tcs_length] at g1
  obtain ⟨kd', kn', kc', e', q1, q2, q3⟩ := hq
  obtain ⟨rfl, rfl, rfl⟩ : ka = kd' ∧ kn = kn' ∧ kc = kc' := by simpa [Sv.v] using e'
  rw [show (keyc ks).length = ks.length by simp [keyc]] at q1
  rw [mcs_length] at h1
  obtain rfl : kn = n := by omega
  obtain rfl : pn = kn := by omega
  have HN : Hid (ms.length = pn) := by show _ = _; omega
  have HL : Hid (ms.length = xs.length) := hl
  have HI : Hid (∀ y ∈ ms, ∃ t p, y.2 = .iface t p) := hI
  have HEE : Hid (∀ (i : Nat) (y : ByteArray × Value) (z : Tv), ms[i]? = some y → xs[i]? = some z → ∀ W', Below w.heap.size w W' → Calls Tryd.prog 12 #[y.2, z.val] W' fun e w' => IsP W' e w') := HE
  have HKK : Hid (∀ (i : Nat) (m : ByteArray × Value) (c : ByteArray), ms[i]? = some m → ks[i]? = some c → c = m.1) := hkk
  have HKL : Hid (ms.length = ks.length) := hkl
  have HC3 : Hid (pn = 0 ∨ ∃ b o, ka = some ⟨b, o, none⟩ ∧ A3 b ∧ b < w.heap.size ∧ w.rangeAt b o (keyc ks)) := q3
  have HA : Hid (pn = 0 ∨ ∃ b o, ad = some ⟨b, o, none⟩ ∧ A b ∧ b < w.heap.size ∧ w.rangeAt b o (mcs ms)) := h3
  have HB : Hid (pn = 0 ∨ ∃ b o, pa = some ⟨b, o, none⟩ ∧ A' b ∧ b < w.heap.size ∧ w.rangeAt b o (tcs xs)) := g3
  obtain ⟨D, hD⟩ : ∃ D, w.heap.size = D := ⟨_, rfl⟩
  have HDD : Hid (w.heap.size = D) := hD
  obtain ⟨U, hU⟩ : ∃ U, w.alloc (.cells #[.int .i64 5, .bool xb, .string xt, .slice ka pn kc, .slice pa pn pc] 26) = U := ⟨_, rfl⟩
  have HU : Hid (w.alloc (.cells #[.int .i64 5, .bool xb, .string xt, .slice ka pn kc, .slice pa pn pc] 26) = U) := hU
  have HDU : Hid (TC U D ⟨5, xb, xt, ⟨ka, pn, kc⟩, ⟨pa, pn, pc⟩⟩) := by rw [← hU, ← hD]; exact heap_alloc_new _ _
  have HBU : Hid (Below w.heap.size w U) := by rw [← hU]; exact (Below.refl _ _).alloc (Nat.le_refl _) _
  have hn1 : (pn : Int) ≤ 8192 := by omega
  have hn2 : (0 : Int) ≤ (pn : Int) := by omega
  obtain ⟨z0, z1, z2, z3, z4, zf⟩ := HDU.out.cells
  simp only [Sv.v] at z0 z1 z2 z3 z4
  have t0 := ta_Object_Null; have t1 := ta_Object_Bool; have t2 := ta_Object_Number; have t3 := ta_Object_Text; have t4 := ta_Object_List; have t5 := ta_Object_Object
  simp only [Tv.val, Sv.v]
  clear hU zf h1 h2 h3 g1 g2 g3 e hl hn hI HE hkk hkl q1 q2 q3 e'
  go_enter Tryd.func12, Tryd.ntmps12
  go_wp2_with (rw [HU.out])
  refine (kind_obj _).mono ?_
  rintro _ W2 ⟨rfl, hw2⟩
  rw [hw2]
  clear hw2 W2
  go_wp2_with fail
  go_loopw [133] (fun i wr => ∃ k : Nat, k ≤ pn ∧ i = .int .i64 (k : Int) ∧ Below U.heap.size U wr) (fun i _ => pn - (intOf i).toNat)
  case atStart => exact ⟨0, Nat.zero_le _, rfl, Below.refl _ _⟩
  case round =>
    obtain ⟨k, hkn, rfl, h4⟩ := hrel
    have HC : Hid (Below U.heap.size U wr) := h4
    have HB4 : Hid (Below w.heap.size w wr) := bl_tr HBU.out h4
    have HDR : Hid (TC wr D ⟨5, xb, xt, ⟨ka, pn, kc⟩, ⟨pa, pn, pc⟩⟩) := HDU.out.keep (h4.block _ HDU.out.lt)
    clear h4
    by_cases hlt : k < pn
    · have HLT : Hid (k < pn) := hlt
      obtain ⟨⟨c, y⟩, hy⟩ : ∃ y, ms[k]? = some y := ⟨ms[k]'(by rw [HN.out]; exact hlt), List.getElem?_eq_getElem _⟩
      obtain ⟨z, hz⟩ : ∃ z, xs[k]? = some z := ⟨xs[k]'(by rw [← HL.out, HN.out]; exact hlt), List.getElem?_eq_getElem _⟩
      obtain ⟨c', hc'⟩ : ∃ z, ks[k]? = some z := ⟨ks[k]'(by rw [← HKL.out, HN.out]; exact hlt), List.getElem?_eq_getElem _⟩
      obtain rfl : c' = c := HKK.out k _ _ hy hc'
      obtain ⟨t, p, hyy⟩ := HI.out _ (List.mem_of_getElem? hy)
      obtain rfl : y = .iface t p := hyy
      obtain ⟨b, o, rfl, _, hb1, hr1⟩ := HA.out.resolve_left (by omega)
      obtain ⟨b2, o2, rfl, _, hb2, hr2⟩ := HB.out.resolve_left (by omega)
      obtain ⟨b3, o3, rfl, _, hb3, hr3⟩ := HC3.out.resolve_left (by omega)
      have HB1 : Hid (b < wr.heap.size) := Nat.lt_of_lt_of_le hb1 HB4.out.size
      have HB2 : Hid (b2 < wr.heap.size) := Nat.lt_of_lt_of_le hb2 HB4.out.size
      have HB3 : Hid (b3 < wr.heap.size) := Nat.lt_of_lt_of_le hb3 HB4.out.size
      have hm := mcs_at ms k _ hy
      have HY : Hid (wr.rangeAt b (o + k * 2) [.string c', .iface t p]) := range_below (fun j v hj => by
        rw [Nat.add_assoc]
        rcases j with _ | _ | j
        · simp at hj; subst hj; exact hr1 (k * 2 + 0) _ hm.1
        · simp at hj; subst hj; exact hr1 (k * 2 + 1) _ hm.2
        · simp at hj) HB4.out hb1
      have HK3 : Hid (wr.rangeAt b3 (o3 + k) [.string c']) := range_below (fun j v hj => by
        obtain rfl : j = 0 := by rcases j with _ | j <;> simp at hj ⊢
        simp at hj; subst hj
        exact hr3 k _ (by simp [keyc, hc'])) HB4.out hb3
      have HZ : Hid (wr.rangeAt b2 (o2 + k * 5) (tcv z)) := range_below (fun j v hj => by
        have hj5 : j < 5 := by have := (List.getElem?_eq_some_iff.1 hj).1; simpa [tcv] using this
        rw [Nat.add_assoc]
        exact hr2 (k * 5 + j) v ((tcs_at xs k z hz j hj5).trans hj)) HB4.out hb2
      have HE1 : Hid (∀ W', Below w.heap.size w W' → Calls Tryd.prog 12 #[.iface t p, .agg (tcv z).toArray] W' fun e w' => IsP W' e w') := HEE.out k (c', .iface t p) z hy hz
      clear hb1 hr1 hb2 hr2 hb3 hr3 hy hz hkn hc' hm
      go_upto_region 32 with (fail)
      refine RU.wp_rgn' [] (is32 b o pn cap k b2 o2 pc b3 o3 kc D c' t p z) (fun _ => 0) (gΩ wr) (by kernel_rfl) (by kernel_rfl) (show Below wr.heap.size wr _ from (Below.refl _ _).drew) ?_ ?_
      · refine ⟨?_, ?_, ?_, ?_, ?_, ?_, ?_, ?_, ?_, ?_, ?_, ?_, ?_, ?_, ?_, ?_, ?_, ?_, ?_, ?_, ?_, ?_, ?_, ?_, ?_, trivial⟩
        · refine RU.ObT.pure rfl rfl rfl (fun a V hf hp ev he hc W => ?_)
          have q11 : ev (.tmp 11) = .slice (some ⟨b, o, none⟩) pn cap := (he (.tmp 11)).trans (hf 11 rfl)
          simp only [List.getElem_toArray, List.getElem_cons_succ, List.getElem_cons_zero, execOp, Option.map_some, Option.map_none]; rw [q11]
          first | (go_simp; done) | (go_simp; rfl) | rfl
        · refine RU.ObT.pure rfl rfl rfl (fun a V hf hp ev he hc W => ?_)
          have q12 : ev (.tmp 12) = .int .i64 (k : Int) := (he (.tmp 12)).trans (hf 12 rfl)
          simp only [List.getElem_toArray, List.getElem_cons_succ, List.getElem_cons_zero, execOp, Option.map_some, Option.map_none]; rw [q12]
          first | (go_simp; done) | (go_simp; rfl) | rfl
        · refine RU.ObT.pure rfl rfl rfl (fun a V hf hp ev he hc W => ?_)
          have q136 : ev (.tmp 136) = .slice (some ⟨b, o, none⟩) pn cap := (he (.tmp 136)).trans (hp 0 136 rfl)
          have q137 : ev (.tmp 137) = .int .i64 (k : Int) := (he (.tmp 137)).trans (hp 1 137 rfl)
          simp only [List.getElem_toArray, List.getElem_cons_succ, List.getElem_cons_zero, execOp, Option.map_some, Option.map_none]; rw [q136, q137]
          have hk9 : (k : Int) < (pn : Int) := by have := HLT.out; omega
          first | (go_simp; done) | (go_simp; rfl) | rfl
        · refine RU.ObT.pure rfl rfl rfl (fun a V hf hp ev he hc W => ?_)
          have q138 : ev (.tmp 138) = .pointer (some ⟨b, o + k * 2, none⟩) := (he (.tmp 138)).trans (hp 2 138 rfl)
          simp only [List.getElem_toArray, List.getElem_cons_succ, List.getElem_cons_zero, execOp, Option.map_some, Option.map_none]; rw [q138]
          first | (go_simp; done) | (go_simp; rfl) | rfl
        · refine RU.ObT.silent rfl (fun a W k0 V hO hf hp hk => ?_)
          have hO' : Below wr.heap.size wr W := hO
          have hcell : W.cell? ⟨b, o + k * 2, none⟩ = some (.string c') := range_below HY.out hO' HB1.out 0 (.string c') rfl
          refine RU.ob_val rfl (RU.wanted_none rfl) (fun ev he hc => ?_) ⟨rfl, hO⟩
          have q139 : ev (.tmp 139) = .pointer (some ⟨b, o + k * 2, none⟩) := (he (.tmp 139)).trans (hp 3 139 rfl)
          simp only [List.getElem_toArray, List.getElem_cons_succ, List.getElem_cons_zero, execOp, Option.map_some, Option.map_none]; rw [q139]
          first | (go_simp; done) | (go_simp; rfl) | rfl
        · refine RU.ObT.pure rfl rfl rfl (fun a V hf hp ev he hc W => ?_)
          have q3 : ev (.tmp 3) = .pointer (some ⟨D, 0, none⟩) := (he (.tmp 3)).trans (hf 3 rfl)
          simp only [List.getElem_toArray, List.getElem_cons_succ, List.getElem_cons_zero, execOp, Option.map_some, Option.map_none]; rw [q3]
          first | (go_simp; done) | (go_simp; rfl) | rfl
        · refine RU.ObT.silent rfl (fun a W k0 V hO hf hp hk => ?_)
          have hO' : Below wr.heap.size wr W := hO
          have hcell := (HDR.out.keep (hO'.block _ HDR.out.lt)).cells.2.2.2.1
          refine RU.ob_val rfl (RU.wanted_none rfl) (fun ev he hc => ?_) ⟨rfl, hO⟩
          have q141 : ev (.tmp 141) = .pointer (some ⟨D, 3, none⟩) := (he (.tmp 141)).trans (hp 5 141 rfl)
          simp only [List.getElem_toArray, List.getElem_cons_succ, List.getElem_cons_zero, execOp, Option.map_some, Option.map_none]; rw [q141]
          first | (go_simp; done) | (go_simp; rfl) | rfl
        · refine RU.ObT.pure rfl rfl rfl (fun a V hf hp ev he hc W => ?_)
          have q12 : ev (.tmp 12) = .int .i64 (k : Int) := (he (.tmp 12)).trans (hf 12 rfl)
          simp only [List.getElem_toArray, List.getElem_cons_succ, List.getElem_cons_zero, execOp, Option.map_some, Option.map_none]; rw [q12]
          first | (go_simp; done) | (go_simp; rfl) | rfl
        · refine RU.ObT.pure rfl rfl rfl (fun a V hf hp ev he hc W => ?_)
          have q142 : ev (.tmp 142) = .slice (some ⟨b3, o3, none⟩) pn kc := (he (.tmp 142)).trans (hp 6 142 rfl)
          have q143 : ev (.tmp 143) = .int .i64 (k : Int) := (he (.tmp 143)).trans (hp 7 143 rfl)
          simp only [List.getElem_toArray, List.getElem_cons_succ, List.getElem_cons_zero, execOp, Option.map_some, Option.map_none]; rw [q142, q143]
          have hk9 : (k : Int) < (pn : Int) := by have := HLT.out; omega
          first | (go_simp; done) | (go_simp; rfl) | rfl
        · refine RU.ObT.silent rfl (fun a W k0 V hO hf hp hk => ?_)
          have hO' : Below wr.heap.size wr W := hO
          have hcell : W.cell? ⟨b3, o3 + k, none⟩ = some (.string c') := range_below HK3.out hO' HB3.out 0 (.string c') rfl
          refine RU.ob_val rfl (RU.wanted_none rfl) (fun ev he hc => ?_) ⟨rfl, hO⟩
          have q144 : ev (.tmp 144) = .pointer (some ⟨b3, o3 + k, none⟩) := (he (.tmp 144)).trans (hp 8 144 rfl)
          simp only [List.getElem_toArray, List.getElem_cons_succ, List.getElem_cons_zero, execOp, Option.map_some, Option.map_none]; rw [q144]
          first | (go_simp; done) | (go_simp; rfl) | rfl
        · refine RU.ObT.pure rfl rfl rfl (fun a V hf hp ev he hc W => ?_)
          have q140 : ev (.tmp 140) = .string c' := (he (.tmp 140)).trans (hp 4 140 rfl)
          have q145 : ev (.tmp 145) = .string c' := (he (.tmp 145)).trans (hp 9 145 rfl)
          simp only [List.getElem_toArray, List.getElem_cons_succ, List.getElem_cons_zero, execOp, Option.map_some, Option.map_none]; rw [q140, q145]
          first | (go_simp; done) | (go_simp; rfl) | rfl
        · refine RU.ObT.pure rfl rfl rfl (fun a V hf hp ev he hc W => ?_)
          have q146 : ev (.tmp 146) = .bool false := (he (.tmp 146)).trans (hp 10 146 rfl)
          simp only [List.getElem_toArray, List.getElem_cons_succ, List.getElem_cons_zero, execOp, Option.map_some, Option.map_none]; rw [q146]
          first | (go_simp; done) | (go_simp; rfl) | rfl
        · refine RU.ObT.silent rfl (fun a W k0 V hO hf hp hk => ?_)
          have hg : a.eval (.tmp 147) = .bool false := hp 11 147 rfl
          refine RU.ob_val rfl (RU.wanted_some rfl rfl rfl hg) (fun ev he hc => ?_) ⟨rfl, hO⟩
          have q11 : ev (.tmp 11) = .slice (some ⟨b, o, none⟩) pn cap := (he (.tmp 11)).trans (hf 11 rfl)
          simp only [List.getElem_toArray, List.getElem_cons_succ, List.getElem_cons_zero, execOp, Option.map_some, Option.map_none]; rw [q11]
          first | (go_simp; done) | (go_simp; rfl) | rfl
        · refine RU.ObT.silent rfl (fun a W k0 V hO hf hp hk => ?_)
          have hg : a.eval (.tmp 147) = .bool false := hp 11 147 rfl
          refine RU.ob_val rfl (RU.wanted_some rfl rfl rfl hg) (fun ev he hc => ?_) ⟨rfl, hO⟩
          have q12 : ev (.tmp 12) = .int .i64 (k : Int) := (he (.tmp 12)).trans (hf 12 rfl)
          simp only [List.getElem_toArray, List.getElem_cons_succ, List.getElem_cons_zero, execOp, Option.map_some, Option.map_none]; rw [q12]
          first | (go_simp; done) | (go_simp; rfl) | rfl
        · refine RU.ObT.silent rfl (fun a W k0 V hO hf hp hk => ?_)
          have hg : a.eval (.tmp 147) = .bool false := hp 11 147 rfl
          refine RU.ob_val rfl (RU.wanted_some rfl rfl rfl hg) (fun ev he hc => ?_) ⟨rfl, hO⟩
          have q148 : ev (.tmp 148) = .slice (some ⟨b, o, none⟩) pn cap := (he (.tmp 148)).trans (hp 12 148 rfl)
          have q149 : ev (.tmp 149) = .int .i64 (k : Int) := (he (.tmp 149)).trans (hp 13 149 rfl)
          simp only [List.getElem_toArray, List.getElem_cons_succ, List.getElem_cons_zero, execOp, Option.map_some, Option.map_none]; rw [q148, q149]
          have hk9 : (k : Int) < (pn : Int) := by have := HLT.out; omega
          first | (go_simp; done) | (go_simp; rfl) | rfl
        · refine RU.ObT.silent rfl (fun a W k0 V hO hf hp hk => ?_)
          have hg : a.eval (.tmp 147) = .bool false := hp 11 147 rfl
          refine RU.ob_val rfl (RU.wanted_some rfl rfl rfl hg) (fun ev he hc => ?_) ⟨rfl, hO⟩
          have q150 : ev (.tmp 150) = .pointer (some ⟨b, o + k * 2, none⟩) := (he (.tmp 150)).trans (hp 14 150 rfl)
          simp only [List.getElem_toArray, List.getElem_cons_succ, List.getElem_cons_zero, execOp, Option.map_some, Option.map_none]; rw [q150]
          first | (go_simp; done) | (go_simp; rfl) | rfl
        · refine RU.ObT.silent rfl (fun a W k0 V hO hf hp hk => ?_)
          have hg : a.eval (.tmp 147) = .bool false := hp 11 147 rfl
          have hO' : Below wr.heap.size wr W := hO
          have hcell : W.cell? ⟨b, o + k * 2 + 1, none⟩ = some (.iface t p) := range_below HY.out hO' HB1.out 1 (.iface t p) rfl
          refine RU.ob_val rfl (RU.wanted_some rfl rfl rfl hg) (fun ev he hc => ?_) ⟨rfl, hO⟩
          have q151 : ev (.tmp 151) = .pointer (some ⟨b, o + k * 2 + 1, none⟩) := (he (.tmp 151)).trans (hp 15 151 rfl)
          simp only [List.getElem_toArray, List.getElem_cons_succ, List.getElem_cons_zero, execOp, Option.map_some, Option.map_none]; rw [q151]
          first | (go_simp; done) | (go_simp; rfl) | rfl
        · refine RU.ObT.silent rfl (fun a W k0 V hO hf hp hk => ?_)
          have hg : a.eval (.tmp 147) = .bool false := hp 11 147 rfl
          refine RU.ob_val rfl (RU.wanted_some rfl rfl rfl hg) (fun ev he hc => ?_) ⟨rfl, hO⟩
          have q3 : ev (.tmp 3) = .pointer (some ⟨D, 0, none⟩) := (he (.tmp 3)).trans (hf 3 rfl)
          simp only [List.getElem_toArray, List.getElem_cons_succ, List.getElem_cons_zero, execOp, Option.map_some, Option.map_none]; rw [q3]
          first | (go_simp; done) | (go_simp; rfl) | rfl
        · refine RU.ObT.silent rfl (fun a W k0 V hO hf hp hk => ?_)
          have hg : a.eval (.tmp 147) = .bool false := hp 11 147 rfl
          have hO' : Below wr.heap.size wr W := hO
          have hcell := (HDR.out.keep (hO'.block _ HDR.out.lt)).cells.2.2.2.2.1
          refine RU.ob_val rfl (RU.wanted_some rfl rfl rfl hg) (fun ev he hc => ?_) ⟨rfl, hO⟩
          have q153 : ev (.tmp 153) = .pointer (some ⟨D, 4, none⟩) := (he (.tmp 153)).trans (hp 17 153 rfl)
          simp only [List.getElem_toArray, List.getElem_cons_succ, List.getElem_cons_zero, execOp, Option.map_some, Option.map_none]; rw [q153]
          first | (go_simp; done) | (go_simp; rfl) | rfl
        · refine RU.ObT.silent rfl (fun a W k0 V hO hf hp hk => ?_)
          have hg : a.eval (.tmp 147) = .bool false := hp 11 147 rfl
          refine RU.ob_val rfl (RU.wanted_some rfl rfl rfl hg) (fun ev he hc => ?_) ⟨rfl, hO⟩
          have q12 : ev (.tmp 12) = .int .i64 (k : Int) := (he (.tmp 12)).trans (hf 12 rfl)
          simp only [List.getElem_toArray, List.getElem_cons_succ, List.getElem_cons_zero, execOp, Option.map_some, Option.map_none]; rw [q12]
          first | (go_simp; done) | (go_simp; rfl) | rfl
        · refine RU.ObT.silent rfl (fun a W k0 V hO hf hp hk => ?_)
          have hg : a.eval (.tmp 147) = .bool false := hp 11 147 rfl
          refine RU.ob_val rfl (RU.wanted_some rfl rfl rfl hg) (fun ev he hc => ?_) ⟨rfl, hO⟩
          have q154 : ev (.tmp 154) = .slice (some ⟨b2, o2, none⟩) pn pc := (he (.tmp 154)).trans (hp 18 154 rfl)
          have q155 : ev (.tmp 155) = .int .i64 (k : Int) := (he (.tmp 155)).trans (hp 19 155 rfl)
          simp only [List.getElem_toArray, List.getElem_cons_succ, List.getElem_cons_zero, execOp, Option.map_some, Option.map_none]; rw [q154, q155]
          have hk9 : (k : Int) < (pn : Int) := by have := HLT.out; omega
          first | (go_simp; done) | (go_simp; rfl) | rfl
        · refine RU.ObT.silent rfl (fun a W k0 V hO hf hp hk => ?_)
          have hg : a.eval (.tmp 147) = .bool false := hp 11 147 rfl
          have hO' : Below wr.heap.size wr W := hO
          have q156 : a.eval (.tmp 156) = .pointer (some ⟨b2, o2 + k * 5, none⟩) := hp 20 156 rfl
          exact RU.ob_op rfl (RU.wanted_some rfl rfl rfl hg) (wp_load_mid 26 (.tmp 156) rfl (b2) (o2 + k * 5) q156 (tcv z) _ (range_below HZ.out hO' HB2.out) Tryd.underlying26 rfl (by kernel_rfl) ⟨rfl, hO⟩)
        · refine RU.ObT.silent rfl (fun a W k0 V hO hf hp hk => ?_)
          have hg : a.eval (.tmp 147) = .bool false := hp 11 147 rfl
          have hO' : Below wr.heap.size wr W := hO
          have e152 : a.eval (.tmp 152) = .iface t p := hp 16 152 rfl
          have e157 : a.eval (.tmp 157) = .agg (tcv z).toArray := hp 21 157 rfl
          refine RU.ob_call (g := 12) (args := #[.iface t p, .agg (tcv z).toArray]) rfl (RU.wanted_some rfl rfl rfl hg) (fun ev he hc => ?_) ((HE1.out W (bl_tr HB4.out hO')).mono ?_)
          · have h152 := (he (.tmp 152)).trans e152
            have h157 := (he (.tmp 157)).trans e157
            have hfn := he (.func 12)
            simp only [List.getElem_toArray, List.getElem_cons_succ, List.getElem_cons_zero, execOp, Option.map_some, Option.map_none]
            simp only [resolve, invoke, Sem.run_bind, Sem.run_pure, Result.andThen_ok, List.map_toArray, List.map_cons, List.map_nil, h152, h157, hfn, Act.eval, hc]
            rfl
          · rintro e' W2 ⟨rfl, hb2⟩
            exact ⟨_, rfl, rfl, (hO'.trans (hb2.mono hO'.size) : Below wr.heap.size wr W2)⟩
        · refine RU.ObT.silent rfl (fun a W k0 V hO hf hp hk => ?_)
          have hg : a.eval (.tmp 147) = .bool false := hp 11 147 rfl
          refine RU.ob_val rfl (RU.wanted_some rfl rfl rfl hg) (fun ev he hc => ?_) ⟨rfl, hO⟩
          have q158 : ev (.tmp 158) = .bool true := (he (.tmp 158)).trans (hp 22 158 rfl)
          simp only [List.getElem_toArray, List.getElem_cons_succ, List.getElem_cons_zero, execOp, Option.map_some, Option.map_none]; rw [q158]
          first | (go_simp; done) | (go_simp; rfl) | rfl
        · refine RU.ObT.pure rfl rfl rfl (fun a V hf hp ev he hc W => ?_)
          have q147 : ev (.tmp 147) = .bool false := (he (.tmp 147)).trans (hp 11 147 rfl)
          have q159 : ev (.tmp 159) = .bool false := (he (.tmp 159)).trans (hp 23 159 rfl)
          simp only [List.getElem_toArray, List.getElem_cons_succ, List.getElem_cons_zero, execOp, Option.map_some, Option.map_none]; rw [q147, q159]
          try simp only [hc]
          first | (go_simp; done) | (go_simp; rfl) | rfl
      intro W1 VW1 hOW1
      have BW1 : Hid (Below wr.heap.size wr W1) := hOW1
      clear hOW1
      simp only [RU.lay, RU.val, RU.at', is32, Act.put]
      simp only [List.setIfInBounds_toArray, List.set_cons_succ, List.set_cons_zero]
      go_wp2_with fail
      exact ⟨⟨k + 1, HLT.out, by go_num, bl_tr HC.out BW1.out⟩, by have := HLT.out; simp [intOf]; omega⟩
    · obtain rfl : k = pn := by omega
      have HF : Hid (Below w.heap.size w wr) := HB4
      go_wp2_with fail
      try simp only [Exit.inBlock, Exit.then]
      go_ret
      exact ⟨rfl, HF.out⟩
end Go.Proofs.YtefaohokmhdplaaDoor
