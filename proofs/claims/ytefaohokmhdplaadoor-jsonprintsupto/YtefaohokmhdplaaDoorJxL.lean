/- The law for JSON: a value is a tree. -/
import Derived.Test.YtefaohokmhdplaaDoorJxK
namespace Go.Proofs.YtefaohokmhdplaaDoor
open Go Go.RowKit
set_option linter.unusedSimpArgs false
set_option linter.unusedVariables false
set_option maxRecDepth 100000

theorem bl_tr {w U W : World} (h : Below w.heap.size w U) (h2 : Below U.heap.size U W) : Below w.heap.size w W := h.trans (h2.mono h.size)
theorem kind_null {w : World} : Calls Tryd.prog 28 #[.agg #[]] w fun e w' => e = .returned (.int .i64 0) ∧ Below w.heap.size w w' := by
  have HB : Hid (Below w.heap.size w (w.alloc (.cells #[] 68))) := (Below.refl _ _).alloc (Nat.le_refl _) _
  go_enter Tryd.func28, Tryd.ntmps28
  go_wp2
  go_ret
  exact ⟨rfl, HB.out⟩
theorem kind_bool {w : World} (b : Bool) : Calls Tryd.prog 29 #[.bool b] w fun e w' => e = .returned (.int .i64 1) ∧ w' = w := by
  go_enter Tryd.func29, Tryd.ntmps29
  go_wp2
  go_ret
  exact ⟨rfl, rfl⟩
theorem kind_num {w : World} (t : ByteArray) : Calls Tryd.prog 30 #[.string t] w fun e w' => e = .returned (.int .i64 2) ∧ w' = w := by
  go_enter Tryd.func30, Tryd.ntmps30
  go_wp2
  go_ret
  exact ⟨rfl, rfl⟩
theorem kind_txt {w : World} (t : ByteArray) : Calls Tryd.prog 31 #[.string t] w fun e w' => e = .returned (.int .i64 3) ∧ w' = w := by
  go_enter Tryd.func31, Tryd.ntmps31
  go_wp2
  go_ret
  exact ⟨rfl, rfl⟩
theorem kind_lst {w : World} (v : Value) : Calls Tryd.prog 32 #[v] w fun e w' => e = .returned (.int .i64 4) ∧ w' = w := by
  go_enter Tryd.func32, Tryd.ntmps32
  go_wp2
  go_ret
  exact ⟨rfl, rfl⟩
theorem kind_obj {w : World} (v : Value) : Calls Tryd.prog 33 #[v] w fun e w' => e = .returned (.int .i64 5) ∧ w' = w := by
  go_enter Tryd.func33, Tryd.ntmps33
  go_wp2
  go_ret
  exact ⟨rfl, rfl⟩
section
variable {P : Program} {t xT T : TypeId} {v z : Value} {d : TypeDesc} {w : World}
def noIf : TypeDesc → Bool
  | .interface _ => false
  | _ => true
theorem ta_yes (hu : P.underlying T = some d) (hd : noIf d = true) (v : Value) (xT : TypeId) (w : World) : (Instr.typeAssert (.iface T v) xT T true).run P w = .ok (.tuple #[v, .bool true]) w := by
  cases d <;> simp_all [Instr.typeAssert, run_underlying hu, typeInfo, noIf]
theorem ta_no (hu : P.underlying T = some d) (hd : noIf d = true) (hne : t ≠ T) (hz : (P.info? T).map (·.zero) = some (some z)) (v : Value) (xT : TypeId) (w : World) : (Instr.typeAssert (.iface t v) xT T true).run P w = .ok (.tuple #[z, .bool false]) w := by
  obtain ⟨j, hj, hz'⟩ := Option.map_eq_some_iff.1 hz
  cases d <;> simp_all [Instr.typeAssert, run_underlying hu, typeInfo, noIf, zeroValue]
end
theorem ta_Null_Null (v : Value) (xT : TypeId) (w : World) : (Instr.typeAssert (.iface 68 v) xT 68 true).run Tryd.prog w = .ok (.tuple #[v, .bool true]) w := ta_yes Tryd.underlying68 (by rfl) v xT w
theorem ta_Bool_Bool (v : Value) (xT : TypeId) (w : World) : (Instr.typeAssert (.iface 70 v) xT 70 true).run Tryd.prog w = .ok (.tuple #[v, .bool true]) w := ta_yes Tryd.underlying70 (by rfl) v xT w
theorem ta_Number_Number (v : Value) (xT : TypeId) (w : World) : (Instr.typeAssert (.iface 71 v) xT 71 true).run Tryd.prog w = .ok (.tuple #[v, .bool true]) w := ta_yes Tryd.underlying71 (by rfl) v xT w
theorem ta_Text_Text (v : Value) (xT : TypeId) (w : World) : (Instr.typeAssert (.iface 45 v) xT 45 true).run Tryd.prog w = .ok (.tuple #[v, .bool true]) w := ta_yes Tryd.underlying45 (by rfl) v xT w
theorem ta_List_List (v : Value) (xT : TypeId) (w : World) : (Instr.typeAssert (.iface 49 v) xT 49 true).run Tryd.prog w = .ok (.tuple #[v, .bool true]) w := ta_yes Tryd.underlying49 (by rfl) v xT w
theorem ta_Object_Object (v : Value) (xT : TypeId) (w : World) : (Instr.typeAssert (.iface 73 v) xT 73 true).run Tryd.prog w = .ok (.tuple #[v, .bool true]) w := ta_yes Tryd.underlying73 (by rfl) v xT w
theorem ta_Bool_Null (v : Value) (xT : TypeId) (w : World) : (Instr.typeAssert (.iface 70 v) xT 68 true).run Tryd.prog w = .ok (.tuple #[.agg #[], .bool false]) w := ta_no Tryd.underlying68 (by rfl) (by decide) (by kernel_rfl) v xT w
theorem ta_Number_Null (v : Value) (xT : TypeId) (w : World) : (Instr.typeAssert (.iface 71 v) xT 68 true).run Tryd.prog w = .ok (.tuple #[.agg #[], .bool false]) w := ta_no Tryd.underlying68 (by rfl) (by decide) (by kernel_rfl) v xT w
theorem ta_Number_Bool (v : Value) (xT : TypeId) (w : World) : (Instr.typeAssert (.iface 71 v) xT 70 true).run Tryd.prog w = .ok (.tuple #[.bool false, .bool false]) w := ta_no Tryd.underlying70 (by rfl) (by decide) (by kernel_rfl) v xT w
theorem ta_Text_Null (v : Value) (xT : TypeId) (w : World) : (Instr.typeAssert (.iface 45 v) xT 68 true).run Tryd.prog w = .ok (.tuple #[.agg #[], .bool false]) w := ta_no Tryd.underlying68 (by rfl) (by decide) (by kernel_rfl) v xT w
theorem ta_Text_Bool (v : Value) (xT : TypeId) (w : World) : (Instr.typeAssert (.iface 45 v) xT 70 true).run Tryd.prog w = .ok (.tuple #[.bool false, .bool false]) w := ta_no Tryd.underlying70 (by rfl) (by decide) (by kernel_rfl) v xT w
theorem ta_Text_Number (v : Value) (xT : TypeId) (w : World) : (Instr.typeAssert (.iface 45 v) xT 71 true).run Tryd.prog w = .ok (.tuple #[.string ⟨#[]⟩, .bool false]) w := ta_no Tryd.underlying71 (by rfl) (by decide) (by kernel_rfl) v xT w
theorem ta_List_Null (v : Value) (xT : TypeId) (w : World) : (Instr.typeAssert (.iface 49 v) xT 68 true).run Tryd.prog w = .ok (.tuple #[.agg #[], .bool false]) w := ta_no Tryd.underlying68 (by rfl) (by decide) (by kernel_rfl) v xT w
theorem ta_List_Bool (v : Value) (xT : TypeId) (w : World) : (Instr.typeAssert (.iface 49 v) xT 70 true).run Tryd.prog w = .ok (.tuple #[.bool false, .bool false]) w := ta_no Tryd.underlying70 (by rfl) (by decide) (by kernel_rfl) v xT w
theorem ta_List_Number (v : Value) (xT : TypeId) (w : World) : (Instr.typeAssert (.iface 49 v) xT 71 true).run Tryd.prog w = .ok (.tuple #[.string ⟨#[]⟩, .bool false]) w := ta_no Tryd.underlying71 (by rfl) (by decide) (by kernel_rfl) v xT w
theorem ta_List_Text (v : Value) (xT : TypeId) (w : World) : (Instr.typeAssert (.iface 49 v) xT 45 true).run Tryd.prog w = .ok (.tuple #[.string ⟨#[]⟩, .bool false]) w := ta_no Tryd.underlying45 (by rfl) (by decide) (by kernel_rfl) v xT w
theorem ta_Object_Null (v : Value) (xT : TypeId) (w : World) : (Instr.typeAssert (.iface 73 v) xT 68 true).run Tryd.prog w = .ok (.tuple #[.agg #[], .bool false]) w := ta_no Tryd.underlying68 (by rfl) (by decide) (by kernel_rfl) v xT w
theorem ta_Object_Bool (v : Value) (xT : TypeId) (w : World) : (Instr.typeAssert (.iface 73 v) xT 70 true).run Tryd.prog w = .ok (.tuple #[.bool false, .bool false]) w := ta_no Tryd.underlying70 (by rfl) (by decide) (by kernel_rfl) v xT w
theorem ta_Object_Number (v : Value) (xT : TypeId) (w : World) : (Instr.typeAssert (.iface 73 v) xT 71 true).run Tryd.prog w = .ok (.tuple #[.string ⟨#[]⟩, .bool false]) w := ta_no Tryd.underlying71 (by rfl) (by decide) (by kernel_rfl) v xT w
theorem ta_Object_Text (v : Value) (xT : TypeId) (w : World) : (Instr.typeAssert (.iface 73 v) xT 45 true).run Tryd.prog w = .ok (.tuple #[.string ⟨#[]⟩, .bool false]) w := ta_no Tryd.underlying45 (by rfl) (by decide) (by kernel_rfl) v xT w
theorem ta_Object_List (v : Value) (xT : TypeId) (w : World) : (Instr.typeAssert (.iface 73 v) xT 49 true).run Tryd.prog w = .ok (.tuple #[.slice none 0 0, .bool false]) w := ta_no Tryd.underlying49 (by rfl) (by decide) (by kernel_rfl) v xT w
/-- What the law's comparison answers. -/
def IsP (W : World) (e : Ending) (w' : World) : Prop := e = .returned (.bool true) ∧ Below W.heap.size W w'
set_option maxHeartbeats 8000000 in
theorem is_null {W : World} {x : Tv} (hk : x.k = 0) : Calls Tryd.prog 12 #[.iface 68 (.agg #[]), x.val] W fun e w' => IsP W e w' := by
  obtain ⟨xk, xb, xt, ⟨ka, kn, kc⟩, ⟨pa, pn, pc⟩⟩ := x
  obtain rfl : xk = 0 := hk
  have HB : Hid (Below W.heap.size W ((W.alloc (.cells #[.int .i64 0, .bool xb, .string xt, .slice ka kn kc, .slice pa pn pc] 26)).alloc (.cells #[] 68))) := (((Below.refl _ _).alloc (Nat.le_refl _) _).alloc (by simp) _)
  have t0 := ta_Null_Null
  simp only [Tv.val, Sv.v]
  go_enter Tryd.func12, Tryd.ntmps12
  go_wp2_with fail
  refine (kind_null).mono ?_
  rintro _ W2 ⟨rfl, hb⟩
  have HB2 : Hid (Below W.heap.size W W2) := HB.out.trans (hb.mono HB.out.size)
  go_wp2
  try simp only [Exit.inBlock, Exit.then]
  go_ret
  exact ⟨rfl, HB2.out⟩
set_option maxHeartbeats 8000000 in
theorem is_bool {W : World} {x : Tv} (hk : x.k = 1) : Calls Tryd.prog 12 #[.iface 70 (.bool x.b), x.val] W fun e w' => IsP W e w' := by
  obtain ⟨xk, xb, xt, ⟨ka, kn, kc⟩, ⟨pa, pn, pc⟩⟩ := x
  obtain rfl : xk = 1 := hk
  have HB : Hid (Below W.heap.size W (W.alloc (.cells #[.int .i64 1, .bool xb, .string xt, .slice ka kn kc, .slice pa pn pc] 26))) := (Below.refl _ _).alloc (Nat.le_refl _) _
  have t0 := ta_Bool_Null; have t1 := ta_Bool_Bool
  simp only [Tv.val, Sv.v]
  go_enter Tryd.func12, Tryd.ntmps12
  go_wp2_with fail
  refine (kind_bool _).mono ?_
  rintro _ _ ⟨rfl, rfl⟩
  go_wp2
  try simp only [Exit.inBlock, Exit.then]
  go_ret
  exact ⟨rfl, HB.out⟩
set_option maxHeartbeats 8000000 in
theorem is_num {W : World} {x : Tv} (hk : x.k = 2) : Calls Tryd.prog 12 #[.iface 71 (.string x.t), x.val] W fun e w' => IsP W e w' := by
  obtain ⟨xk, xb, xt, ⟨ka, kn, kc⟩, ⟨pa, pn, pc⟩⟩ := x
  obtain rfl : xk = 2 := hk
  have HB : Hid (Below W.heap.size W (W.alloc (.cells #[.int .i64 2, .bool xb, .string xt, .slice ka kn kc, .slice pa pn pc] 26))) := (Below.refl _ _).alloc (Nat.le_refl _) _
  have t0 := ta_Number_Null; have t1 := ta_Number_Bool; have t2 := ta_Number_Number
  simp only [Tv.val, Sv.v]
  go_enter Tryd.func12, Tryd.ntmps12
  go_wp2_with fail
  refine (kind_num _).mono ?_
  rintro _ _ ⟨rfl, rfl⟩
  go_wp2
  try simp only [Exit.inBlock, Exit.then]
  go_ret
  exact ⟨rfl, HB.out⟩
set_option maxHeartbeats 8000000 in
theorem is_txt {W : World} {x : Tv} (hk : x.k = 3) : Calls Tryd.prog 12 #[.iface 45 (.string x.t), x.val] W fun e w' => IsP W e w' := by
  obtain ⟨xk, xb, xt, ⟨ka, kn, kc⟩, ⟨pa, pn, pc⟩⟩ := x
  obtain rfl : xk = 3 := hk
  have HB : Hid (Below W.heap.size W (W.alloc (.cells #[.int .i64 3, .bool xb, .string xt, .slice ka kn kc, .slice pa pn pc] 26))) := (Below.refl _ _).alloc (Nat.le_refl _) _
  have t0 := ta_Text_Null; have t1 := ta_Text_Bool; have t2 := ta_Text_Number; have t3 := ta_Text_Text
  simp only [Tv.val, Sv.v]
  go_enter Tryd.func12, Tryd.ntmps12
  go_wp2_with fail
  refine (kind_txt _).mono ?_
  rintro _ _ ⟨rfl, rfl⟩
  go_wp2
  try simp only [Exit.inBlock, Exit.then]
  go_ret
  exact ⟨rfl, HB.out⟩
def is21 (b o pn cap k b2 o2 pc D : Nat) (t : TypeId) (p : Value) (z : Tv) : Nat → Value
  | 0 => .slice (some ⟨b, o, none⟩) pn cap
  | 1 => .int .i64 (k : Int)
  | 2 => .pointer (some ⟨b, o + k, none⟩)
  | 3 => .iface t p
  | 4 => .pointer (some ⟨D, 4, none⟩)
  | 5 => .slice (some ⟨b2, o2, none⟩) pn pc
  | 6 => .int .i64 (k : Int)
  | 7 => .pointer (some ⟨b2, o2 + k * 5, none⟩)
  | 8 => .agg (tcv z).toArray
  | 9 => .bool true
  | 10 => .bool false
  | _ => undef
set_option maxHeartbeats 16000000 in
theorem is_lst {A A' : Nat → Prop} {w : World} {x : Tv} {v : Value} {vs : List Value} {xs : List Tv} (hk : x.k = 4) (hv : RV A w 1 v vs) (hp : RV A' w 5 x.ps.v (tcs xs)) (hl : vs.length = xs.length) (hn : vs.length ≤ 8192) (hI : ∀ y ∈ vs, ∃ t p, y = .iface t p)
    (HE : ∀ (i : Nat) (y : Value) (z : Tv), vs[i]? = some y → xs[i]? = some z → ∀ W', Below w.heap.size w W' → Calls Tryd.prog 12 #[y, z.val] W' fun e w' => IsP W' e w') :
    Calls Tryd.prog 12 #[.iface 49 v, x.val] w fun e w' => IsP w e w' := by
  obtain ⟨xk, xb, xt, ⟨ka, kn, kc⟩, ⟨pa, pn, pc⟩⟩ := x
  obtain rfl : xk = 4 := hk
  obtain ⟨ad, n, cap, rfl, h1, h2, h3⟩ := hv
  obtain ⟨pd', pn', pc', e, g1, g2, g3⟩ := hp
  obtain ⟨rfl, rfl, rfl⟩ : pa = pd' ∧ pn = pn' ∧ pc = pc' := by simpa [Sv.v] using e
  rw [tcs_length] at g1
  obtain rfl : pn = n := by omega
  have HN : Hid (vs.length = pn) := by show _ = _; omega
  have HL : Hid (vs.length = xs.length) := hl
  have HI : Hid (∀ y ∈ vs, ∃ t p, y = .iface t p) := hI
  have HEE : Hid (∀ (i : Nat) (y : Value) (z : Tv), vs[i]? = some y → xs[i]? = some z → ∀ W', Below w.heap.size w W' → Calls Tryd.prog 12 #[y, z.val] W' fun e w' => IsP W' e w') := HE
  have HA : Hid (pn = 0 ∨ ∃ b o, ad = some ⟨b, o, none⟩ ∧ A b ∧ b < w.heap.size ∧ w.rangeAt b o vs) := h3
  have HB : Hid (pn = 0 ∨ ∃ b o, pa = some ⟨b, o, none⟩ ∧ A' b ∧ b < w.heap.size ∧ w.rangeAt b o (tcs xs)) := g3
  obtain ⟨D, hD⟩ : ∃ D, w.heap.size = D := ⟨_, rfl⟩
  have HDD : Hid (w.heap.size = D) := hD
  obtain ⟨U, hU⟩ : ∃ U, w.alloc (.cells #[.int .i64 4, .bool xb, .string xt, .slice ka kn kc, .slice pa pn pc] 26) = U := ⟨_, rfl⟩
  have HU : Hid (w.alloc (.cells #[.int .i64 4, .bool xb, .string xt, .slice ka kn kc, .slice pa pn pc] 26) = U) := hU
  have HDU : Hid (TC U D ⟨4, xb, xt, ⟨ka, kn, kc⟩, ⟨pa, pn, pc⟩⟩) := by rw [← hU, ← hD]; exact heap_alloc_new _ _
  have HBU : Hid (Below w.heap.size w U) := by rw [← hU]; exact (Below.refl _ _).alloc (Nat.le_refl _) _
  have hn1 : (pn : Int) ≤ 8192 := by omega
  have hn2 : (0 : Int) ≤ (pn : Int) := by omega
  obtain ⟨z0, z1, z2, z3, z4, zf⟩ := HDU.out.cells
  simp only [Sv.v] at z0 z1 z2 z3 z4
  have t0 := ta_List_Null; have t1 := ta_List_Bool; have t2 := ta_List_Number; have t3 := ta_List_Text; have t4 := ta_List_List
  simp only [Tv.val, Sv.v]
  clear hU zf h1 h2 h3 g1 g2 g3 e hl hn hI HE
  go_enter Tryd.func12, Tryd.ntmps12
  go_wp2_with (rw [HU.out])
  refine (kind_lst _).mono ?_
  rintro _ W2 ⟨rfl, hw2⟩
  rw [hw2]
  clear hw2 W2
  go_wp2_with fail
  go_loopw [97] (fun i wr => ∃ k : Nat, k ≤ pn ∧ i = .int .i64 (k : Int) ∧ Below U.heap.size U wr) (fun i _ => pn - (intOf i).toNat)
  case atStart => exact ⟨0, Nat.zero_le _, rfl, Below.refl _ _⟩
  case round =>
    obtain ⟨k, hkn, rfl, h4⟩ := hrel
    have HC : Hid (Below U.heap.size U wr) := h4
    have HB4 : Hid (Below w.heap.size w wr) := bl_tr HBU.out h4
    have HDR : Hid (TC wr D ⟨4, xb, xt, ⟨ka, kn, kc⟩, ⟨pa, pn, pc⟩⟩) := HDU.out.keep (h4.block _ HDU.out.lt)
    clear h4
    by_cases hlt : k < pn
    · have HLT : Hid (k < pn) := hlt
      obtain ⟨y, hy⟩ : ∃ y, vs[k]? = some y := ⟨vs[k]'(by rw [HN.out]; exact hlt), List.getElem?_eq_getElem _⟩
      obtain ⟨z, hz⟩ : ∃ z, xs[k]? = some z := ⟨xs[k]'(by rw [← HL.out, HN.out]; exact hlt), List.getElem?_eq_getElem _⟩
      obtain ⟨t, p, rfl⟩ := HI.out y (List.mem_of_getElem? hy)
      obtain ⟨b, o, rfl, _, hb1, hr1⟩ := HA.out.resolve_left (by omega)
      obtain ⟨b2, o2, rfl, _, hb2, hr2⟩ := HB.out.resolve_left (by omega)
      have HB1 : Hid (b < wr.heap.size) := Nat.lt_of_lt_of_le hb1 HB4.out.size
      have HB2 : Hid (b2 < wr.heap.size) := Nat.lt_of_lt_of_le hb2 HB4.out.size
      have HY : Hid (wr.rangeAt b (o + k) [.iface t p]) := range_below (fun j v hj => by
        obtain rfl : j = 0 := by rcases j with _ | j <;> simp at hj ⊢
        simp at hj; subst hj
        exact hr1 k _ hy) HB4.out hb1
      have HZ : Hid (wr.rangeAt b2 (o2 + k * 5) (tcv z)) := range_below (fun j v hj => by
        have hj5 : j < 5 := by have := (List.getElem?_eq_some_iff.1 hj).1; simpa [tcv] using this
        rw [Nat.add_assoc]
        exact hr2 (k * 5 + j) v ((tcs_at xs k z hz j hj5).trans hj)) HB4.out hb2
      have HE1 : Hid (∀ W', Below w.heap.size w W' → Calls Tryd.prog 12 #[.iface t p, .agg (tcv z).toArray] W' fun e w' => IsP W' e w') := HEE.out k _ z hy hz
      clear hb1 hr1 hb2 hr2 hy hz hkn
      go_upto_region 21 with (fail)
      refine RU.wp_rgn' [] (is21 b o pn cap k b2 o2 pc D t p z) (fun _ => 0) (gΩ wr) (by kernel_rfl) (by kernel_rfl) (show Below wr.heap.size wr _ from (Below.refl _ _).drew) ?_ ?_
      · refine ⟨?_, ?_, ?_, ?_, ?_, ?_, ?_, ?_, ?_, ?_, ?_, trivial⟩
        · refine RU.ObT.pure rfl rfl rfl (fun a V hf hp ev he hc W => ?_)
          have q9 : ev (.tmp 9) = .slice (some ⟨b, o, none⟩) pn cap := (he (.tmp 9)).trans (hf 9 rfl)
          simp only [List.getElem_toArray, List.getElem_cons_succ, List.getElem_cons_zero, execOp, Option.map_some, Option.map_none]; rw [q9]
          first | (go_simp; done) | (go_simp; rfl) | rfl
        · refine RU.ObT.pure rfl rfl rfl (fun a V hf hp ev he hc W => ?_)
          have q10 : ev (.tmp 10) = .int .i64 (k : Int) := (he (.tmp 10)).trans (hf 10 rfl)
          simp only [List.getElem_toArray, List.getElem_cons_succ, List.getElem_cons_zero, execOp, Option.map_some, Option.map_none]; rw [q10]
          first | (go_simp; done) | (go_simp; rfl) | rfl
        · refine RU.ObT.pure rfl rfl rfl (fun a V hf hp ev he hc W => ?_)
          have q100 : ev (.tmp 100) = .slice (some ⟨b, o, none⟩) pn cap := (he (.tmp 100)).trans (hp 0 100 rfl)
          have q101 : ev (.tmp 101) = .int .i64 (k : Int) := (he (.tmp 101)).trans (hp 1 101 rfl)
          simp only [List.getElem_toArray, List.getElem_cons_succ, List.getElem_cons_zero, execOp, Option.map_some, Option.map_none]; rw [q100, q101]
          have hk9 : (k : Int) < (pn : Int) := by have := HLT.out; omega
          first | (go_simp; done) | (go_simp; rfl) | rfl
        · refine RU.ObT.silent rfl (fun a W k0 V hO hf hp hk => ?_)
          have hO' : Below wr.heap.size wr W := hO
          have hcell : W.cell? ⟨b, o + k, none⟩ = some (.iface t p) := range_below HY.out hO' HB1.out 0 (.iface t p) rfl
          refine RU.ob_val rfl (RU.wanted_none rfl) (fun ev he hc => ?_) ⟨rfl, hO⟩
          have q102 : ev (.tmp 102) = .pointer (some ⟨b, o + k, none⟩) := (he (.tmp 102)).trans (hp 2 102 rfl)
          simp only [List.getElem_toArray, List.getElem_cons_succ, List.getElem_cons_zero, execOp, Option.map_some, Option.map_none]; rw [q102]
          first | (go_simp; done) | (go_simp; rfl) | rfl
        · refine RU.ObT.pure rfl rfl rfl (fun a V hf hp ev he hc W => ?_)
          have q3 : ev (.tmp 3) = .pointer (some ⟨D, 0, none⟩) := (he (.tmp 3)).trans (hf 3 rfl)
          simp only [List.getElem_toArray, List.getElem_cons_succ, List.getElem_cons_zero, execOp, Option.map_some, Option.map_none]; rw [q3]
          first | (go_simp; done) | (go_simp; rfl) | rfl
        · refine RU.ObT.silent rfl (fun a W k0 V hO hf hp hk => ?_)
          have hO' : Below wr.heap.size wr W := hO
          have hcell := (HDR.out.keep (hO'.block _ HDR.out.lt)).cells.2.2.2.2.1
          refine RU.ob_val rfl (RU.wanted_none rfl) (fun ev he hc => ?_) ⟨rfl, hO⟩
          have q104 : ev (.tmp 104) = .pointer (some ⟨D, 4, none⟩) := (he (.tmp 104)).trans (hp 4 104 rfl)
          simp only [List.getElem_toArray, List.getElem_cons_succ, List.getElem_cons_zero, execOp, Option.map_some, Option.map_none]; rw [q104]
          first | (go_simp; done) | (go_simp; rfl) | rfl
        · refine RU.ObT.pure rfl rfl rfl (fun a V hf hp ev he hc W => ?_)
          have q10 : ev (.tmp 10) = .int .i64 (k : Int) := (he (.tmp 10)).trans (hf 10 rfl)
          simp only [List.getElem_toArray, List.getElem_cons_succ, List.getElem_cons_zero, execOp, Option.map_some, Option.map_none]; rw [q10]
          first | (go_simp; done) | (go_simp; rfl) | rfl
        · refine RU.ObT.pure rfl rfl rfl (fun a V hf hp ev he hc W => ?_)
          have q105 : ev (.tmp 105) = .slice (some ⟨b2, o2, none⟩) pn pc := (he (.tmp 105)).trans (hp 5 105 rfl)
          have q106 : ev (.tmp 106) = .int .i64 (k : Int) := (he (.tmp 106)).trans (hp 6 106 rfl)
          simp only [List.getElem_toArray, List.getElem_cons_succ, List.getElem_cons_zero, execOp, Option.map_some, Option.map_none]; rw [q105, q106]
          have hk9 : (k : Int) < (pn : Int) := by have := HLT.out; omega
          first | (go_simp; done) | (go_simp; rfl) | rfl
        · refine RU.ObT.silent rfl (fun a W k0 V hO hf hp hk => ?_)
          have hO' : Below wr.heap.size wr W := hO
          have q107 : a.eval (.tmp 107) = .pointer (some ⟨b2, o2 + k * 5, none⟩) := hp 7 107 rfl
          exact RU.ob_op rfl (RU.wanted_none rfl) (wp_load_mid 26 (.tmp 107) rfl (b2) (o2 + k * 5) q107 (tcv z) _ (range_below HZ.out hO' HB2.out) Tryd.underlying26 rfl (by kernel_rfl) ⟨rfl, hO⟩)
        · refine RU.ObT.silent rfl (fun a W k0 V hO hf hp hk => ?_)
          have hO' : Below wr.heap.size wr W := hO
          have e103 : a.eval (.tmp 103) = .iface t p := hp 3 103 rfl
          have e108 : a.eval (.tmp 108) = .agg (tcv z).toArray := hp 8 108 rfl
          refine RU.ob_call (g := 12) (args := #[.iface t p, .agg (tcv z).toArray]) rfl (RU.wanted_none rfl) (fun ev he hc => ?_) ((HE1.out W (bl_tr HB4.out hO')).mono ?_)
          · have h103 := (he (.tmp 103)).trans e103
            have h108 := (he (.tmp 108)).trans e108
            have hfn := he (.func 12)
            simp only [List.getElem_toArray, List.getElem_cons_succ, List.getElem_cons_zero, execOp, Option.map_some, Option.map_none]
            simp only [resolve, invoke, Sem.run_bind, Sem.run_pure, Result.andThen_ok, List.map_toArray, List.map_cons, List.map_nil, h103, h108, hfn, Act.eval, hc]
            rfl
          · rintro e' W2 ⟨rfl, hb2⟩
            exact ⟨_, rfl, rfl, (hO'.trans (hb2.mono hO'.size) : Below wr.heap.size wr W2)⟩
        · refine RU.ObT.pure rfl rfl rfl (fun a V hf hp ev he hc W => ?_)
          have q109 : ev (.tmp 109) = .bool true := (he (.tmp 109)).trans (hp 9 109 rfl)
          simp only [List.getElem_toArray, List.getElem_cons_succ, List.getElem_cons_zero, execOp, Option.map_some, Option.map_none]; rw [q109]
          first | (go_simp; done) | (go_simp; rfl) | rfl
      intro W1 VW1 hOW1
      have BW1 : Hid (Below wr.heap.size wr W1) := hOW1
      clear hOW1
      simp only [RU.lay, RU.val, RU.at', is21, Act.put]
      simp only [List.setIfInBounds_toArray, List.set_cons_succ, List.set_cons_zero]
      go_wp2_with fail
      exact ⟨⟨k + 1, HLT.out, by go_num, bl_tr HC.out BW1.out⟩, by have := HLT.out; simp [intOf]; omega⟩
    · obtain rfl : k = pn := by omega
      have HF : Hid (Below w.heap.size w wr) := HB4
      go_wp2_with fail
      try simp only [Exit.inBlock, Exit.then]
      go_ret
      exact ⟨rfl, HF.out⟩
end Go.Proofs.YtefaohokmhdplaaDoor
