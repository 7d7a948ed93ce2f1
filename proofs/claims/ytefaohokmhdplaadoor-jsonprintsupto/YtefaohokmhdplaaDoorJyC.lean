/- Printing: parts side by side; what a value's text is; type assertions. -/
import Derived.Test.YtefaohokmhdplaaDoorJyB
import Derived.Test.YtefaohokmhdplaaDoorJxL
namespace Go.Proofs.YtefaohokmhdplaaDoor
open Go Go.RowKit
set_option linter.unusedSimpArgs false
set_option linter.unusedVariables false
set_option maxRecDepth 100000

def ctl (r : List (List Int)) : List Int := r.flatMap (fun t => 44 :: t)
def cm : List (List Int) → List Int
  | [] => []
  | t :: r => t ++ ctl r
def cr (ts : List (List Int)) (k : Nat) : List Int := if k = 0 then cm ts else ctl (ts.drop k)
theorem cr_step {ts : List (List Int)} {k : Nat} {t : List Int} (h : ts[k]? = some t) : cr ts k = (if 0 < k then [44] else []) ++ t ++ cr ts (k + 1) := by
  obtain ⟨hk, rfl⟩ := List.getElem?_eq_some_iff.1 h
  unfold cr
  rw [if_neg (by omega : ¬ k + 1 = 0)]
  match k, ts, hk with
  | 0, t :: r, _ => simp [cm]
  | k + 1, ts, hk =>
    rw [if_neg (by omega), if_pos (by omega), List.drop_eq_getElem_cons hk]
    simp only [ctl, List.flatMap_cons, List.cons_append, List.nil_append, List.append_assoc]
theorem cr_end {ts : List (List Int)} {k : Nat} (h : ts.length ≤ k) : cr ts k = [] := by
  unfold cr
  split
  · obtain rfl := List.length_eq_zero_iff.1 (show ts.length = 0 by omega)
    rfl
  · rw [List.drop_eq_nil_of_le h]; rfl
theorem ctl_len (r : List (List Int)) : r.length ≤ (ctl r).length := by
  induction r with
  | nil => simp
  | cons t r ih => simp [ctl] at ih ⊢; omega
theorem cm_len (ts : List (List Int)) : ts.length ≤ (cm ts).length + 1 := by
  cases ts with
  | nil => simp
  | cons t r => have := ctl_len r; simp [cm]; omega
theorem cr_zero (ts : List (List Int)) : cr ts 0 = cm ts := rfl
theorem ta_Null_Bool (v : Value) (xT : TypeId) (w : World) : (Instr.typeAssert (.iface 68 v) xT 70 true).run Tryd.prog w = .ok (.tuple #[.bool false, .bool false]) w := ta_no Tryd.underlying70 (by rfl) (by decide) (by kernel_rfl) v xT w
theorem ta_Null_Number (v : Value) (xT : TypeId) (w : World) : (Instr.typeAssert (.iface 68 v) xT 71 true).run Tryd.prog w = .ok (.tuple #[.string ⟨#[]⟩, .bool false]) w := ta_no Tryd.underlying71 (by rfl) (by decide) (by kernel_rfl) v xT w
theorem ta_Null_Text (v : Value) (xT : TypeId) (w : World) : (Instr.typeAssert (.iface 68 v) xT 45 true).run Tryd.prog w = .ok (.tuple #[.string ⟨#[]⟩, .bool false]) w := ta_no Tryd.underlying45 (by rfl) (by decide) (by kernel_rfl) v xT w
theorem ta_Null_List (v : Value) (xT : TypeId) (w : World) : (Instr.typeAssert (.iface 68 v) xT 49 true).run Tryd.prog w = .ok (.tuple #[.slice none 0 0, .bool false]) w := ta_no Tryd.underlying49 (by rfl) (by decide) (by kernel_rfl) v xT w
theorem ta_Null_Object (v : Value) (xT : TypeId) (w : World) : (Instr.typeAssert (.iface 68 v) xT 73 true).run Tryd.prog w = .ok (.tuple #[.slice none 0 0, .bool false]) w := ta_no Tryd.underlying73 (by rfl) (by decide) (by kernel_rfl) v xT w
theorem ta_nil {P : Program} {T : TypeId} {z : Value} {d : TypeDesc} (hu : P.underlying T = some d) (hd : noIf d = true) (hz : (P.info? T).map (·.zero) = some (some z)) (xT : TypeId) (w : World) : (Instr.typeAssert .nilIface xT T true).run P w = .ok (.tuple #[z, .bool false]) w := by
  obtain ⟨j, hj, hz'⟩ := Option.map_eq_some_iff.1 hz
  cases d <;> simp_all [Instr.typeAssert, run_underlying hu, typeInfo, noIf, zeroValue]
theorem ta_nil_Bool (xT : TypeId) (w : World) : (Instr.typeAssert .nilIface xT 70 true).run Tryd.prog w = .ok (.tuple #[.bool false, .bool false]) w := ta_nil Tryd.underlying70 (by rfl) (by kernel_rfl) xT w
theorem ta_nil_Number (xT : TypeId) (w : World) : (Instr.typeAssert .nilIface xT 71 true).run Tryd.prog w = .ok (.tuple #[.string ⟨#[]⟩, .bool false]) w := ta_nil Tryd.underlying71 (by rfl) (by kernel_rfl) xT w
theorem ta_nil_Text (xT : TypeId) (w : World) : (Instr.typeAssert .nilIface xT 45 true).run Tryd.prog w = .ok (.tuple #[.string ⟨#[]⟩, .bool false]) w := ta_nil Tryd.underlying45 (by rfl) (by kernel_rfl) xT w
theorem ta_nil_List (xT : TypeId) (w : World) : (Instr.typeAssert .nilIface xT 49 true).run Tryd.prog w = .ok (.tuple #[.slice none 0 0, .bool false]) w := ta_nil Tryd.underlying49 (by rfl) (by kernel_rfl) xT w
theorem ta_nil_Object (xT : TypeId) (w : World) : (Instr.typeAssert .nilIface xT 73 true).run Tryd.prog w = .ok (.tuple #[.slice none 0 0, .bool false]) w := ta_nil Tryd.underlying73 (by rfl) (by kernel_rfl) xT w
/-- append of a number's text. -/
theorem app_num {ops : Array Oper} {rest : List Oper} {o : Oper} {a : Act} {Q : Exit → Act → World → Prop} {B0 : Nat} {wr : World} (hgd : o.guard = none) (s x : Operand) (ho : o.op = .call { callee := .builtin .append, args := #[s, x], argTypes := #[76, 71] })
    (hB : B0 ≤ wr.heap.size) (v : Value) (xs : List Int) (hs : a.eval s = v) (h0 : Ow B0 wr v xs) (t : ByteArray) (hx : a.eval x = .string t) (hk : xs.length + t.size ≤ 140737488355328)
    (h : ∀ v' w', Ow B0 w' v' (xs ++ nb t) → wr.grownBy w' v.ownBlock → Below B0 wr w' → wpList Tryd.prog ops Q rest (a.put o.dst v') w') : wpList Tryd.prog ops Q (o :: rest) a wr := by
  obtain ⟨i, hi, hz, hsz, hby⟩ := info_u8
  refine Lib.wpList_append_own_string wr hgd s x 76 71 ho B0 5 i Tryd.underlying76 Tryd.underlying71 hi hz hsz hby v xs.length (bv xs) hs h0 t hx (by unfold maxLen; omega) hk hB ?_
  intro v' w' h1 h2 _
  refine h v' w' ?_ h2 ((Below.refl B0 wr).grown h2 hB (fun b hb' => h0.blk b hb'))
  unfold Ow
  rw [List.length_append, nb_length, bv_append, ← nb_cells]; exact h1
def bt (b : Bool) : List Int := if b = true then [116, 114, 117, 101] else [102, 97, 108, 115, 101]
set_option maxHeartbeats 4000000 in
theorem abool_in {B : Nat} {v : Value} {xs : List Int} {b : Bool} {w : World} (h : Ow B w v xs) (hB : B ≤ w.heap.size) (hl : xs.length + 5 ≤ 140737488355328) :
    Calls Tryd.prog 74 #[v, .bool b] w fun e w' => ∃ v', e = .returned v' ∧ Ow B w' v' (xs ++ bt b) ∧ Kq B w w' := by
  have HO : Hid (Ow B w v xs) := h
  have HB : Hid (B ≤ w.heap.size) := hB
  cases b with
  | true =>
    have HL1 : Hid (xs.length + (⟨#[116, 114, 117, 101]⟩ : ByteArray).size ≤ 140737488355328) := by show _ ≤ _; simp [ByteArray.size]; omega
    clear h hB hl
    go_enter Tryd.func74, Tryd.ntmps74
    go_wp2_with (at_builtin; refine app_str rfl (.tmp 6) (.const (.string ⟨#[116, 114, 117, 101]⟩)) rfl HB.out v xs rfl HO.out ⟨#[116, 114, 117, 101]⟩ rfl HL1.out ?_
                 intro v1 w1 o1 o2 o3
                 have HF : Hid (Ow B w1 v1 (xs ++ bt true) ∧ Kq B w w1) := ⟨o1, Kq.grown (Kq.refl B w) HB.out HO.out o2⟩
                 clear o1 o2 o3)
    go_ret
    exact ⟨_, rfl, HF.out.1, HF.out.2⟩
  | false =>
    have HL1 : Hid (xs.length + (⟨#[102, 97, 108, 115, 101]⟩ : ByteArray).size ≤ 140737488355328) := by show _ ≤ _; simp [ByteArray.size]; omega
    clear h hB hl
    go_enter Tryd.func74, Tryd.ntmps74
    go_wp2_with (at_builtin; refine app_str rfl (.tmp 8) (.const (.string ⟨#[102, 97, 108, 115, 101]⟩)) rfl HB.out v xs rfl HO.out ⟨#[102, 97, 108, 115, 101]⟩ rfl HL1.out ?_
                 intro v1 w1 o1 o2 o3
                 have HF : Hid (Ow B w1 v1 (xs ++ bt false) ∧ Kq B w w1) := ⟨o1, Kq.grown (Kq.refl B w) HB.out HO.out o2⟩
                 clear o1 o2 o3)
    go_ret
    exact ⟨_, rfl, HF.out.1, HF.out.2⟩
set_option maxHeartbeats 4000000 in
theorem abool_any {B : Nat} {v : Value} {xs : List Int} {b : Bool} {w : World} (h : Ow B w v xs) (hB : B ≤ w.heap.size) (hl : xs.length + 5 ≤ 140737488355328) :
    Calls Tryd.prog 54 #[v, .bool b] w fun e w' => ∃ v', e = .returned v' ∧ Ow B w' v' (xs ++ bt b) ∧ Kq B w w' := by
  have HCL : Hid (Calls Tryd.prog 74 #[v, .bool b] w fun e w' => ∃ v', e = .returned v' ∧ Ow B w' v' (xs ++ bt b) ∧ Kq B w w') := abool_in h hB hl
  clear h hB hl
  go_enter Tryd.func54, Tryd.ntmps54
  go_wp2_with fail
  refine HCL.out.mono ?_
  rintro e w1 ⟨v1, rfl, h⟩
  have HF : Hid (Ow B w1 v1 (xs ++ bt b) ∧ Kq B w w1) := h
  clear h HCL
  go_wp2
  go_ret
  exact ⟨_, rfl, HF.out.1, HF.out.2⟩
/-- A value in memory, and its text. -/
inductive PT (A : Nat → Prop) (w : World) : Value → List Int → Prop
  | null : PT A w (.iface 68 (.agg #[])) [110, 117, 108, 108]
  | nil : PT A w .nilIface [110, 117, 108, 108]
  | bool (b : Bool) : PT A w (.iface 70 (.bool b)) (bt b)
  | num (t : ByteArray) : PT A w (.iface 71 (.string t)) (nb t)
  | txt (t : ByteArray) : PT A w (.iface 45 (.string t)) (qt t)
  | lst (v : Value) (vs : List Value) (ts : List (List Int)) (h : RV A w 1 v vs) (hl : vs.length = ts.length) (hv : ∀ (i : Nat) (x : Value) (t : List Int), vs[i]? = some x → ts[i]? = some t → PT A w x t) : PT A w (.iface 49 v) ([91] ++ (cm ts ++ [93]))
  | obj (v : Value) (ms : List (ByteArray × Value)) (ts : List (List Int)) (h : RV A w 2 v (mcs ms)) (hl : ms.length = ts.length) (hv : ∀ (i : Nat) (m : ByteArray × Value) (t : List Int), ms[i]? = some m → ts[i]? = some t → PT A w m.2 t) : PT A w (.iface 73 v) ([123] ++ (cm (List.zipWith (fun m t => qt m.1 ++ ([58] ++ t)) ms ts) ++ [125]))
theorem PT.one {A : Nat → Prop} {w : World} {v : Value} {t : List Int} (h : PT A w v t) : v.oneCell' = true := by cases h <;> rfl
/-- What putting a value behind bytes answers. -/
def AVC (w0 : World) (v : Value) (t : List Int) : Prop := ∀ (W : World) (bv : Value) (xs : List Int), Below w0.heap.size w0 W → Ow w0.heap.size W bv xs → xs.length + t.length ≤ 140737488355000 →
  Calls Tryd.prog 34 #[bv, v] W fun e W' => ∃ v', e = .returned v' ∧ Ow w0.heap.size W' v' (xs ++ t) ∧ Kq w0.heap.size W W'
end Go.Proofs.YtefaohokmhdplaaDoor
/- Package json: lists put behind bytes. -/
namespace Go.Proofs.YtefaohokmhdplaaDoor
open Go Go.RowKit
set_option linter.unusedSimpArgs false
set_option linter.unusedVariables false
set_option maxRecDepth 100000

theorem Kq.below {w0 W W' : World} (h : Kq w0.heap.size W W') (hb : Below w0.heap.size w0 W) : Below w0.heap.size w0 W' := hb.trans h.1
set_option maxHeartbeats 16000000 in
theorem alist_any {w0 : World} {A : Nat → Prop} {sv : Value} {vs : List Value} {ts : List (List Int)} (hv : RV A w0 1 sv vs) (hl : vs.length = ts.length) (h1 : ∀ x ∈ vs, x.oneCell' = true)
    (hc : ∀ (i : Nat) (x : Value) (t : List Int), vs[i]? = some x → ts[i]? = some t → AVC w0 x t) {W : World} {v : Value} {xs : List Int} (hw : Below w0.heap.size w0 W) (h : Ow w0.heap.size W v xs) (hb : xs.length + ([91] ++ (cm ts ++ [93])).length ≤ 140737488355000) :
    Calls Tryd.prog 56 #[v, sv] W fun e W' => ∃ v', e = .returned v' ∧ Ow w0.heap.size W' v' (xs ++ ([91] ++ (cm ts ++ [93]))) ∧ Kq w0.heap.size W W' := by
  obtain ⟨ad, n, cap, rfl, hcl, hcc, hx⟩ := hv
  have hn : n = ts.length := by omega
  have HLV : Hid (vs.length = n) := by show _ = _; omega
  have HXX : Hid (n = 0 ∨ ∃ b o, ad = some ⟨b, o, none⟩ ∧ A b ∧ b < w0.heap.size ∧ w0.rangeAt b o vs) := hx
  have H1 : Hid (∀ x ∈ vs, x.oneCell' = true) := h1
  have HC : Hid (∀ (i : Nat) (x : Value) (t : List Int), vs[i]? = some x → ts[i]? = some t → AVC w0 x t) := hc
  have HW : Hid (Below w0.heap.size w0 W) := hw
  have hBW : w0.heap.size ≤ W.heap.size := hw.size
  have HLT : Hid (ts.length = n) := hn.symm
  have hcm := cm_len ts
  have hn9 : (n : Int) ≤ 140737488355001 := by simp at hb; omega
  obtain ⟨E, hE⟩ : ∃ E, cm ts = E := ⟨_, rfl⟩
  have HE0 : Hid (cr ts 0 = E) := by show _ = _; rw [cr_zero]; exact hE
  rw [hE] at hb ⊢
  have HL : Hid (xs.length + ([91] ++ (E ++ [93])).length ≤ 140737488355000) := hb
  have HO1 : Hid (Ow w0.heap.size (W.alloc (.cells #[.int .u8 91] 5)) v (xs)) := h.alloc _
  have HS1 : Hid (Sl (W.alloc (.cells #[.int .u8 91] 5)) (.slice (some ⟨W.heap.size, 0, none⟩) 1 1) [91]) := Sl.one W 91 _
  have HB1 : Hid (w0.heap.size ≤ (W.alloc (.cells #[.int .u8 91] 5)).heap.size) := by show _ ≤ _; have := hBW; simp; omega
  have HL1 : Hid ((xs).length + ([91] : List Int).length ≤ 140737488355328) := by show _ ≤ _; have := HL.out; simp at this ⊢; omega
  clear h hb hx hc h1 hw hcl hn hcm hE hl
  go_enter Tryd.func56, Tryd.ntmps56
  go_wp2_with (first
    | (at_builtin; refine app_u8 rfl (.tmp 7) (.tmp 8) rfl HB1.out v (xs) rfl HO1.out _ rfl [91] HS1.out HL1.out ?_
       intro v1 w1 o1 o2 o3 o4
       have HOA : Hid (Ow w0.heap.size w1 v1 (xs ++ [91])) := o1
       have HKA : Hid (Kq w0.heap.size W w1) := Kq.grown ((Kq.refl w0.heap.size W).alloc hBW _) hBW HO1.out o2
       clear o1 o2 o3 o4))
  have HST : Hid (∃ (k : Nat) (L : List Int), k ≤ n ∧ Value.int .i64 0 = .int .i64 (k : Int) ∧ Ow w0.heap.size w1 v1 (xs ++ [91] ++ L) ∧ Hid (L ++ cr ts k = E) ∧ Kq w0.heap.size W w1) := ⟨0, [], Nat.zero_le _, rfl, by rw [List.append_nil]; exact HOA.out, HE0.out, HKA.out⟩
  clear HO1 HS1 HB1 HL1 HOA HKA HE0
  go_loopw [0, 12] (fun v0 i Wr => ∃ (k : Nat) (L : List Int), k ≤ n ∧ i = .int .i64 (k : Int) ∧ Ow w0.heap.size Wr v0 (xs ++ [91] ++ L) ∧ Hid (L ++ cr ts k = E) ∧ Kq w0.heap.size W Wr) (fun _ i _ => n - (intOf i).toNat)
  case atStart => exact HST.out
  case round =>
    obtain ⟨k, L, hk, rfl, ho, he, hkq⟩ := hrel
    have HO : Hid (Ow w0.heap.size wr u0 (xs ++ [91] ++ L)) := ho
    have HK : Hid (Kq w0.heap.size W wr) := hkq
    have HBR : Hid (Below w0.heap.size w0 wr) := hkq.below HW.out
    have hBs : w0.heap.size ≤ wr.heap.size := HBR.out.size
    clear HST ho hkq
    by_cases hlt : k < n
    · rcases HXX.out with h0 | ⟨b, o, rfl, -, hlb, hm⟩
      · omega
      obtain ⟨x, hx⟩ : ∃ x, vs[k]? = some x := ⟨vs[k]'(by have := HLV.out; omega), List.getElem?_eq_getElem _⟩
      obtain ⟨t, ht⟩ : ∃ t, ts[k]? = some t := ⟨ts[k]'(by have := HLT.out; omega), List.getElem?_eq_getElem _⟩
      have h1x : x.oneCell' = true := H1.out _ (List.mem_of_getElem? hx)
      have c0 : wr.cell? ⟨b, o + k, none⟩ = some x := (HBR.out.cell (p := ⟨b, o + k, none⟩) hlb).trans (hm _ _ hx)
      have HCX : Hid (AVC w0 x t) := HC.out k x t hx ht
      have hstep := cr_step ht
      obtain ⟨sp, hsp⟩ : ∃ sp, (if 0 < k then ([44] : List Int) else []) = sp := ⟨_, rfl⟩
      rw [hsp] at hstep
      have HSP : Hid ((if 0 < k then ([44] : List Int) else []) = sp) := hsp
      have HLL : Hid (xs.length + 1 + L.length + sp.length + t.length ≤ 140737488355000) := by
        have a1 := HL.out; have a2 := he.out; rw [hstep] at a2; rw [← a2] at a1; simp at a1 ⊢; show _ ≤ _; omega
      have HEE : Hid (L ++ (sp ++ t) ++ cr ts (k + 1) = E) := by show _ = _; rw [List.append_assoc, ← hstep]; exact he.out
      clear hm hx ht hstep he hsp
      rcases Nat.eq_zero_or_pos k with hk0 | hk0
      case' inl =>
        subst hk0
        have c1 : wr.cell? ⟨b, o, none⟩ = some x := c0
        clear c0
        go_wp2_with fail
        obtain ⟨W2, hW2⟩ : ∃ W2, wr = W2 := ⟨_, rfl⟩
        obtain ⟨u2, hu2⟩ : ∃ u2, u0 = u2 := ⟨_, rfl⟩
        have HO2 : Hid (Ow w0.heap.size W2 u2 (xs ++ [91] ++ L ++ sp)) := by rw [← HSP.out, if_neg (by omega), List.append_nil, ← hW2, ← hu2]; exact HO.out
        have HK2 : Hid (Kq w0.heap.size wr W2) := by rw [← hW2]; exact Kq.refl _ _
        rw [hW2, hu2]
        clear hu2
      case' inr =>
        have hk1 : (0 : Int) < (k : Int) := by omega
        have hif : sp = [44] := by rw [← HSP.out]; exact if_pos hk0
        have HO2 : Hid (Ow w0.heap.size (wr.alloc (.cells #[.int .u8 44] 5)) u0 (xs ++ [91] ++ L)) := HO.out.alloc _
        have HS2 : Hid (Sl (wr.alloc (.cells #[.int .u8 44] 5)) (.slice (some ⟨wr.heap.size, 0, none⟩) 1 1) [44]) := Sl.one wr 44 _
        have HB2 : Hid (w0.heap.size ≤ (wr.alloc (.cells #[.int .u8 44] 5)).heap.size) := by show _ ≤ _; have := hBs; simp; omega
        have HL2 : Hid ((xs ++ [91] ++ L).length + ([44] : List Int).length ≤ 140737488355328) := by show _ ≤ _; have := (by have := HLL.out; rw [hif] at this; simp at this; exact this : xs.length + 1 + L.length + 1 + t.length ≤ 140737488355000); simp at this ⊢; omega
        go_wp2_with (first
          | (at_builtin; refine app_u8 rfl (.tmp 19) (.tmp 20) rfl HB2.out u0 (xs ++ [91] ++ L) rfl HO2.out _ rfl [44] HS2.out HL2.out ?_
             intro u2 W2 o1 o2 o3 o4
             have HOB : Hid (Ow w0.heap.size W2 u2 (xs ++ [91] ++ L ++ [44])) := o1
             have HK2 : Hid (Kq w0.heap.size wr W2) := Kq.grown ((Kq.refl w0.heap.size wr).alloc hBs _) hBs HO2.out o2
             clear o1 o2 o3 o4))
        clear HO2 HS2 HB2 HL2
        have HO2 : Hid (Ow w0.heap.size W2 u2 (xs ++ [91] ++ L ++ sp)) := by rw [hif]; exact HOB.out
        clear hif HOB
      all_goals (
        refine (HCX.out W2 u2 _ (HK2.out.below HBR.out) HO2.out (by have := HLL.out; simp only [List.length_append, List.length_cons, List.length_nil] at this ⊢; omega)).mono ?_
        rintro e W3 ⟨u3, rfl, p1, p2⟩
        have HO3 : Hid (Ow w0.heap.size W3 u3 (xs ++ [91] ++ (L ++ (sp ++ t)))) := by
          have := p1; simp only [List.append_assoc] at this ⊢; exact this
        have HK3 : Hid (Kq w0.heap.size W W3) := (HK.out.trans HK2.out).trans p2
        clear p1 p2
        go_wp2
        go_roundw
        case rel => exact ⟨_, L ++ (sp ++ t), hlt, by go_num, HO3.out, HEE.out, HK3.out⟩
        case measure => simp [intOf]; omega)
    · have HLE : Hid (L = E) := by show _ = _; have := he.out; rw [cr_end (by have := HLT.out; omega), List.append_nil] at this; exact this
      have HO2 : Hid (Ow w0.heap.size (wr.alloc (.cells #[.int .u8 93] 5)) u0 (xs ++ [91] ++ L)) := HO.out.alloc _
      have HS2 : Hid (Sl (wr.alloc (.cells #[.int .u8 93] 5)) (.slice (some ⟨wr.heap.size, 0, none⟩) 1 1) [93]) := Sl.one wr 93 _
      have HB2 : Hid (w0.heap.size ≤ (wr.alloc (.cells #[.int .u8 93] 5)).heap.size) := by show _ ≤ _; have := hBs; simp; omega
      have HL2 : Hid ((xs ++ [91] ++ L).length + ([93] : List Int).length ≤ 140737488355328) := by show _ ≤ _; have := (by have h9 := HL.out; rw [← HLE.out] at h9; simp at h9; exact h9 : xs.length + (L.length + 1 + 1) ≤ 140737488355000); simp at this ⊢; omega
      clear he
      go_wp2_with (first
        | (at_builtin; refine app_u8 rfl (.tmp 26) (.tmp 27) rfl HB2.out u0 (xs ++ [91] ++ L) rfl HO2.out _ rfl [93] HS2.out HL2.out ?_
           intro u2 W2 o1 o2 o3 o4
           have HF : Hid (Ow w0.heap.size W2 u2 (xs ++ ([91] ++ (E ++ [93]))) ∧ Kq w0.heap.size W W2) := ⟨by rw [← HLE.out]; simpa using o1, HK.out.trans (Kq.grown ((Kq.refl w0.heap.size wr).alloc hBs _) hBs HO2.out o2)⟩
           clear o1 o2 o3 o4))
      go_ret
      exact ⟨_, rfl, HF.out.1, HF.out.2⟩
end Go.Proofs.YtefaohokmhdplaaDoor
