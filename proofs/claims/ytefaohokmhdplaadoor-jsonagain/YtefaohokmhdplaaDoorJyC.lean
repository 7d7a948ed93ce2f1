/- Printing: parts side by side; what a value's text is; type assertions. -/
import Derived.Test.YtefaohokmhdplaaDoorJyB
import Derived.Test.YtefaohokmhdplaaDoorJxL
namespace Go.Proofs.YtefaohokmhdplaaDoor
open Go Go.RowKit
set_option linter.unusedSimpArgs false
set_option linter.unusedVariables false
set_option maxRecDepth 100000

def ctl (r : List (List Int)) : List Int := r.flatMap (fun t => 44 :: t)
def cm : List (List Int) → List Int
  | [] => []
  | t :: r => t ++ ctl r
def cr (ts : List (List Int)) (k : Nat) : List Int := if k = 0 then cm ts else ctl (ts.drop k)
theorem cr_step {ts : List (List Int)} {k : Nat} {t : List Int} (h : ts[k]? = some t) : cr ts k = (if 0 < k then [44] else []) ++ t ++ cr ts (k + 1) := by
  obtain ⟨hk, rfl⟩ := List.getElem?_eq_some_iff.1 h
  unfold cr
  rw [if_neg (by omega : ¬ k + 1 = 0)]
  match k, ts, hk with
  | 0, t :: r, _ => simp [cm]
  | k + 1, ts, hk =>
    rw [if_neg (by omega), if_pos (by omega), List.drop_eq_getElem_cons hk]
    simp only [ctl, List.flatMap_cons, List.cons_append, List.nil_append, List.append_assoc]
theorem cr_end {ts : List (List Int)} {k : Nat} (h : ts.length ≤ k) : cr ts k = [] := by
  unfold cr
  split
  · obtain rfl := List.length_eq_zero_iff.1 (show ts.length = 0 by omega)
    rfl
  · rw [List.drop_eq_nil_of_le h]; rfl
theorem ctl_len (r : List (List Int)) : r.length ≤ (ctl r).length := by
  induction r with
  | nil => simp
  | cons t r ih => simp [ctl] at ih ⊢; omega
theorem cm_len (ts : List (List Int)) : ts.length ≤ (cm ts).length + 1 := by
  cases ts with
  | nil => simp
  | cons t r => have := ctl_len r; simp [cm]; omega
theorem cr_zero (ts : List (List Int)) : cr ts 0 = cm ts := rfl
theorem ta_Null_Bool (v : Value) (xT : TypeId) (w : World) : (Instr.typeAssert (.iface 68 v) xT 70 true).run Tryd.prog w = .ok (.tuple #[.bool false, .bool false]) w := ta_no Tryd.underlying70 (by rfl) (by decide) (by kernel_rfl) v xT w
theorem ta_Null_Number (v : Value) (xT : TypeId) (w : World) : (Instr.typeAssert (.iface 68 v) xT 71 true).run Tryd.prog w = .ok (.tuple #[.string ⟨#[]⟩, .bool false]) w := ta_no Tryd.underlying71 (by rfl) (by decide) (by kernel_rfl) v xT w
theorem ta_Null_Text (v : Value) (xT : TypeId) (w : World) : (Instr.typeAssert (.iface 68 v) xT 45 true).run Tryd.prog w = .ok (.tuple #[.string ⟨#[]⟩, .bool false]) w := ta_no Tryd.underlying45 (by rfl) (by decide) (by kernel_rfl) v xT w
theorem ta_Null_List (v : Value) (xT : TypeId) (w : World) : (Instr.typeAssert (.iface 68 v) xT 49 true).run Tryd.prog w = .ok (.tuple #[.slice none 0 0, .bool false]) w := ta_no Tryd.underlying49 (by rfl) (by decide) (by kernel_rfl) v xT w
theorem ta_Null_Object (v : Value) (xT : TypeId) (w : World) : (Instr.typeAssert (.iface 68 v) xT 73 true).run Tryd.prog w = .ok (.tuple #[.slice none 0 0, .bool false]) w := ta_no Tryd.underlying73 (by rfl) (by decide) (by kernel_rfl) v xT w
theorem ta_nil {P : Program} {T : TypeId} {z : Value} {d : TypeDesc} (hu : P.underlying T = some d) (hd : noIf d = true) (hz : (P.info? T).map (·.zero) = some (some z)) (xT : TypeId) (w : World) : (Instr.typeAssert .nilIface xT T true).run P w = .ok (.tuple #[z, .bool false]) w := by
  obtain ⟨j, hj, hz'⟩ := Option.map_eq_some_iff.1 hz
  cases d <;> simp_all [Instr.typeAssert, run_underlying hu, typeInfo, noIf, zeroValue]
theorem ta_nil_Bool (xT : TypeId) (w : World) : (Instr.typeAssert .nilIface xT 70 true).run Tryd.prog w = .ok (.tuple #[.bool false, .bool false]) w := ta_nil Tryd.underlying70 (by rfl) (by kernel_rfl) xT w
theorem ta_nil_Number (xT : TypeId) (w : World) : (Instr.typeAssert .nilIface xT 71 true).run Tryd.prog w = .ok (.tuple #[.string ⟨#[]⟩, .bool false]) w := ta_nil Tryd.underlying71 (by rfl) (by kernel_rfl) xT w
theorem ta_nil_Text (xT : TypeId) (w : World) : (Instr.typeAssert .nilIface xT 45 true).run Tryd.prog w = .ok (.tuple #[.string ⟨#[]⟩, .bool false]) w := ta_nil Tryd.underlying45 (by rfl) (by kernel_rfl) xT w
theorem ta_nil_List (xT : TypeId) (w : World) : (Instr.typeAssert .nilIface xT 49 true).run Tryd.prog w = .ok (.tuple #[.slice none 0 0, .bool false]) w := ta_nil Tryd.underlying49 (by rfl) (by kernel_rfl) xT w
theorem ta_nil_Object (xT : TypeId) (w : World) : (Instr.typeAssert .nilIface xT 73 true).run Tryd.prog w = .ok (.tuple #[.slice none 0 0, .bool false]) w := ta_nil Tryd.underlying73 (by rfl) (by kernel_rfl) xT w
/-- append of a number's text. -/
theorem app_num {ops : Array Oper} {rest : List Oper} {o : Oper} {a : Act} {Q : Exit → Act → World → Prop} {B0 : Nat} {wr : World} (hgd : o.guard = none) (s x : Operand) (ho : o.op = .call { callee := .builtin .append, args := #[s, x], argTypes := #[76, 71] })
    (hB : B0 ≤ wr.heap.size) (v : Value) (xs : List Int) (hs : a.eval s = v) (h0 : Ow B0 wr v xs) (t : ByteArray) (hx : a.eval x = .string t) (hk : xs.length + t.size ≤ 140737488355328)
    (h : ∀ v' w', Ow B0 w' v' (xs ++ nb t) → wr.grownBy w' v.ownBlock → Below B0 wr w' → wpList Tryd.prog ops Q rest (a.put o.dst v') w') : wpList Tryd.prog ops Q (o :: rest) a wr := by
  obtain ⟨i, hi, hz, hsz, hby⟩ := info_u8
  refine Lib.wpList_append_own_string wr hgd s x 76 71 ho B0 5 i Tryd.underlying76 Tryd.underlying71 hi hz hsz hby v xs.length (bv xs) hs h0 t hx (by unfold maxLen; omega) hk hB ?_
  intro v' w' h1 h2 _
  refine h v' w' ?_ h2 ((Below.refl B0 wr).grown h2 hB (fun b hb' => h0.blk b hb'))
  unfold Ow
  rw [List.length_append, nb_length, bv_append, ← nb_cells]; exact h1
def bt (b : Bool) : List Int := if b = true then [116, 114, 117, 101] else [102, 97, 108, 115, 101]
set_option maxHeartbeats 4000000 in
theorem abool_in {B : Nat} {v : Value} {xs : List Int} {b : Bool} {w : World} (h : Ow B w v xs) (hB : B ≤ w.heap.size) (hl : xs.length + 5 ≤ 140737488355328) :
    Calls Tryd.prog 74 #[v, .bool b] w fun e w' => ∃ v', e = .returned v' ∧ Ow B w' v' (xs ++ bt b) ∧ Kq B w w' := by
  have HO : Hid (Ow B w v xs) := h
  have HB : Hid (B ≤ w.heap.size) := hB
  cases b with
  | true =>
    have HL1 : Hid (xs.length + (⟨#[116, 114, 117, 101]⟩ : ByteArray).size ≤ 140737488355328) := by show _ ≤ _; simp [ByteArray.size]; omega
    clear h hB hl
    go_enter Tryd.func74, Tryd.ntmps74
    go_wp2_with (at_builtin; refine app_str rfl (.tmp 6) (.const (.string ⟨#[116, 114, 117, 101]⟩)) rfl HB.out v xs rfl HO.out ⟨#[116, 114, 117, 101]⟩ rfl HL1.out ?_
                 intro v1 w1 o1 o2 o3
                 have HF : Hid (Ow B w1 v1 (xs ++ bt true) ∧ Kq B w w1) := ⟨o1, Kq.grown (Kq.refl B w) HB.out HO.out o2⟩
                 clear o1 o2 o3)
    go_ret
    exact ⟨_, rfl, HF.out.1, HF.out.2⟩
  | false =>
    have HL1 : Hid (xs.length + (⟨#[102, 97, 108, 115, 101]⟩ : ByteArray).size ≤ 140737488355328) := by show _ ≤ _; simp [ByteArray.size]; omega
    clear h hB hl
    go_enter Tryd.func74, Tryd.ntmps74
    go_wp2_with (at_builtin; refine app_str rfl (.tmp 8) (.const (.string ⟨#[102, 97, 108, 115, 101]⟩)) rfl HB.out v xs rfl HO.out ⟨#[102, 97, 108, 115, 101]⟩ rfl HL1.out ?_
                 intro v1 w1 o1 o2 o3
                 have HF : Hid (Ow B w1 v1 (xs ++ bt false) ∧ Kq B w w1) := ⟨o1, Kq.grown (Kq.refl B w) HB.out HO.out o2⟩
                 clear o1 o2 o3)
    go_ret
    exact ⟨_, rfl, HF.out.1, HF.out.2⟩
set_option maxHeartbeats 4000000 in
theorem abool_any {B : Nat} {v : Value} {xs : List Int} {b : Bool} {w : World} (h : Ow B w v xs) (hB : B ≤ w.heap.size) (hl : xs.length + 5 ≤ 140737488355328) :
    Calls Tryd.prog 54 #[v, .bool b] w fun e w' => ∃ v', e = .returned v' ∧ Ow B w' v' (xs ++ bt b) ∧ Kq B w w' := by
  have HCL : Hid (Calls Tryd.prog 74 #[v, .bool b] w fun e w' => ∃ v', e = .returned v' ∧ Ow B w' v' (xs ++ bt b) ∧ Kq B w w') := abool_in h hB hl
  clear h hB hl
  go_enter Tryd.func54, Tryd.ntmps54
  go_wp2_with fail
  refine HCL.out.mono ?_
  rintro e w1 ⟨v1, rfl, h⟩
  have HF : Hid (Ow B w1 v1 (xs ++ bt b) ∧ Kq B w w1) := h
  clear h HCL
  go_wp2
  go_ret
  exact ⟨_, rfl, HF.out.1, HF.out.2⟩
/-- A value in memory, and its text. -/
inductive PT (A : Nat → Prop) (w : World) : Value → List Int → Prop
  | null : PT A w (.iface 68 (.agg #[])) [110, 117, 108, 108]
  | nil : PT A w .nilIface [110, 117, 108, 108]
  | bool (b : Bool) : PT A w (.iface 70 (.bool b)) (bt b)
  | num (t : ByteArray) : PT A w (.iface 71 (.string t)) (nb t)
  | txt (t : ByteArray) : PT A w (.iface 45 (.string t)) (qt t)
  | lst (v : Value) (vs : List Value) (ts : List (List Int)) (h : RV A w 1 v vs) (hl : vs.length = ts.length) (hv : ∀ (i : Nat) (x : Value) (t : List Int), vs[i]? = some x → ts[i]? = some t → PT A w x t) : PT A w (.iface 49 v) ([91] ++ (cm ts ++ [93]))
  | obj (v : Value) (ms : List (ByteArray × Value)) (ts : List (List Int)) (h : RV A w 2 v (mcs ms)) (hl : ms.length = ts.length) (hv : ∀ (i : Nat) (m : ByteArray × Value) (t : List Int), ms[i]? = some m → ts[i]? = some t → PT A w m.2 t) : PT A w (.iface 73 v) ([123] ++ (cm (List.zipWith (fun m t => qt m.1 ++ ([58] ++ t)) ms ts) ++ [125]))
theorem PT.one {A : Nat → Prop} {w : World} {v : Value} {t : List Int} (h : PT A w v t) : v.oneCell' = true := by cases h <;> rfl
/-- What putting a value behind bytes answers. -/
def AVC (w0 : World) (v : Value) (t : List Int) : Prop := ∀ (W : World) (bv : Value) (xs : List Int), Below w0.heap.size w0 W → Ow w0.heap.size W bv xs → xs.length + t.length ≤ 140737488355000 →
  Calls Tryd.prog 34 #[bv, v] W fun e W' => ∃ v', e = .returned v' ∧ Ow w0.heap.size W' v' (xs ++ t) ∧ Kq w0.heap.size W W'
end Go.Proofs.YtefaohokmhdplaaDoor
