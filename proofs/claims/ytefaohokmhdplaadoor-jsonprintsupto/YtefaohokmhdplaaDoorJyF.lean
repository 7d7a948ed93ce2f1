/- Package json: Print; the law is awake. -/
import Derived.Test.YtefaohokmhdplaaDoorJyE
import Derived.Test.YtefaohokmhdplaaDoorJsY
namespace Go.Proofs.YtefaohokmhdplaaDoor
open Go Go.RowKit
set_option linter.unusedSimpArgs false
set_option linter.unusedVariables false
set_option maxRecDepth 100000

theorem PT.isI {A : Nat → Prop} {w : World} {v : Value} {t : List Int} (h : PT A w v t) : IsI v := by
  cases h
  case nil => exact .inr rfl
  all_goals exact .inl ⟨_, _, rfl⟩
section
set_option maxHeartbeats 8000000
variable {A : Nat → Prop} {w : World}
theorem av_null : AVC w (.iface 68 (.agg #[])) [110, 117, 108, 108] := by
  intro W bv xs hw ho hl
  have HO : Hid (Ow w.heap.size W bv xs) := ho
  have HB : Hid (w.heap.size ≤ W.heap.size) := hw.size
  have HL1 : Hid (xs.length + (⟨#[110, 117, 108, 108]⟩ : ByteArray).size ≤ 140737488355328) := by show _ ≤ _; simp [ByteArray.size] at hl ⊢; omega
  clear ho hw hl
  have kBool := ta_Null_Bool
  have kNumber := ta_Null_Number
  have kText := ta_Null_Text
  have kList := ta_Null_List
  have kObject := ta_Null_Object
  go_enter Tryd.func34, Tryd.ntmps34
  go_wp2_with (at_builtin; refine app_str rfl (.tmp 41) (.const (.string ⟨#[110, 117, 108, 108]⟩)) rfl HB.out bv xs rfl HO.out ⟨#[110, 117, 108, 108]⟩ rfl HL1.out ?_
               intro v1 w1 o1 o2 o3
               have HF : Hid (Ow w.heap.size w1 v1 (xs ++ [110, 117, 108, 108]) ∧ Kq w.heap.size W w1) := ⟨o1, Kq.grown (Kq.refl _ W) HB.out HO.out o2⟩
               clear o1 o2 o3)
  go_ret
  exact ⟨_, rfl, HF.out.1, HF.out.2⟩
theorem av_nil : AVC w .nilIface [110, 117, 108, 108] := by
  intro W bv xs hw ho hl
  have HO : Hid (Ow w.heap.size W bv xs) := ho
  have HB : Hid (w.heap.size ≤ W.heap.size) := hw.size
  have HL1 : Hid (xs.length + (⟨#[110, 117, 108, 108]⟩ : ByteArray).size ≤ 140737488355328) := by show _ ≤ _; simp [ByteArray.size] at hl ⊢; omega
  clear ho hw hl
  have kBool := ta_nil_Bool
  have kNumber := ta_nil_Number
  have kText := ta_nil_Text
  have kList := ta_nil_List
  have kObject := ta_nil_Object
  go_enter Tryd.func34, Tryd.ntmps34
  go_wp2_with (at_builtin; refine app_str rfl (.tmp 41) (.const (.string ⟨#[110, 117, 108, 108]⟩)) rfl HB.out bv xs rfl HO.out ⟨#[110, 117, 108, 108]⟩ rfl HL1.out ?_
               intro v1 w1 o1 o2 o3
               have HF : Hid (Ow w.heap.size w1 v1 (xs ++ [110, 117, 108, 108]) ∧ Kq w.heap.size W w1) := ⟨o1, Kq.grown (Kq.refl _ W) HB.out HO.out o2⟩
               clear o1 o2 o3)
  go_ret
  exact ⟨_, rfl, HF.out.1, HF.out.2⟩
theorem av_bool (b : Bool) : AVC w (.iface 70 (.bool b)) (bt b) := by
  intro W bv xs hw ho hl
  have HO : Hid (Ow w.heap.size W bv xs) := ho
  have HB : Hid (w.heap.size ≤ W.heap.size) := hw.size
  have HL1 : Hid (xs.length + 5 ≤ 140737488355328) := by show _ ≤ _; omega
  clear ho hw hl
  have kBool := ta_Bool_Bool
  go_enter Tryd.func34, Tryd.ntmps34
  go_wp2_with fail
  refine (abool_any (b := b) HO.out HB.out HL1.out).mono ?_
  rintro e w1 ⟨v1, rfl, h⟩
  have HF : Hid (Ow w.heap.size w1 v1 (xs ++ bt b) ∧ Kq w.heap.size W w1) := h
  clear h
  go_wp2
  go_ret
  exact ⟨_, rfl, HF.out.1, HF.out.2⟩
theorem av_num (t : ByteArray) : AVC w (.iface 71 (.string t)) (nb t) := by
  intro W bv xs hw ho hl
  rw [nb_length] at hl
  have HO : Hid (Ow w.heap.size W bv xs) := ho
  have HB : Hid (w.heap.size ≤ W.heap.size) := hw.size
  have HL1 : Hid (xs.length + t.size ≤ 140737488355328) := by show _ ≤ _; omega
  clear ho hw hl
  have kBool := ta_Number_Bool
  have kNumber := ta_Number_Number
  go_enter Tryd.func34, Tryd.ntmps34
  go_wp2_with (at_builtin; refine app_num rfl (.tmp 20) (.tmp 21) rfl HB.out bv xs rfl HO.out t rfl HL1.out ?_
               intro v1 w1 o1 o2 o3
               have HF : Hid (Ow w.heap.size w1 v1 (xs ++ nb t) ∧ Kq w.heap.size W w1) := ⟨o1, Kq.grown (Kq.refl _ W) HB.out HO.out o2⟩
               clear o1 o2 o3)
  go_ret
  exact ⟨_, rfl, HF.out.1, HF.out.2⟩
theorem av_txt (t : ByteArray) : AVC w (.iface 45 (.string t)) (qt t) := by
  intro W bv xs hw ho hl
  have HO : Hid (Ow w.heap.size W bv xs) := ho
  have HB : Hid (w.heap.size ≤ W.heap.size) := hw.size
  have HL1 : Hid (xs.length + (qt t).length ≤ 140737488355000) := hl
  clear ho hw hl
  have kBool := ta_Text_Bool
  have kNumber := ta_Text_Number
  have kText := ta_Text_Text
  go_enter Tryd.func34, Tryd.ntmps34
  go_wp2_with fail
  refine (atext_any (s := t) HO.out HB.out HL1.out).mono ?_
  rintro e w1 ⟨v1, rfl, h⟩
  have HF : Hid (Ow w.heap.size w1 v1 (xs ++ qt t) ∧ Kq w.heap.size W w1) := h
  clear h
  go_wp2
  go_ret
  exact ⟨_, rfl, HF.out.1, HF.out.2⟩
theorem av_lst {sv : Value} {E : List Int} (h : ∀ (W : World) (v : Value) (xs : List Int), Below w.heap.size w W → Ow w.heap.size W v xs → xs.length + E.length ≤ 140737488355000 → Calls Tryd.prog 56 #[v, sv] W fun e W' => ∃ v', e = .returned v' ∧ Ow w.heap.size W' v' (xs ++ E) ∧ Kq w.heap.size W W') : AVC w (.iface 49 sv) E := by
  intro W bv xs hw ho hl
  have HC := h W bv xs hw ho hl
  clear h
  have HO : Hid (Ow w.heap.size W bv xs) := ho
  have HB : Hid (w.heap.size ≤ W.heap.size) := hw.size
  clear ho hw hl
  have kBool := ta_List_Bool
  have kNumber := ta_List_Number
  have kText := ta_List_Text
  have kList := ta_List_List
  go_enter Tryd.func34, Tryd.ntmps34
  go_wp2_with fail
  refine (HC).mono ?_
  rintro e w1 ⟨v1, rfl, h⟩
  have HF : Hid (Ow w.heap.size w1 v1 (xs ++ E) ∧ Kq w.heap.size W w1) := h
  clear h
  go_wp2
  go_ret
  exact ⟨_, rfl, HF.out.1, HF.out.2⟩
theorem av_obj {sv : Value} {E : List Int} (h : ∀ (W : World) (v : Value) (xs : List Int), Below w.heap.size w W → Ow w.heap.size W v xs → xs.length + E.length ≤ 140737488355000 → Calls Tryd.prog 57 #[v, sv] W fun e W' => ∃ v', e = .returned v' ∧ Ow w.heap.size W' v' (xs ++ E) ∧ Kq w.heap.size W W') : AVC w (.iface 73 sv) E := by
  intro W bv xs hw ho hl
  have HC := h W bv xs hw ho hl
  clear h
  have HO : Hid (Ow w.heap.size W bv xs) := ho
  have HB : Hid (w.heap.size ≤ W.heap.size) := hw.size
  clear ho hw hl
  have kBool := ta_Object_Bool
  have kNumber := ta_Object_Number
  have kText := ta_Object_Text
  have kList := ta_Object_List
  have kObject := ta_Object_Object
  go_enter Tryd.func34, Tryd.ntmps34
  go_wp2_with fail
  refine (HC).mono ?_
  rintro e w1 ⟨v1, rfl, h⟩
  have HF : Hid (Ow w.heap.size w1 v1 (xs ++ E) ∧ Kq w.heap.size W w1) := h
  clear h
  go_wp2
  go_ret
  exact ⟨_, rfl, HF.out.1, HF.out.2⟩
theorem PT.ones {B : Nat → Prop} {vs : List Value} {ts : List (List Int)} (hl : vs.length = ts.length) (hv : ∀ (i : Nat) (x : Value) (t : List Int), vs[i]? = some x → ts[i]? = some t → PT B w x t) : ∀ x ∈ vs, IsI x := by
  intro x hx
  obtain ⟨i, hi, rfl⟩ := List.getElem_of_mem hx
  exact (hv i _ (ts[i]'(by omega)) (List.getElem?_eq_getElem hi) (List.getElem?_eq_getElem _)).isI
theorem aval_any {v : Value} {t : List Int} (h : PT A w v t) : AVC w v t := by
  induction h with
  | null => exact av_null
  | nil => exact av_nil
  | bool b => exact av_bool b
  | num t => exact av_num t
  | txt t => exact av_txt t
  | lst v vs ts hr hl hv ih => exact av_lst (fun W v xs hw ho hb => alist_any hr hl (fun x hx => (PT.ones hl hv x hx).one) ih hw ho hb)
  | obj v ms ts hr hl hv ih =>
    refine av_obj (fun W v xs hw ho hb => aobj_any hr hl (fun m hm => ?_) ih hw ho hb)
    obtain ⟨i, hi, rfl⟩ := List.getElem_of_mem hm
    exact (hv i _ (ts[i]'(by omega)) (List.getElem?_eq_getElem hi) (List.getElem?_eq_getElem _)).isI
theorem print_any {v : Value} {t : List Int} (h : PT A w v t) (hl : t.length ≤ 140737488355000) : Calls Tryd.prog 14 #[v] w fun e w' => e = .returned (.string (sb t)) ∧ Below w.heap.size w w' := by
  have HC : Hid (Calls Tryd.prog 34 #[.slice none 0 0, v] w fun e W' => ∃ v', e = .returned v' ∧ Ow w.heap.size W' v' ([] ++ t) ∧ Kq w.heap.size w W') := aval_any h w (.slice none 0 0) [] (Below.refl _ _) (Ow.nil _ _) (by simpa using hl)
  clear h hl
  go_enter Tryd.func14, Tryd.ntmps14
  go_wp2_with fail
  refine HC.out.mono ?_
  rintro e w1 ⟨v1, rfl, o1, o2⟩
  have hcv := o1.sl.str
  rw [List.nil_append] at hcv
  have HF : Hid (Below w.heap.size w w1) := o2.1
  clear o1 o2 HC
  go_wp2
  go_ret
  exact ⟨rfl, HF.out⟩
end
def AWK : ByteArray := ⟨#[91, 49, 44, 34, 97, 34, 93]⟩
theorem whole_awk : whole AWK = .val (.lst [.num ⟨#[49]⟩, .txt ⟨#[97]⟩]) := by kernel_rfl
theorem text_awk : sb ([91] ++ (cm [nb ⟨#[49]⟩, qt ⟨#[97]⟩] ++ [93])) = AWK := by kernel_rfl
set_option maxHeartbeats 8000000 in
theorem awake_any {w : World} {ev : Value} (hv : EV w ev) : Calls Tryd.prog 9 #[] w fun e w' => e = .returned (.bool true) ∧ Below w.heap.size w w' := by
  have HP : Hid (Calls Tryd.prog 11 #[.string ⟨#[91, 49, 44, 34, 97, 34, 93]⟩] w fun e w' => RP w (whole AWK) e w') := parse_any (s := AWK) (by decide) hv
  rw [whole_awk] at HP
  clear hv
  go_enter Tryd.func9, Tryd.ntmps9
  go_wp2_with fail
  refine HP.out.mono ?_
  rintro e w1 ⟨v, rfl, hj, hb⟩
  cases hj with
  | lst v vs l hr hl hv =>
    have HB : Hid (Below w.heap.size w w1) := hb
    have hpt : PT (fun b => w.heap.size ≤ b) w1 (.iface 49 v) ([91] ++ (cm [nb ⟨#[49]⟩, qt ⟨#[97]⟩] ++ [93])) := by
      refine .lst v vs _ hr hl (fun i x t hx ht => ?_)
      match i, ht with
      | 0, ht =>
        simp at ht; subst ht
        have := hv 0 x (.num ⟨#[49]⟩) hx rfl
        cases this; exact .num _
      | 1, ht =>
        simp at ht; subst ht
        have := hv 1 x (.txt ⟨#[97]⟩) hx rfl
        cases this; exact .txt _
    have h7 : ([91] ++ (cm [nb ⟨#[49]⟩, qt ⟨#[97]⟩] ++ [93]) : List Int).length = 7 := by kernel_rfl
    have HPR := print_any hpt (by rw [h7]; omega)
    clear h7
    rw [text_awk] at HPR
    have HPX : Hid (Calls Tryd.prog 14 #[.iface 49 v] w1 fun e w' => e = .returned (.string ⟨#[91, 49, 44, 34, 97, 34, 93]⟩) ∧ Below w1.heap.size w1 w') := HPR
    obtain ⟨ad, n, cap, rfl, hcl, -, -⟩ := hr
    obtain rfl : n = 2 := by simp at hl; omega
    have kL := ta_List_List
    clear hv hb hpt HPR hcl HP
    go_wp2_with fail
    refine HPX.out.mono ?_
    rintro e w2 ⟨rfl, hb2⟩
    have HF : Hid (Below w.heap.size w w2) := bl_tr HB.out hb2
    clear hb2
    go_wp2
    go_ret
    exact ⟨rfl, HF.out⟩
end Go.Proofs.YtefaohokmhdplaaDoor
