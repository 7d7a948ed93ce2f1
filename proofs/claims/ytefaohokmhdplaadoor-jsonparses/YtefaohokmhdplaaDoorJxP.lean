/- The law for JSON: a value is the tree of the same text. -/
import Derived.Test.YtefaohokmhdplaaDoorJxO
namespace Go.Proofs.YtefaohokmhdplaaDoor
open Go Go.RowKit
set_option linter.unusedSimpArgs false
set_option linter.unusedVariables false
set_option maxRecDepth 100000

/-- A value none of whose lists and objects is longer than a text. -/
inductive Sm : JV → Prop
  | null : Sm .null
  | bool (b : Bool) : Sm (.bool b)
  | num (t : ByteArray) : Sm (.num t)
  | txt (t : ByteArray) : Sm (.txt t)
  | lst (l : List JV) (h : l.length ≤ 8192) (hl : ∀ j ∈ l, Sm j) : Sm (.lst l)
  | obj (l : List (ByteArray × JV)) (h : l.length ≤ 8192) (hl : ∀ j ∈ l, Sm j.2) : Sm (.obj l)
theorem VJ.ifc {A : Nat → Prop} {w : World} {v : Value} {j : JV} (h : VJ A w v j) : ∃ t p, v = .iface t p := by cases h <;> exact ⟨_, _, rfl⟩
theorem is_any {A A' : Nat → Prop} {w : World} {v : Value} {jv : JV} (hv : VJ A w v jv) : ∀ {x : Tv}, TJ A' w x jv → Sm jv → ∀ W, Below w.heap.size w W → Calls Tryd.prog 12 #[v, x.val] W fun e w' => IsP W e w' := by
  induction hv with
  | null =>
    intro x hx _ W _
    cases hx with
    | null x hk => exact is_null hk
  | bool b =>
    intro x hx _ W _
    cases hx with
    | bool x hk => exact is_bool hk
  | num t =>
    intro x hx _ W _
    cases hx with
    | num x hk => exact is_num hk
  | txt t =>
    intro x hx _ W _
    cases hx with
    | txt x hk => exact is_txt hk
  | lst v vs l h hl hv ih =>
    intro x hx hs W hB
    cases hx with
    | lst x hk xs l h' hl' hv' =>
      cases hs with
      | lst l g1 g2 =>
        have e1 : RV (fun _ => True) W 1 v vs := h.keep (fun b hb hlt => ⟨trivial, hB.block b hlt⟩) hB.size
        have e2 : RV (fun _ => True) W 5 x.ps.v (tcs xs) := h'.keep (fun b hb hlt => ⟨trivial, hB.block b hlt⟩) hB.size
        refine is_lst hk e1 e2 (by omega) (by omega) (fun y hy => ?_) (fun i y z hy hz W' hb' => ?_)
        · obtain ⟨i, hi, rfl⟩ := List.getElem_of_mem hy
          exact (hv i _ (l[i]'(by omega)) (List.getElem?_eq_getElem hi) (List.getElem?_eq_getElem _)).ifc
        · have hi : i < l.length := by have := (List.getElem?_eq_some_iff.1 hy).1; omega
          exact ih i y l[i] hy (List.getElem?_eq_getElem hi) (hv' i z l[i] hz (List.getElem?_eq_getElem hi)) (g2 _ (List.getElem_mem hi)) W' (bl_tr hB hb')
  | obj v ms l h hl hkk hv ih =>
    intro x hx hs W hB
    cases hx with
    | obj x hk ks xs l hks h' hkl hl' hkt hv' =>
      cases hs with
      | obj l g1 g2 =>
        have e1 : RV (fun _ => True) W 2 v (mcs ms) := h.keep (fun b hb hlt => ⟨trivial, hB.block b hlt⟩) hB.size
        have e2 : RV (fun _ => True) W 5 x.ps.v (tcs xs) := h'.keep (fun b hb hlt => ⟨trivial, hB.block b hlt⟩) hB.size
        have e3 : RV (fun _ => True) W 1 x.ks.v (keyc ks) := hks.keep (fun b hb hlt => ⟨trivial, hB.block b hlt⟩) hB.size
        refine is_obj hk e1 e3 (by omega) (fun i m c hm hc => ?_) e2 (by omega) (by omega) (fun y hy => ?_) (fun i y z hy hz W' hb' => ?_)
        · have hi : i < l.length := by have := (List.getElem?_eq_some_iff.1 hm).1; omega
          exact (hkt i c l[i] hc (List.getElem?_eq_getElem hi)).trans (hkk i m l[i] hm (List.getElem?_eq_getElem hi)).symm
        · obtain ⟨i, hi, rfl⟩ := List.getElem_of_mem hy
          exact (hv i _ (l[i]'(by omega)) (List.getElem?_eq_getElem hi) (List.getElem?_eq_getElem _)).ifc
        · have hi : i < l.length := by have := (List.getElem?_eq_some_iff.1 hy).1; omega
          exact ih i y l[i] hy (List.getElem?_eq_getElem hi) (hv' i z l[i] hz (List.getElem?_eq_getElem hi)) (g2 _ (List.getElem_mem hi)) W' (bl_tr hB hb')
end Go.Proofs.YtefaohokmhdplaaDoor
