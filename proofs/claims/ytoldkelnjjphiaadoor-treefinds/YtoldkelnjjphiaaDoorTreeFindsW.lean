/- The walk of TreeFinds. -/
import Derived.Test.YtoldkelnjjphiaaDoorTrfC
import Derived.Test.YtoldkelnjjphiaaDoorTrgA
namespace Go.Proofs.YtoldkelnjjphiaaDoor
open Go Go.RowKit
set_option linter.unusedSimpArgs false
set_option linter.unusedVariables false
set_option maxRecDepth 100000

theorem fnd_l32 (r : List Int) (l : List Nd) (hk : ∀ x ∈ l, x.Ok) (y : List Int) : L32 (fnd r l y).1 := by
  unfold fnd
  split
  · split
    · split
      · exact z32_l32
      · next x hx =>
        split
        · exact (hk x (List.mem_of_find?_eq_some hx)).h
        · exact z32_l32
    · exact z32_l32
  · exact z32_l32
theorem eqg_bool (op : BinOp) (x y : Operand) (a b : Bool) (w : World) : (eqGuard op 4 x y (.bool a) (.bool b)).run Tryd.prog w = .ok () w := by
  have h : Tryd.prog.eqGuardType Tryd.prog.depth 4 = false := by kernel_rfl
  unfold eqGuard
  cases op <;> first | (simp [h, Result.andThen]; done) | kernel_rfl
theorem neq_bool (g : Bool) (w : World) : (binOp .neq 4 (.bool g) (.bool g)).run Tryd.prog w = .ok (.bool false) w := by cases g <;> kernel_rfl
theorem eql_bool (g : Bool) (w : World) : (binOp .eql 4 (.bool g) (.bool g)).run Tryd.prog w = .ok (.bool true) w := by cases g <;> kernel_rfl
def phN (l : List Nd) : Nat → Value → World → Prop
  | 2, v, W => NS W v l
  | _, _, _ => True
theorem phN_mono (l : List Nd) : ∀ i v W W', phN l i v W → Below W.heap.size W W' → phN l i v W' := by
  intro i v W W' h hb
  by_cases q : i = 2
  · subst q; exact NS.below h hb
  · unfold phN
    split
    · exact absurd rfl q
    · trivial
def tf3f (r y F : List Int) (v : Value) (g : Bool) (e : Int) : Nat → Option Value
  | 0 => some (.agg (bv r).toArray)
  | 1 => some (v)
  | 3 => some (.agg (bv y).toArray)
  | 4 => some (.tuple #[.agg (bv F).toArray, .bool g, .int .i64 e])
  | 5 => some (.tuple #[.agg (bv F).toArray, .bool g, .int .i64 e])
  | 6 => some (.agg (bv F).toArray)
  | 7 => some (.bool g)
  | 8 => some (.int .i64 e)
  | 11 => some (.bool g)
  | 12 => some (.int .i64 e)
  | _ => none
def tf8f (r y F : List Int) (v : Value) (g : Bool) (e : Int) : Nat → Option Value
  | 0 => some (.agg (bv r).toArray)
  | 1 => some (v)
  | 3 => some (.agg (bv y).toArray)
  | 4 => some (.tuple #[.agg (bv F).toArray, .bool g, .int .i64 e])
  | 5 => some (.tuple #[.agg (bv F).toArray, .bool g, .int .i64 e])
  | 6 => some (.agg (bv F).toArray)
  | 7 => some (.bool g)
  | 8 => some (.int .i64 e)
  | 11 => some (.bool g)
  | 12 => some (.int .i64 e)
  | _ => none
set_option maxHeartbeats 8000000 in
theorem finds_any (r : List Int) (hr : L32 r) (l : List Nd) (hk : ∀ x ∈ l, x.Ok) (hlen : l.length ≤ 3000000000000) (y : List Int) (hy : L32 y) (v : Value) (w : World) (hv : NS w v l) (hT : Tb w) :
    Calls Tryd.prog 6 #[.agg (bv r).toArray, v, .agg (bv y).toArray] w fun e w' => e = .returned (.bool true) ∧ Below w.heap.size w w' := by
  have hl2 : l.length ≤ 140737488355328 := by omega
  have hz := zero_32
  rw [show List.replicate 32 (0 : Int) = z32 from rfl] at hz
  have sr : (bv r).toArray.size = 32 := by rw [List.size_toArray, bv_length, hr.len]
  have sy : (bv y).toArray.size = 32 := by rw [List.size_toArray, bv_length, hy.len]
  obtain ⟨Z, hZ⟩ : ∃ Z, (bv z32).toArray = Z := ⟨_, rfl⟩
  have HZS : Hid (Z.size = 32) := by show Z.size = 32; rw [← hZ]; simp [bv, z32]
  have HZE : Hid ((bv z32).toArray = Z) := hZ
  rw [hZ] at hz
  obtain ⟨t1, t2, t4, t5⟩ := two_rows w (bv r) (bv y) 23 23
  obtain ⟨A, hA⟩ : ∃ A, (bv r).toArray = A := ⟨_, rfl⟩
  obtain ⟨B, hB⟩ : ∃ B, (bv y).toArray = B := ⟨_, rfl⟩
  rw [hA, hB] at t1 t2 t4 t5
  rw [hA] at sr ⊢
  rw [hB] at sy ⊢
  obtain ⟨U, hU⟩ : ∃ U, (w.alloc (.cells A 23)).alloc (.cells B 23) = U := ⟨_, rfl⟩
  rw [hU] at t1 t2 t4 t5
  have BU : Hid (Below w.heap.size w U) := t5
  have NU : Hid (NS U v l) := hv.below t5
  have TU : Hid (Tb U) := hT.below t5
  obtain ⟨D, hD⟩ : ∃ D, w.heap.size = D := ⟨_, rfl⟩
  rw [hD] at t1 t2 t4
  have RR : Hid (U.rangeAt D 0 (bv r)) := t1
  have RY : Hid (U.rangeAt (D + 1) 0 (bv y)) := t2
  have SU : Hid (U.heap.size = D + 2) := t4
  have HR : Hid (L32 r) := hr
  have HY : Hid (L32 y) := hy
  obtain ⟨Y, hY⟩ : ∃ Y, (if apt l = true then rt l else z32) = Y := ⟨_, rfl⟩
  obtain ⟨e2, he2⟩ : ∃ e2 : Int, (if apt l = true then 0 else 1) = e2 := ⟨_, rfl⟩
  have HYL : Hid (L32 Y) := by rw [← hY]; exact rz_l32 l
  obtain ⟨F, g, e1, hF⟩ : ∃ F g e1, fnd r l y = (F, g, e1) := ⟨_, _, _, rfl⟩
  obtain ⟨G, k, e4, hG⟩ : ∃ F g e1, fnd Y l y = (F, g, e1) := ⟨_, _, _, rfl⟩
  have HFL : Hid (L32 F) := by have := fnd_l32 r l hk y; rw [hF] at this; exact this
  have HGL : Hid (L32 G) := by have := fnd_l32 Y l hk y; rw [hG] at this; exact this
  have HE : Hid (e2 = 0 ∨ (e2 = 1 ∧ e4 = 1)) := by
    show e2 = 0 ∨ _
    by_cases q : apt l = true
    · rw [if_pos q] at he2; exact .inl he2.symm
    · rw [if_neg q] at he2
      refine .inr ⟨he2.symm, ?_⟩
      have : fnd Y l y = (z32, false, 1) := by unfold fnd; rw [if_neg q]
      rw [hG] at this; cases this; rfl
  have HCN : Hid (∀ W : World, Below U.heap.size U W → Calls Tryd.prog 15 #[v] W fun e w' => ∃ v', e = .returned v' ∧ NS w' v' l ∧ Below W.heap.size W w') := fun W q => copyNodes_any l hk hlen v W (NU.out.below q)
  have HRT : Hid (∀ (v' : Value) (W : World), NS W v' l → Below U.heap.size U W → Calls Tryd.prog 17 #[v'] W fun e w' => e = .returned (.tuple #[.agg (bv Y).toArray, .int .i64 e2]) ∧ Below W.heap.size W w') := fun v' W q1 q2 => by
    have := Root_any l hk hl2 v' W q1 (TU.out.below q2); rw [hY, he2] at this; exact this
  have HFF : Hid (∀ (v' : Value) (W : World), NS W v' l → Below U.heap.size U W → Calls Tryd.prog 29 #[.agg (bv r).toArray, v', .agg (bv y).toArray] W fun e w' => e = .returned (.tuple #[.agg (bv F).toArray, .bool g, .int .i64 e1]) ∧ Below W.heap.size W w') := fun v' W q1 q2 => by
    have := Found_any r hr l hk hl2 y hy v' W q1 (TU.out.below q2); rw [hF] at this; exact this
  have HFG : Hid (∀ (v' : Value) (W : World), NS W v' l → Below U.heap.size U W → Calls Tryd.prog 29 #[.agg (bv Y).toArray, v', .agg (bv y).toArray] W fun e w' => e = .returned (.tuple #[.agg (bv G).toArray, .bool k, .int .i64 e4]) ∧ Below W.heap.size W w') := fun v' W q1 q2 => by
    have := Found_any Y HYL.out l hk hl2 y hy v' W q1 (TU.out.below q2); rw [hG] at this; exact this
  have HRF : Hid (∀ W : World, Below U.heap.size U W → Calls Tryd.prog 30 #[.agg (bv r).toArray, v, .agg (bv y).toArray] W fun e w' => e = .returned (.tuple #[.agg (bv F).toArray, .bool g, .int .i64 e1]) ∧ Below W.heap.size W w') := fun W q => by
    have := rFound_any r hr l hk hl2 y hy v W (NU.out.below q); rw [hF] at this; exact this
  have HRG : Hid (∀ W : World, Below U.heap.size U W → Calls Tryd.prog 30 #[.agg (bv Y).toArray, v, .agg (bv y).toArray] W fun e w' => e = .returned (.tuple #[.agg (bv G).toArray, .bool k, .int .i64 e4]) ∧ Below W.heap.size W w') := fun W q => by
    have := rFound_any Y HYL.out l hk hl2 y hy v W (NU.out.below q); rw [hG] at this; exact this
  have HAW : Hid (Calls Tryd.prog 9 #[] U fun e w' => e = .returned (.bool true) ∧ Below U.heap.size U w') := awake_any U TU.out
  clear t1 t2 t4 t5 hA hB hZ hr hy hT hk hY he2 hF hG hv hlen
  go_enter Tryd.func6, Tryd.ntmps6
  go_upto_region 1 with (fail)
  try rw [hU]
  try rw [hD]
  clear hU hD
  go_upto_region 3 with (go_at_call 9; refine HAW.out.mono ?_; rintro e a1 ⟨rfl, g1⟩; have Ca1 : Hid (Below U.heap.size U a1) := g1; clear g1)
  refine RG.wp_rgn' (GI a1 (tf3f r y F v g e1) (phN l) [(9, 10, bv F, bv z32)]) (by kernel_rfl) (by kernel_rfl) GI.start ?_ ?_
  · refine ⟨?_, ?_, ?_, ?_, ?_, ?_, ?_, ?_, ?_, ?_, ?_, ?_, ?_, trivial⟩
    · intro a W d V hI hd hpx hbk hf hp
      have hO' : Below a1.heap.size a1 W := hI.be
      have q3 : a.eval (.tmp 3) = .pointer (some ⟨D, 0, none⟩) := hf 3 rfl
      exact RU.ob_op rfl (RU.wanted_none rfl) (wp_load_mid 23 (.tmp 3) rfl (D) (0) q3 (bv r) _ (range_below RR.out (Below.tr' Ca1.out hO') (by have := SU.out; omega)) Tryd.underlying23 rfl (size_l32 HR.out) ⟨_, rfl, hI.step (phN_mono l) (Below.refl _ _) 0 _ (by simp) (fun u hu => by first | (cases hu; rfl) | cases hu) (trivial)⟩)
    · intro a W d V hI hd hpx hbk hf hp
      have hO' : Below a1.heap.size a1 W := hI.be
      refine RU.ob_val (v := v) rfl (RU.wanted_none rfl) (fun ev he hc => ?_) ⟨_, rfl, hI.step (phN_mono l) (Below.refl _ _) 1 _ (by simp) (fun u hu => by first | (cases hu; rfl) | cases hu) (trivial)⟩
      have q1 : ev (.tmp 1) = v := (he (.tmp 1)).trans (hf 1 rfl)
      simp only [List.getElem_toArray, List.getElem_cons_succ, List.getElem_cons_zero, execOp, Option.map_some, Option.map_none]; rw [q1]
      first | (go_simp; done) | (go_simp; rfl) | rfl
    · intro a W d V hI hd hpx hbk hf hp
      have hO' : Below a1.heap.size a1 W := hI.be
      have e25 : a.eval (.tmp 25) = v := (hp 1 25 rfl).trans (hI.kn 1 _ rfl (hpx 1 rfl))
      have hno : ∀ x ∈ ([(9, 10, bv F, bv z32)] : List Al), d x.2.1 = false := by simp only [List.mem_cons, List.not_mem_nil, or_false, forall_eq_or_imp, forall_eq]; exact hbk 10 rfl
      refine RU.ob_call (g := 15) (args := #[v]) rfl (RU.wanted_none rfl) (fun ev he hc => ?_) ((HCN.out W (Below.tr' Ca1.out hO')).mono ?_)
      · have h25 := (he (.tmp 25)).trans e25
        have hfn := he (.func 15)
        simp only [List.getElem_toArray, List.getElem_cons_succ, List.getElem_cons_zero, execOp, Option.map_some, Option.map_none]
        simp only [resolve, invoke, Sem.run_bind, Sem.run_pure, Result.andThen_ok, List.map_toArray, List.map_cons, List.map_nil, h25, hfn, Act.eval, hc]
        rfl
      · rintro e' W2 ⟨v', rfl, hn2, hb2⟩
        exact ⟨_, rfl, ⟨_, rfl, hI.step (phN_mono l) hb2 2 _ (by simp) (fun u hu => by first | (cases hu; rfl) | cases hu) (hn2)⟩⟩
    · intro a W d V hI hd hpx hbk hf hp
      have hO' : Below a1.heap.size a1 W := hI.be
      have q5 : a.eval (.tmp 5) = .pointer (some ⟨D + 1, 0, none⟩) := hf 5 rfl
      exact RU.ob_op rfl (RU.wanted_none rfl) (wp_load_mid 23 (.tmp 5) rfl (D + 1) (0) q5 (bv y) _ (range_below RY.out (Below.tr' Ca1.out hO') (by have := SU.out; omega)) Tryd.underlying23 rfl (size_l32 HY.out) ⟨_, rfl, hI.step (phN_mono l) (Below.refl _ _) 3 _ (by simp) (fun u hu => by first | (cases hu; rfl) | cases hu) (trivial)⟩)
    · intro a W d V hI hd hpx hbk hf hp
      have hO' : Below a1.heap.size a1 W := hI.be
      have e24 : a.eval (.tmp 24) = .agg (bv r).toArray := (hp 0 24 rfl).trans (hI.kn 0 _ rfl (hpx 0 rfl))
      have e26 : a.eval (.tmp 26) = V 2 := hp 2 26 rfl
      have e27 : a.eval (.tmp 27) = .agg (bv y).toArray := (hp 3 27 rfl).trans (hI.kn 3 _ rfl (hpx 3 rfl))
      have hno : ∀ x ∈ ([(9, 10, bv F, bv z32)] : List Al), d x.2.1 = false := by simp only [List.mem_cons, List.not_mem_nil, or_false, forall_eq_or_imp, forall_eq]; exact hbk 10 rfl
      refine RU.ob_call (g := 29) (args := #[.agg (bv r).toArray, V 2, .agg (bv y).toArray]) rfl (RU.wanted_none rfl) (fun ev he hc => ?_) ((HFF.out (V 2) W (hI.pr 2 (hpx 2 rfl) hno) (Below.tr' Ca1.out hO')).mono ?_)
      · have h24 := (he (.tmp 24)).trans e24
        have h26 := (he (.tmp 26)).trans e26
        have h27 := (he (.tmp 27)).trans e27
        have hfn := he (.func 29)
        simp only [List.getElem_toArray, List.getElem_cons_succ, List.getElem_cons_zero, execOp, Option.map_some, Option.map_none]
        simp only [resolve, invoke, Sem.run_bind, Sem.run_pure, Result.andThen_ok, List.map_toArray, List.map_cons, List.map_nil, h24, h26, h27, hfn, Act.eval, hc]
        rfl
      · rintro e' W2 ⟨rfl, hb2⟩
        exact ⟨_, rfl, ⟨_, rfl, hI.step (phN_mono l) hb2 4 _ (by simp) (fun u hu => by first | (cases hu; rfl) | cases hu) (trivial)⟩⟩
    · intro a W d V hI hd hpx hbk hf hp
      have hO' : Below a1.heap.size a1 W := hI.be
      refine RU.ob_val (v := .tuple #[.agg (bv F).toArray, .bool g, .int .i64 e1]) rfl (RU.wanted_none rfl) (fun ev he hc => ?_) ⟨_, rfl, hI.step (phN_mono l) (Below.refl _ _) 5 _ (by simp) (fun u hu => by first | (cases hu; rfl) | cases hu) (trivial)⟩
      have q28 : ev (.tmp 28) = .tuple #[.agg (bv F).toArray, .bool g, .int .i64 e1] := (he (.tmp 28)).trans ((hp 4 28 rfl).trans (hI.kn 4 _ rfl (hpx 4 rfl)))
      simp only [List.getElem_toArray, List.getElem_cons_succ, List.getElem_cons_zero, execOp, Option.map_some, Option.map_none]; rw [q28]
      first | (go_simp; done) | (go_simp; rfl) | rfl
    · intro a W d V hI hd hpx hbk hf hp
      have hO' : Below a1.heap.size a1 W := hI.be
      refine RU.ob_val (v := .agg (bv F).toArray) rfl (RU.wanted_none rfl) (fun ev he hc => ?_) ⟨_, rfl, hI.step (phN_mono l) (Below.refl _ _) 6 _ (by simp) (fun u hu => by first | (cases hu; rfl) | cases hu) (trivial)⟩
      have q23 : ev (.tmp 23) = .tuple #[.agg (bv F).toArray, .bool g, .int .i64 e1] := (he (.tmp 23)).trans ((hp 5 23 rfl).trans (hI.kn 5 _ rfl (hpx 5 rfl)))
      simp only [List.getElem_toArray, List.getElem_cons_succ, List.getElem_cons_zero, execOp, Option.map_some, Option.map_none]; rw [q23]
      first | (go_simp; done) | (go_simp; rfl) | rfl
    · intro a W d V hI hd hpx hbk hf hp
      have hO' : Below a1.heap.size a1 W := hI.be
      refine RU.ob_val (v := .bool g) rfl (RU.wanted_none rfl) (fun ev he hc => ?_) ⟨_, rfl, hI.step (phN_mono l) (Below.refl _ _) 7 _ (by simp) (fun u hu => by first | (cases hu; rfl) | cases hu) (trivial)⟩
      have q23 : ev (.tmp 23) = .tuple #[.agg (bv F).toArray, .bool g, .int .i64 e1] := (he (.tmp 23)).trans ((hp 5 23 rfl).trans (hI.kn 5 _ rfl (hpx 5 rfl)))
      simp only [List.getElem_toArray, List.getElem_cons_succ, List.getElem_cons_zero, execOp, Option.map_some, Option.map_none]; rw [q23]
      first | (go_simp; done) | (go_simp; rfl) | rfl
    · intro a W d V hI hd hpx hbk hf hp
      have hO' : Below a1.heap.size a1 W := hI.be
      refine RU.ob_val (v := .int .i64 e1) rfl (RU.wanted_none rfl) (fun ev he hc => ?_) ⟨_, rfl, hI.step (phN_mono l) (Below.refl _ _) 8 _ (by simp) (fun u hu => by first | (cases hu; rfl) | cases hu) (trivial)⟩
      have q23 : ev (.tmp 23) = .tuple #[.agg (bv F).toArray, .bool g, .int .i64 e1] := (he (.tmp 23)).trans ((hp 5 23 rfl).trans (hI.kn 5 _ rfl (hpx 5 rfl)))
      simp only [List.getElem_toArray, List.getElem_cons_succ, List.getElem_cons_zero, execOp, Option.map_some, Option.map_none]; rw [q23]
      first | (go_simp; done) | (go_simp; rfl) | rfl
    · intro a W d V hI hd hpx hbk hf hp
      have hO' : Below a1.heap.size a1 W := hI.be
      refine RU.ob_run (v := .pointer (some ⟨W.heap.size, 0, none⟩)) (w' := W.alloc (.cells (bv z32).toArray 23)) rfl (RU.wanted_none rfl) (fun ev he hc => ?_) ⟨_, rfl, hI.alloc (phN_mono l) (9, 10, bv F, bv z32) (by simp) 23 (hbk 10 rfl) (by simp) (by simp) rfl (fun _ _ => trivial)⟩
      simp only [List.getElem_toArray, List.getElem_cons_succ, List.getElem_cons_zero, execOp]
      first | (go_simp; done) | (go_simp; rfl) | (go_simp; rw [HZE.out])
    · intro a W d V hI hd hpx hbk hf hp
      have hO' : Below a1.heap.size a1 W := hI.be
      have d9 : d 9 = true := hpx 9 rfl
      obtain ⟨b, hV, -, -, hth, -⟩ := hI.pt (9, 10, bv F, bv z32) (by simp) d9
      have qp : a.eval (.tmp 7) = .pointer (some ⟨b, 0, none⟩) := (hp 9 7 rfl).trans hV
      have qv : a.eval (.tmp 29) = .agg (bv F).toArray := (hp 6 29 rfl).trans (hI.kn 6 _ rfl (hpx 6 rfl))
      exact RU.ob_op rfl (RU.wanted_none rfl) (wp_store_mid 23 (.tmp 7) (.tmp 29) rfl b 0 (bv F).toArray qp qv (by rw [List.size_toArray, (show (bv F).length = (bv z32).length by rw [bv_length, bv_length, HFL.out.len, z32_l32.len])]; exact hth) (by rw [List.size_toArray]; exact size_l32 HFL.out) (bv_one' _) ⟨_, rfl, by simp only [List.toList_toArray]; exact hI.store (9, 10, bv F, bv z32) (by simp) d9 hV _ (by simp) (by simp) rfl (show (bv F).length = (bv z32).length by rw [bv_length, bv_length, HFL.out.len, z32_l32.len]) (by simp)⟩)
    · intro a W d V hI hd hpx hbk hf hp
      have hO' : Below a1.heap.size a1 W := hI.be
      refine RU.ob_val (v := .bool g) rfl (RU.wanted_none rfl) (fun ev he hc => ?_) ⟨_, rfl, hI.step (phN_mono l) (Below.refl _ _) 11 _ (by simp) (fun u hu => by first | (cases hu; rfl) | cases hu) (trivial)⟩
      have q30 : ev (.tmp 30) = .bool g := (he (.tmp 30)).trans ((hp 7 30 rfl).trans (hI.kn 7 _ rfl (hpx 7 rfl)))
      simp only [List.getElem_toArray, List.getElem_cons_succ, List.getElem_cons_zero, execOp, Option.map_some, Option.map_none]; rw [q30]
      first | (go_simp; done) | (go_simp; rfl) | rfl
    · intro a W d V hI hd hpx hbk hf hp
      have hO' : Below a1.heap.size a1 W := hI.be
      refine RU.ob_val (v := .int .i64 e1) rfl (RU.wanted_none rfl) (fun ev he hc => ?_) ⟨_, rfl, hI.step (phN_mono l) (Below.refl _ _) 12 _ (by simp) (fun u hu => by first | (cases hu; rfl) | cases hu) (trivial)⟩
      have q31 : ev (.tmp 31) = .int .i64 e1 := (he (.tmp 31)).trans ((hp 8 31 rfl).trans (hI.kn 8 _ rfl (hpx 8 rfl)))
      simp only [List.getElem_toArray, List.getElem_cons_succ, List.getElem_cons_zero, execOp, Option.map_some, Option.map_none]; rw [q31]
      first | (go_simp; done) | (go_simp; rfl) | rfl
  intro a2 da2 Va2 hal hI
  have Ba2 : Hid (Below a1.heap.size a1 a2) := hI.be
  have hs0 : Va2 0 = .agg (bv r).toArray := hI.kn 0 _ rfl (hal 0 (by decide))
  have hs1 : Va2 1 = v := hI.kn 1 _ rfl (hal 1 (by decide))
  obtain ⟨u2, hs2⟩ : ∃ u, Va2 2 = u := ⟨_, rfl⟩
  have hs3 : Va2 3 = .agg (bv y).toArray := hI.kn 3 _ rfl (hal 3 (by decide))
  have hs4 : Va2 4 = .tuple #[.agg (bv F).toArray, .bool g, .int .i64 e1] := hI.kn 4 _ rfl (hal 4 (by decide))
  have hs5 : Va2 5 = .tuple #[.agg (bv F).toArray, .bool g, .int .i64 e1] := hI.kn 5 _ rfl (hal 5 (by decide))
  have hs6 : Va2 6 = .agg (bv F).toArray := hI.kn 6 _ rfl (hal 6 (by decide))
  have hs7 : Va2 7 = .bool g := hI.kn 7 _ rfl (hal 7 (by decide))
  have hs8 : Va2 8 = .int .i64 e1 := hI.kn 8 _ rfl (hal 8 (by decide))
  obtain ⟨b9, hs9, hb9, hl9, -, hr9⟩ := hI.pt (9, 10, bv F, bv z32) (by simp) (hal 9 (by decide))
  have hs9 : Va2 9 = .pointer (some ⟨b9, 0, none⟩) := hs9
  have R9a2 : Hid (a2.rangeAt b9 0 (bv F)) := by have h9 : da2 10 = true := hal 10 (by decide); simp only [h9, if_true] at hr9; exact hr9
  have L9a2 : Hid (b9 < a2.heap.size) := hl9
  have G9a2 : Hid (a1.heap.size ≤ b9) := hb9
  have hs11 : Va2 11 = .bool g := hI.kn 11 _ rfl (hal 11 (by decide))
  have hs12 : Va2 12 = .int .i64 e1 := hI.kn 12 _ rfl (hal 12 (by decide))
  simp only [RU.lay, Act.put, hs0, hs1, hs2, hs3, hs4, hs5, hs6, hs7, hs8, hs9, hs11, hs12]
  simp only [List.setIfInBounds_toArray, List.set_cons_succ, List.set_cons_zero]
  clear hI hal hs0 hs1 hs2 hs3 hs4 hs5 hs6 hs7 hs8 hs9 hs11 hs12 hb9 hl9 hr9
  have Ca2 : Hid (Below U.heap.size U a2) := Below.tr' Ca1.out Ba2.out
  go_upto_region 5 with (first
    | (refine ld 23 (.tmp 3) rfl rfl D 0 rfl (bv r) _ (range_below RR.out Ca2.out (by have := SU.out; omega)) Tryd.underlying23 rfl (size_l32 HR.out) ?_)
    | (refine ld 23 (.tmp 5) rfl rfl (D + 1) 0 rfl (bv y) _ (range_below RY.out Ca2.out (by have := SU.out; omega)) Tryd.underlying23 rfl (size_l32 HY.out) ?_)
    | (refine wpList_store_mid rfl 23 (.tmp 10) (.tmp 37) rfl a3.heap.size 0 (bv F).toArray rfl rfl (there_new a3 (by rw [List.size_toArray, bv_length, HFL.out.len, HZS.out])) (by rw [List.size_toArray]; exact size_l32 HFL.out) (bv_one' _) ?_; simp only [List.toList_toArray])
    | (go_at_call 30; refine (HRF.out a2 Ca2.out).mono ?_; rintro e a3 ⟨rfl, g1⟩; have Ga3 : Hid (Below a2.heap.size a2 a3) := g1; have Ca3 : Hid (Below U.heap.size U a3) := Below.tr' Ca2.out g1; clear g1))
  obtain ⟨a4, ha4⟩ : ∃ a9, (a3.alloc (.cells Z 23)).setCells a3.heap.size 0 (bv F) = a9 := ⟨_, rfl⟩
  rw [ha4]
  obtain ⟨r1, r2, r3⟩ := laid_row (by rw [bv_length, HFL.out.len, HZS.out]) (by rw [bv_length, HFL.out.len]; omega) ha4
  have RF2 : Hid (a4.rangeAt a3.heap.size 0 (bv F)) := r1
  have Ga4 : Hid (Below a3.heap.size a3 a4) := r2
  have Ca4 : Hid (Below U.heap.size U a4) := Below.tr' Ca3.out r2
  have LF2 : Hid (a3.heap.size < a4.heap.size) := r3
  clear r1 r2 r3 ha4
  go_upto_region 6 with (first
    | (refine wpList_store_mid rfl 23 (.tmp 13) (.tmp 44) rfl a5.heap.size 0 (bv Y).toArray rfl rfl (there_new a5 (by rw [List.size_toArray, bv_length, HYL.out.len, HZS.out])) (by rw [List.size_toArray]; exact size_l32 HYL.out) (bv_one' _) ?_; simp only [List.toList_toArray])
    | (go_at_call 17; refine (HRT.out v4 w4 N4.out Cw4.out).mono ?_; rintro e a5 ⟨rfl, g1⟩; have Ga5 : Hid (Below w4.heap.size w4 a5) := g1; have Ca5 : Hid (Below U.heap.size U a5) := Below.tr' Cw4.out g1; clear g1)
    | (go_at_call 15; refine (HCN.out a4 Ca4.out).mono ?_; rintro e w4 ⟨v4, rfl, g1, g2⟩; have N4 : Hid (NS w4 v4 l) := g1; have Gw4 : Hid (Below a4.heap.size a4 w4) := g2; have Cw4 : Hid (Below U.heap.size U w4) := Below.tr' Ca4.out g2; clear g1 g2))
  obtain ⟨a6, ha6⟩ : ∃ a9, (a5.alloc (.cells Z 23)).setCells a5.heap.size 0 (bv Y) = a9 := ⟨_, rfl⟩
  rw [ha6]
  obtain ⟨r1, r2, r3⟩ := laid_row (by rw [bv_length, HYL.out.len, HZS.out]) (by rw [bv_length, HYL.out.len]; omega) ha6
  have RYY : Hid (a6.rangeAt a5.heap.size 0 (bv Y)) := r1
  have Ga6 : Hid (Below a5.heap.size a5 a6) := r2
  have Ca6 : Hid (Below U.heap.size U a6) := Below.tr' Ca5.out r2
  have LYY : Hid (a5.heap.size < a6.heap.size) := r3
  clear r1 r2 r3 ha6
  obtain ⟨a5x, ha5x⟩ : ∃ n, a5.heap.size = n := ⟨_, rfl⟩
  obtain ⟨a3x, ha3x⟩ : ∃ n, a3.heap.size = n := ⟨_, rfl⟩
  rw [ha5x] at RYY LYY ⊢
  rw [ha3x] at RF2 LF2 ⊢
  have H46 : Hid (Below a4.heap.size a4 a6) := Below.tr' Gw4.out (Below.tr' Ga5.out Ga6.out)
  have H26 : Hid (Below a2.heap.size a2 a6) := Below.tr' Ga3.out (Below.tr' Ga4.out H46.out)
  clear ha5x ha3x
  go_upto_region 8 with (first
    | (refine ld 23 (.tmp 7) rfl rfl b9 0 rfl (bv F) _ (range_below R9a2.out H26.out L9a2.out) Tryd.underlying23 rfl (size_l32 HFL.out) ?_)
    | (refine ld 23 (.tmp 10) rfl rfl a3x 0 rfl (bv F) _ (range_below RF2.out H46.out LF2.out) Tryd.underlying23 rfl (size_l32 HFL.out) ?_)
    | (refine wp_bin_run .neq 23 23 (.tmp 46) (.tmp 47) rfl rfl (.agg (bv F).toArray) (.agg (bv F).toArray) (.bool false) rfl rfl (eqg_32 _ _ _ _ _ a6) ((neq_32 HFL.out HFL.out a6).trans (by simp)) ?_)
    | (refine wp_bin_run .neq 4 4 (.tmp 50) (.tmp 51) rfl rfl (.bool g) (.bool g) (.bool false) rfl rfl (eqg_bool _ _ _ _ _ a6) (neq_bool g a6) ?_))
  refine RG.wp_rgn' (GI a6 (tf8f Y y G v k e4) (phN l) [(9, 10, bv G, bv z32)]) (by kernel_rfl) (by kernel_rfl) GI.start ?_ ?_
  · refine ⟨?_, ?_, ?_, ?_, ?_, ?_, ?_, ?_, ?_, ?_, ?_, ?_, ?_, trivial⟩
    · intro a W d V hI hd hpx hbk hf hp
      have hO' : Below a6.heap.size a6 W := hI.be
      have q13 : a.eval (.tmp 13) = .pointer (some ⟨a5x, 0, none⟩) := hf 13 rfl
      exact RU.ob_op rfl (RU.wanted_none rfl) (wp_load_mid 23 (.tmp 13) rfl (a5x) (0) q13 (bv Y) _ (range_below RYY.out hO' LYY.out) Tryd.underlying23 rfl (size_l32 HYL.out) ⟨_, rfl, hI.step (phN_mono l) (Below.refl _ _) 0 _ (by simp) (fun u hu => by first | (cases hu; rfl) | cases hu) (trivial)⟩)
    · intro a W d V hI hd hpx hbk hf hp
      have hO' : Below a6.heap.size a6 W := hI.be
      refine RU.ob_val (v := v) rfl (RU.wanted_none rfl) (fun ev he hc => ?_) ⟨_, rfl, hI.step (phN_mono l) (Below.refl _ _) 1 _ (by simp) (fun u hu => by first | (cases hu; rfl) | cases hu) (trivial)⟩
      have q1 : ev (.tmp 1) = v := (he (.tmp 1)).trans (hf 1 rfl)
      simp only [List.getElem_toArray, List.getElem_cons_succ, List.getElem_cons_zero, execOp, Option.map_some, Option.map_none]; rw [q1]
      first | (go_simp; done) | (go_simp; rfl) | rfl
    · intro a W d V hI hd hpx hbk hf hp
      have hO' : Below a6.heap.size a6 W := hI.be
      have e61 : a.eval (.tmp 61) = v := (hp 1 61 rfl).trans (hI.kn 1 _ rfl (hpx 1 rfl))
      have hno : ∀ x ∈ ([(9, 10, bv G, bv z32)] : List Al), d x.2.1 = false := by simp only [List.mem_cons, List.not_mem_nil, or_false, forall_eq_or_imp, forall_eq]; exact hbk 10 rfl
      refine RU.ob_call (g := 15) (args := #[v]) rfl (RU.wanted_none rfl) (fun ev he hc => ?_) ((HCN.out W (Below.tr' Ca6.out hO')).mono ?_)
      · have h61 := (he (.tmp 61)).trans e61
        have hfn := he (.func 15)
        simp only [List.getElem_toArray, List.getElem_cons_succ, List.getElem_cons_zero, execOp, Option.map_some, Option.map_none]
        simp only [resolve, invoke, Sem.run_bind, Sem.run_pure, Result.andThen_ok, List.map_toArray, List.map_cons, List.map_nil, h61, hfn, Act.eval, hc]
        rfl
      · rintro e' W2 ⟨v', rfl, hn2, hb2⟩
        exact ⟨_, rfl, ⟨_, rfl, hI.step (phN_mono l) hb2 2 _ (by simp) (fun u hu => by first | (cases hu; rfl) | cases hu) (hn2)⟩⟩
    · intro a W d V hI hd hpx hbk hf hp
      have hO' : Below a6.heap.size a6 W := hI.be
      have q5 : a.eval (.tmp 5) = .pointer (some ⟨D + 1, 0, none⟩) := hf 5 rfl
      exact RU.ob_op rfl (RU.wanted_none rfl) (wp_load_mid 23 (.tmp 5) rfl (D + 1) (0) q5 (bv y) _ (range_below RY.out (Below.tr' Ca6.out hO') (by have := SU.out; omega)) Tryd.underlying23 rfl (size_l32 HY.out) ⟨_, rfl, hI.step (phN_mono l) (Below.refl _ _) 3 _ (by simp) (fun u hu => by first | (cases hu; rfl) | cases hu) (trivial)⟩)
    · intro a W d V hI hd hpx hbk hf hp
      have hO' : Below a6.heap.size a6 W := hI.be
      have e60 : a.eval (.tmp 60) = .agg (bv Y).toArray := (hp 0 60 rfl).trans (hI.kn 0 _ rfl (hpx 0 rfl))
      have e62 : a.eval (.tmp 62) = V 2 := hp 2 62 rfl
      have e63 : a.eval (.tmp 63) = .agg (bv y).toArray := (hp 3 63 rfl).trans (hI.kn 3 _ rfl (hpx 3 rfl))
      have hno : ∀ x ∈ ([(9, 10, bv G, bv z32)] : List Al), d x.2.1 = false := by simp only [List.mem_cons, List.not_mem_nil, or_false, forall_eq_or_imp, forall_eq]; exact hbk 10 rfl
      refine RU.ob_call (g := 29) (args := #[.agg (bv Y).toArray, V 2, .agg (bv y).toArray]) rfl (RU.wanted_none rfl) (fun ev he hc => ?_) ((HFG.out (V 2) W (hI.pr 2 (hpx 2 rfl) hno) (Below.tr' Ca6.out hO')).mono ?_)
      · have h60 := (he (.tmp 60)).trans e60
        have h62 := (he (.tmp 62)).trans e62
        have h63 := (he (.tmp 63)).trans e63
        have hfn := he (.func 29)
        simp only [List.getElem_toArray, List.getElem_cons_succ, List.getElem_cons_zero, execOp, Option.map_some, Option.map_none]
        simp only [resolve, invoke, Sem.run_bind, Sem.run_pure, Result.andThen_ok, List.map_toArray, List.map_cons, List.map_nil, h60, h62, h63, hfn, Act.eval, hc]
        rfl
      · rintro e' W2 ⟨rfl, hb2⟩
        exact ⟨_, rfl, ⟨_, rfl, hI.step (phN_mono l) hb2 4 _ (by simp) (fun u hu => by first | (cases hu; rfl) | cases hu) (trivial)⟩⟩
    · intro a W d V hI hd hpx hbk hf hp
      have hO' : Below a6.heap.size a6 W := hI.be
      refine RU.ob_val (v := .tuple #[.agg (bv G).toArray, .bool k, .int .i64 e4]) rfl (RU.wanted_none rfl) (fun ev he hc => ?_) ⟨_, rfl, hI.step (phN_mono l) (Below.refl _ _) 5 _ (by simp) (fun u hu => by first | (cases hu; rfl) | cases hu) (trivial)⟩
      have q64 : ev (.tmp 64) = .tuple #[.agg (bv G).toArray, .bool k, .int .i64 e4] := (he (.tmp 64)).trans ((hp 4 64 rfl).trans (hI.kn 4 _ rfl (hpx 4 rfl)))
      simp only [List.getElem_toArray, List.getElem_cons_succ, List.getElem_cons_zero, execOp, Option.map_some, Option.map_none]; rw [q64]
      first | (go_simp; done) | (go_simp; rfl) | rfl
    · intro a W d V hI hd hpx hbk hf hp
      have hO' : Below a6.heap.size a6 W := hI.be
      refine RU.ob_val (v := .agg (bv G).toArray) rfl (RU.wanted_none rfl) (fun ev he hc => ?_) ⟨_, rfl, hI.step (phN_mono l) (Below.refl _ _) 6 _ (by simp) (fun u hu => by first | (cases hu; rfl) | cases hu) (trivial)⟩
      have q59 : ev (.tmp 59) = .tuple #[.agg (bv G).toArray, .bool k, .int .i64 e4] := (he (.tmp 59)).trans ((hp 5 59 rfl).trans (hI.kn 5 _ rfl (hpx 5 rfl)))
      simp only [List.getElem_toArray, List.getElem_cons_succ, List.getElem_cons_zero, execOp, Option.map_some, Option.map_none]; rw [q59]
      first | (go_simp; done) | (go_simp; rfl) | rfl
    · intro a W d V hI hd hpx hbk hf hp
      have hO' : Below a6.heap.size a6 W := hI.be
      refine RU.ob_val (v := .bool k) rfl (RU.wanted_none rfl) (fun ev he hc => ?_) ⟨_, rfl, hI.step (phN_mono l) (Below.refl _ _) 7 _ (by simp) (fun u hu => by first | (cases hu; rfl) | cases hu) (trivial)⟩
      have q59 : ev (.tmp 59) = .tuple #[.agg (bv G).toArray, .bool k, .int .i64 e4] := (he (.tmp 59)).trans ((hp 5 59 rfl).trans (hI.kn 5 _ rfl (hpx 5 rfl)))
      simp only [List.getElem_toArray, List.getElem_cons_succ, List.getElem_cons_zero, execOp, Option.map_some, Option.map_none]; rw [q59]
      first | (go_simp; done) | (go_simp; rfl) | rfl
    · intro a W d V hI hd hpx hbk hf hp
      have hO' : Below a6.heap.size a6 W := hI.be
      refine RU.ob_val (v := .int .i64 e4) rfl (RU.wanted_none rfl) (fun ev he hc => ?_) ⟨_, rfl, hI.step (phN_mono l) (Below.refl _ _) 8 _ (by simp) (fun u hu => by first | (cases hu; rfl) | cases hu) (trivial)⟩
      have q59 : ev (.tmp 59) = .tuple #[.agg (bv G).toArray, .bool k, .int .i64 e4] := (he (.tmp 59)).trans ((hp 5 59 rfl).trans (hI.kn 5 _ rfl (hpx 5 rfl)))
      simp only [List.getElem_toArray, List.getElem_cons_succ, List.getElem_cons_zero, execOp, Option.map_some, Option.map_none]; rw [q59]
      first | (go_simp; done) | (go_simp; rfl) | rfl
    · intro a W d V hI hd hpx hbk hf hp
      have hO' : Below a6.heap.size a6 W := hI.be
      refine RU.ob_run (v := .pointer (some ⟨W.heap.size, 0, none⟩)) (w' := W.alloc (.cells (bv z32).toArray 23)) rfl (RU.wanted_none rfl) (fun ev he hc => ?_) ⟨_, rfl, hI.alloc (phN_mono l) (9, 10, bv G, bv z32) (by simp) 23 (hbk 10 rfl) (by simp) (by simp) rfl (fun _ _ => trivial)⟩
      simp only [List.getElem_toArray, List.getElem_cons_succ, List.getElem_cons_zero, execOp]
      first | (go_simp; done) | (go_simp; rfl) | (go_simp; rw [HZE.out])
    · intro a W d V hI hd hpx hbk hf hp
      have hO' : Below a6.heap.size a6 W := hI.be
      have d9 : d 9 = true := hpx 9 rfl
      obtain ⟨b, hV, -, -, hth, -⟩ := hI.pt (9, 10, bv G, bv z32) (by simp) d9
      have qp : a.eval (.tmp 15) = .pointer (some ⟨b, 0, none⟩) := (hp 9 15 rfl).trans hV
      have qv : a.eval (.tmp 65) = .agg (bv G).toArray := (hp 6 65 rfl).trans (hI.kn 6 _ rfl (hpx 6 rfl))
      exact RU.ob_op rfl (RU.wanted_none rfl) (wp_store_mid 23 (.tmp 15) (.tmp 65) rfl b 0 (bv G).toArray qp qv (by rw [List.size_toArray, (show (bv G).length = (bv z32).length by rw [bv_length, bv_length, HGL.out.len, z32_l32.len])]; exact hth) (by rw [List.size_toArray]; exact size_l32 HGL.out) (bv_one' _) ⟨_, rfl, by simp only [List.toList_toArray]; exact hI.store (9, 10, bv G, bv z32) (by simp) d9 hV _ (by simp) (by simp) rfl (show (bv G).length = (bv z32).length by rw [bv_length, bv_length, HGL.out.len, z32_l32.len]) (by simp)⟩)
    · intro a W d V hI hd hpx hbk hf hp
      have hO' : Below a6.heap.size a6 W := hI.be
      refine RU.ob_val (v := .bool k) rfl (RU.wanted_none rfl) (fun ev he hc => ?_) ⟨_, rfl, hI.step (phN_mono l) (Below.refl _ _) 11 _ (by simp) (fun u hu => by first | (cases hu; rfl) | cases hu) (trivial)⟩
      have q66 : ev (.tmp 66) = .bool k := (he (.tmp 66)).trans ((hp 7 66 rfl).trans (hI.kn 7 _ rfl (hpx 7 rfl)))
      simp only [List.getElem_toArray, List.getElem_cons_succ, List.getElem_cons_zero, execOp, Option.map_some, Option.map_none]; rw [q66]
      first | (go_simp; done) | (go_simp; rfl) | rfl
    · intro a W d V hI hd hpx hbk hf hp
      have hO' : Below a6.heap.size a6 W := hI.be
      refine RU.ob_val (v := .int .i64 e4) rfl (RU.wanted_none rfl) (fun ev he hc => ?_) ⟨_, rfl, hI.step (phN_mono l) (Below.refl _ _) 12 _ (by simp) (fun u hu => by first | (cases hu; rfl) | cases hu) (trivial)⟩
      have q67 : ev (.tmp 67) = .int .i64 e4 := (he (.tmp 67)).trans ((hp 8 67 rfl).trans (hI.kn 8 _ rfl (hpx 8 rfl)))
      simp only [List.getElem_toArray, List.getElem_cons_succ, List.getElem_cons_zero, execOp, Option.map_some, Option.map_none]; rw [q67]
      first | (go_simp; done) | (go_simp; rfl) | rfl
  intro a7 da7 Va7 hal hI
  have Ba7 : Hid (Below a6.heap.size a6 a7) := hI.be
  have hs0 : Va7 0 = .agg (bv Y).toArray := hI.kn 0 _ rfl (hal 0 (by decide))
  have hs1 : Va7 1 = v := hI.kn 1 _ rfl (hal 1 (by decide))
  obtain ⟨u2, hs2⟩ : ∃ u, Va7 2 = u := ⟨_, rfl⟩
  have hs3 : Va7 3 = .agg (bv y).toArray := hI.kn 3 _ rfl (hal 3 (by decide))
  have hs4 : Va7 4 = .tuple #[.agg (bv G).toArray, .bool k, .int .i64 e4] := hI.kn 4 _ rfl (hal 4 (by decide))
  have hs5 : Va7 5 = .tuple #[.agg (bv G).toArray, .bool k, .int .i64 e4] := hI.kn 5 _ rfl (hal 5 (by decide))
  have hs6 : Va7 6 = .agg (bv G).toArray := hI.kn 6 _ rfl (hal 6 (by decide))
  have hs7 : Va7 7 = .bool k := hI.kn 7 _ rfl (hal 7 (by decide))
  have hs8 : Va7 8 = .int .i64 e4 := hI.kn 8 _ rfl (hal 8 (by decide))
  obtain ⟨c9, hs9, hb9, hl9, -, hr9⟩ := hI.pt (9, 10, bv G, bv z32) (by simp) (hal 9 (by decide))
  have hs9 : Va7 9 = .pointer (some ⟨c9, 0, none⟩) := hs9
  have R9a7 : Hid (a7.rangeAt c9 0 (bv G)) := by have h9 : da7 10 = true := hal 10 (by decide); simp only [h9, if_true] at hr9; exact hr9
  have L9a7 : Hid (c9 < a7.heap.size) := hl9
  have G9a7 : Hid (a6.heap.size ≤ c9) := hb9
  have hs11 : Va7 11 = .bool k := hI.kn 11 _ rfl (hal 11 (by decide))
  have hs12 : Va7 12 = .int .i64 e4 := hI.kn 12 _ rfl (hal 12 (by decide))
  simp only [RU.lay, Act.put, hs0, hs1, hs2, hs3, hs4, hs5, hs6, hs7, hs8, hs9, hs11, hs12]
  simp only [List.setIfInBounds_toArray, List.set_cons_succ, List.set_cons_zero]
  clear hI hal hs0 hs1 hs2 hs3 hs4 hs5 hs6 hs7 hs8 hs9 hs11 hs12 hb9 hl9 hr9
  have Ca7 : Hid (Below U.heap.size U a7) := Below.tr' Ca6.out Ba7.out
  go_upto_region 10 with (first
    | (refine ld 23 (.tmp 13) rfl rfl a5x 0 rfl (bv Y) _ (range_below RYY.out Ba7.out LYY.out) Tryd.underlying23 rfl (size_l32 HYL.out) ?_)
    | (refine ld 23 (.tmp 5) rfl rfl (D + 1) 0 rfl (bv y) _ (range_below RY.out Ca7.out (by have := SU.out; omega)) Tryd.underlying23 rfl (size_l32 HY.out) ?_)
    | (refine wpList_store_mid rfl 23 (.tmp 18) (.tmp 73) rfl a8.heap.size 0 (bv G).toArray rfl rfl (there_new a8 (by rw [List.size_toArray, bv_length, HGL.out.len, HZS.out])) (by rw [List.size_toArray]; exact size_l32 HGL.out) (bv_one' _) ?_; simp only [List.toList_toArray])
    | (go_at_call 30; refine (HRG.out a7 Ca7.out).mono ?_; rintro e a8 ⟨rfl, g1⟩; have Ga8 : Hid (Below a7.heap.size a7 a8) := g1; have Ca8 : Hid (Below U.heap.size U a8) := Below.tr' Ca7.out g1; clear g1))
  obtain ⟨a9, ha9⟩ : ∃ a9, (a8.alloc (.cells Z 23)).setCells a8.heap.size 0 (bv G) = a9 := ⟨_, rfl⟩
  rw [ha9]
  obtain ⟨r1, r2, r3⟩ := laid_row (by rw [bv_length, HGL.out.len, HZS.out]) (by rw [bv_length, HGL.out.len]; omega) ha9
  have RG2 : Hid (a9.rangeAt a8.heap.size 0 (bv G)) := r1
  have Ga9 : Hid (Below a8.heap.size a8 a9) := r2
  have Ca9 : Hid (Below U.heap.size U a9) := Below.tr' Ca8.out r2
  have LG2 : Hid (a8.heap.size < a9.heap.size) := r3
  clear r1 r2 r3 ha9
  clear hz
  rcases HE.out with rfl | ⟨rfl, rfl⟩
  all_goals
    go_wp2_with (first
      | (refine ld 23 (.tmp 15) rfl rfl c9 0 rfl (bv G) _ (range_below R9a7.out (Below.tr' Ga8.out Ga9.out) L9a7.out) Tryd.underlying23 rfl (size_l32 HGL.out) ?_)
      | (refine ld 23 (.tmp 18) rfl rfl a8.heap.size 0 rfl (bv G) _ (RG2.out) Tryd.underlying23 rfl (size_l32 HGL.out) ?_)
      | (refine wp_bin_run .eql 23 23 (.tmp 76) (.tmp 77) rfl rfl (.agg (bv G).toArray) (.agg (bv G).toArray) (.bool true) rfl rfl (eqg_32 _ _ _ _ _ a9) ((eql_32 HGL.out HGL.out a9).trans (by simp)) ?_)
      | (refine wp_bin_run .eql 4 4 (.tmp 80) (.tmp 81) rfl rfl (.bool k) (.bool k) (.bool true) rfl rfl (eqg_bool _ _ _ _ _ a9) (eql_bool k a9) ?_))
    go_ret
    exact ⟨rfl, Below.tr' BU.out Ca9.out⟩
end Go.Proofs.YtoldkelnjjphiaaDoor
