/- The walk of TreeOpens. -/
import Derived.Test.YtoldkelnjjphiaaDoorTroC
import Derived.Test.YtoldkelnjjphiaaDoorTrlA
namespace Go.Proofs.YtoldkelnjjphiaaDoor
open Go Go.RowKit
set_option linter.unusedSimpArgs false
set_option linter.unusedVariables false
set_option maxRecDepth 100000

def phO (ls : List Lf) (L : List Nd) (er : Int) : Nat → Value → World → Prop
  | 1, v, W => LS W v ls
  | 3, v, W => ∃ v', v = .tuple #[v', .int .i64 er] ∧ NS W v' L
  | 4, v, W => ∃ v', v = .tuple #[v', .int .i64 er] ∧ NS W v' L
  | 5, v, W => NS W v L
  | 7, v, W => NS W v L
  | _, _, _ => True
theorem phO_mono (ls : List Lf) (L : List Nd) (er : Int) : ∀ i v W W', phO ls L er i v W → Below W.heap.size W W' → phO ls L er i v W' := by
  intro i v W W' h hb
  unfold phO at h ⊢
  split at h
  · exact LS.below h hb
  · obtain ⟨v', e, q⟩ := h; exact ⟨v', e, q.below hb⟩
  · obtain ⟨v', e, q⟩ := h; exact ⟨v', e, q.below hb⟩
  · exact NS.below h hb
  · exact NS.below h hb
  · trivial
/-- What opening gives, told by one list. -/
theorem open_one (ls : List Lf) (hk : ∀ x ∈ ls, x.Ok) (hlen : ls.length ≤ 2500000000000) (y : List Int) (hy : L32 y) : ∃ (L : List Nd) (er : Int), (∀ x ∈ L, x.Ok) ∧ L.length ≤ 2500000000000 ∧
    (∀ (v : Value) (w : World), LS w v ls → Tb w → Calls Tryd.prog 27 #[v, .agg (bv y).toArray] w fun e w' => ∃ v', e = .returned (.tuple #[v', .int .i64 er]) ∧ NS w' v' L ∧ Below w.heap.size w w') ∧
    (∀ (v : Value) (w : World), LS w v ls → Calls Tryd.prog 26 #[v, .agg (bv y).toArray] w fun e w' => ∃ v', e = .returned (.tuple #[v', .int .i64 er]) ∧ NS w' v' L ∧ Below w.heap.size w w') := by
  by_cases ho : okl ls
  · refine ⟨opl y (so ls), 0, ?_, ?_, fun v w hv hT => ?_, fun v w hv => ?_⟩
    · have := (wo_fit (hd := fun n => hl n y) (own := true) (so ls).length (so ls) (so_rsn hk ho)).1
      rw [wo_opl y _ _ (so_rsn hk ho).ris (Nat.le_refl _)] at this
      exact this
    · have := (wo_fit (hd := fun n => hl n y) (own := true) (so ls).length (so ls) (so_rsn hk ho)).2
      rw [wo_opl y _ _ (so_rsn hk ho).ris (Nat.le_refl _), so_len ho] at this
      omega
    · refine (Open_any ls hk hlen y hy v w hv hT).mono fun e w' ⟨v', er, he, hL, hb⟩ => ?_
      rcases hL with ⟨_, h1, h2⟩ | ⟨h1, _⟩
      · subst h1; exact ⟨v', he, h2.ns, hb⟩
      · exact absurd ho h1
    · refine (rOpen_any ls hk hlen y hy v w hv).mono fun e w' ⟨v', er, he, hL, hb⟩ => ?_
      rcases hL with ⟨_, h1, h2⟩ | ⟨h1, _⟩
      · subst h1; exact ⟨v', he, h2, hb⟩
      · exact absurd ho h1
  · have hn : ∀ w : World, NS w (.slice none 0 0) [] := fun w => ⟨none, 0, rfl, Nat.le_refl _, .inl ⟨rfl, fun _ => rfl⟩⟩
    refine ⟨[], 1, (fun x hx => by cases hx), by simp, fun v w hv hT => ?_, fun v w hv => ?_⟩
    · refine (Open_any ls hk hlen y hy v w hv hT).mono fun e w' ⟨v', er, he, hL, hb⟩ => ?_
      rcases hL with ⟨h1, _⟩ | ⟨_, h1, h2⟩
      · exact absurd h1 ho
      · subst h1 h2; exact ⟨_, he, hn w', hb⟩
    · refine (rOpen_any ls hk hlen y hy v w hv).mono fun e w' ⟨v', er, he, hL, hb⟩ => ?_
      rcases hL with ⟨h1, _⟩ | ⟨_, h1, h2⟩
      · exact absurd h1 ho
      · subst h1 h2; exact ⟨_, he, hn w', hb⟩
def to4f (v : Value) (y : List Int) (er : Int) : Nat → Option Value
  | 0 => some (v)
  | 2 => some (.agg (bv y).toArray)
  | 6 => some (.int .i64 er)
  | 8 => some (.int .i64 er)
  | _ => none
set_option maxHeartbeats 8000000 in
theorem opens_any (ls : List Lf) (hk : ∀ x ∈ ls, x.Ok) (hlen : ls.length ≤ 2500000000000) (y : List Int) (hy : L32 y) (v : Value) (w : World) (hv : LS w v ls) (hT : Tb w) :
    Calls Tryd.prog 5 #[v, .agg (bv y).toArray] w fun e w' => e = .returned (.bool true) ∧ Below w.heap.size w w' := by
  have sy : (bv y).toArray.size = 32 := by rw [List.size_toArray, bv_length, hy.len]
  have ra := range_alloc w (bv y) 23 (0, 0)
  obtain ⟨L, er, l1, l2, l3, l4⟩ := open_one ls hk hlen y hy
  obtain ⟨A, hA⟩ : ∃ A, (bv y).toArray = A := ⟨_, rfl⟩
  rw [hA] at ra sy ⊢
  obtain ⟨U, hU⟩ : ∃ U, w.alloc (.cells A 23) = U := ⟨_, rfl⟩
  have bU : Below w.heap.size w U := by rw [← hU]; exact (Below.refl _ w).alloc (Nat.le_refl _) _
  have sU : U.heap.size = w.heap.size + 1 := by rw [← hU]; simp
  rw [hU] at ra
  have BU : Hid (Below w.heap.size w U) := bU
  have VU : Hid (LS U v ls) := hv.below bU
  have TU : Hid (Tb U) := hT.below bU
  have HY : Hid (L32 y) := hy
  obtain ⟨D, hD⟩ : ∃ D, w.heap.size = D := ⟨_, rfl⟩
  rw [hD] at ra sU
  have RY : Hid (U.rangeAt D 0 (bv y)) := ra
  have hDU : Hid (D < U.heap.size) := by show D < _; omega
  have HAW : Hid (Calls Tryd.prog 9 #[] U fun e w' => e = .returned (.bool true) ∧ Below U.heap.size U w') := awake_any U TU.out
  have HCP : Hid (∀ W : World, Below U.heap.size U W → Calls Tryd.prog 23 #[v] W fun e w' => ∃ v', e = .returned v' ∧ LS w' v' ls ∧ Below W.heap.size W w') := fun W q => copyLeaves_any ls hk (by omega) v W (VU.out.below q)
  have HOP : Hid (∀ (v' : Value) (W : World), LS W v' ls → Below U.heap.size U W → Calls Tryd.prog 27 #[v', .agg (bv y).toArray] W fun e w' => ∃ v', e = .returned (.tuple #[v', .int .i64 er]) ∧ NS w' v' L ∧ Below W.heap.size W w') := fun v' W n1 n2 => l3 v' W n1 (TU.out.below n2)
  have HRO : Hid (∀ W : World, Below U.heap.size U W → Calls Tryd.prog 26 #[v, .agg (bv y).toArray] W fun e w' => ∃ v', e = .returned (.tuple #[v', .int .i64 er]) ∧ NS w' v' L ∧ Below W.heap.size W w') := fun W n2 => l4 v W (VU.out.below n2)
  have HSN : Hid (∀ (a b : Value) (W : World), NS W a L → NS W b L → Calls Tryd.prog 28 #[a, b] W fun e w' => e = .returned (.bool true) ∧ Below W.heap.size W w') := fun a b W n1 n2 => sameNodes_any L l1 (by omega) a b W n1 n2
  clear ra bU hy hk sU hv hlen hA hT l1 l2 l3 l4
  go_enter Tryd.func5, Tryd.ntmps5
  go_upto_region 1 with (fail)
  try rw [hU]
  try rw [hD]
  clear hU hD
  go_upto_region 4 with (first
    | (refine ld 23 (.tmp 3) rfl rfl D 0 rfl (bv y) _ (range_below RY.out C0.out hDU.out) Tryd.underlying23 rfl (size_l32 HY.out) ?_)
    | (go_at_call 9; refine HAW.out.mono ?_; rintro e w0 ⟨rfl, g1⟩; have C0 : Hid (Below U.heap.size U w0) := g1; clear g1)
    | (go_at_call 26; refine (HRO.out w0 C0.out).mono ?_; rintro e w1 ⟨v1, rfl, g1, g2⟩; have N1 : Hid (NS w1 v1 L) := g1; have C1 : Hid (Below U.heap.size U w1) := Below.tr' C0.out g2; clear g1 g2))
  refine RG.wp_rgn' (GI w1 (to4f v y er) (phO ls L er) []) (by kernel_rfl) (by kernel_rfl) GI.start ?_ ?_
  · refine ⟨?_, ?_, ?_, ?_, ?_, ?_, ?_, ?_, ?_, trivial⟩
    · intro a W d V hI hd hpx hbk hf hp
      have hO' : Below w1.heap.size w1 W := hI.be
      refine RU.ob_val (v := v) rfl (RU.wanted_none rfl) (fun ev he hc => ?_) ⟨_, rfl, hI.step (phO_mono ls L er) (Below.refl _ _) 0 _ (by simp) (fun u hu => by first | (cases hu; rfl) | cases hu) (trivial)⟩
      have q0 : ev (.tmp 0) = v := (he (.tmp 0)).trans (hf 0 rfl)
      simp only [List.getElem_toArray, List.getElem_cons_succ, List.getElem_cons_zero, execOp, Option.map_some, Option.map_none]; rw [q0]
      first | (go_simp; done) | (go_simp; rfl) | rfl
    · intro a W d V hI hd hpx hbk hf hp
      have hO' : Below w1.heap.size w1 W := hI.be
      have e18 : a.eval (.tmp 18) = v := (hp 0 18 rfl).trans (hI.kn 0 _ rfl (hpx 0 rfl))
      have hno : ∀ x ∈ ([] : List Al), d x.2.1 = false := by simp
      refine RU.ob_call (g := 23) (args := #[v]) rfl (RU.wanted_none rfl) (fun ev he hc => ?_) ((HCP.out W (Below.tr' C1.out hO')).mono ?_)
      · have h18 := (he (.tmp 18)).trans e18
        have hfn := he (.func 23)
        simp only [List.getElem_toArray, List.getElem_cons_succ, List.getElem_cons_zero, execOp, Option.map_some, Option.map_none]
        simp only [resolve, invoke, Sem.run_bind, Sem.run_pure, Result.andThen_ok, List.map_toArray, List.map_cons, List.map_nil, h18, hfn, Act.eval, hc]
        rfl
      · rintro e' W2 ⟨v', rfl, hn2, hb2⟩
        exact ⟨_, rfl, ⟨_, rfl, hI.step (phO_mono ls L er) hb2 1 _ (by simp) (fun u hu => by first | (cases hu; rfl) | cases hu) (hn2)⟩⟩
    · intro a W d V hI hd hpx hbk hf hp
      have hO' : Below w1.heap.size w1 W := hI.be
      have q3 : a.eval (.tmp 3) = .pointer (some ⟨D, 0, none⟩) := hf 3 rfl
      exact RU.ob_op rfl (RU.wanted_none rfl) (wp_load_mid 23 (.tmp 3) rfl (D) (0) q3 (bv y) _ (range_below RY.out (Below.tr' C1.out hO') hDU.out) Tryd.underlying23 rfl (size_l32 HY.out) ⟨_, rfl, hI.step (phO_mono ls L er) (Below.refl _ _) 2 _ (by simp) (fun u hu => by first | (cases hu; rfl) | cases hu) (trivial)⟩)
    · intro a W d V hI hd hpx hbk hf hp
      have hO' : Below w1.heap.size w1 W := hI.be
      have e19 : a.eval (.tmp 19) = V 1 := hp 1 19 rfl
      have e20 : a.eval (.tmp 20) = .agg (bv y).toArray := (hp 2 20 rfl).trans (hI.kn 2 _ rfl (hpx 2 rfl))
      have hno : ∀ x ∈ ([] : List Al), d x.2.1 = false := by simp
      refine RU.ob_call (g := 27) (args := #[V 1, .agg (bv y).toArray]) rfl (RU.wanted_none rfl) (fun ev he hc => ?_) ((HOP.out (V 1) W (hI.pr 1 (hpx 1 rfl) hno) (Below.tr' C1.out hO')).mono ?_)
      · have h19 := (he (.tmp 19)).trans e19
        have h20 := (he (.tmp 20)).trans e20
        have hfn := he (.func 27)
        simp only [List.getElem_toArray, List.getElem_cons_succ, List.getElem_cons_zero, execOp, Option.map_some, Option.map_none]
        simp only [resolve, invoke, Sem.run_bind, Sem.run_pure, Result.andThen_ok, List.map_toArray, List.map_cons, List.map_nil, h19, h20, hfn, Act.eval, hc]
        rfl
      · rintro e' W2 ⟨v', rfl, hn2, hb2⟩
        exact ⟨_, rfl, ⟨_, rfl, hI.step (phO_mono ls L er) hb2 3 _ (by simp) (fun u hu => by first | (cases hu; rfl) | cases hu) (⟨v', rfl, hn2⟩)⟩⟩
    · intro a W d V hI hd hpx hbk hf hp
      have hO' : Below w1.heap.size w1 W := hI.be
      have hno : ∀ x ∈ ([] : List Al), d x.2.1 = false := by simp
      refine RU.ob_val (v := V 3) rfl (RU.wanted_none rfl) (fun ev he hc => ?_) ⟨_, rfl, hI.step (phO_mono ls L er) (Below.refl _ _) 4 _ (by simp) (fun u hu => by first | (cases hu; rfl) | cases hu) (hI.pr 3 (hpx 3 rfl) hno)⟩
      have q21 : ev (.tmp 21) = V 3 := (he (.tmp 21)).trans (hp 3 21 rfl)
      simp only [List.getElem_toArray, List.getElem_cons_succ, List.getElem_cons_zero, execOp, Option.map_some, Option.map_none]; rw [q21]
      first | (go_simp; done) | (go_simp; rfl) | rfl
    · intro a W d V hI hd hpx hbk hf hp
      have hO' : Below w1.heap.size w1 W := hI.be
      have e17 : a.eval (.tmp 17) = V 4 := hp 4 17 rfl
      obtain ⟨v', ev4, hn4⟩ : phO ls L er 4 (V 4) W := hI.pr 4 (hpx 4 rfl) (by simp)
      refine RU.ob_val (v := v') rfl (RU.wanted_none rfl) (fun ev he hc => ?_) ⟨_, rfl, hI.step (phO_mono ls L er) (Below.refl _ _) 5 _ (by simp) (fun u hu => by first | (cases hu; rfl) | cases hu) hn4⟩
      have q17 := (he (.tmp 17)).trans (e17.trans ev4)
      simp only [List.getElem_toArray, List.getElem_cons_succ, List.getElem_cons_zero, execOp, Option.map_some, Option.map_none]; rw [q17]
      first | (go_simp; done) | (go_simp; rfl) | rfl
    · intro a W d V hI hd hpx hbk hf hp
      have hO' : Below w1.heap.size w1 W := hI.be
      have e17 : a.eval (.tmp 17) = V 4 := hp 4 17 rfl
      obtain ⟨v', ev4, hn4⟩ : phO ls L er 4 (V 4) W := hI.pr 4 (hpx 4 rfl) (by simp)
      refine RU.ob_val (v := .int .i64 er) rfl (RU.wanted_none rfl) (fun ev he hc => ?_) ⟨_, rfl, hI.step (phO_mono ls L er) (Below.refl _ _) 6 _ (by simp) (fun u hu => by first | (cases hu; rfl) | cases hu) trivial⟩
      have q17 := (he (.tmp 17)).trans (e17.trans ev4)
      simp only [List.getElem_toArray, List.getElem_cons_succ, List.getElem_cons_zero, execOp, Option.map_some, Option.map_none]; rw [q17]
      first | (go_simp; done) | (go_simp; rfl) | rfl
    · intro a W d V hI hd hpx hbk hf hp
      have hO' : Below w1.heap.size w1 W := hI.be
      have hno : ∀ x ∈ ([] : List Al), d x.2.1 = false := by simp
      refine RU.ob_val (v := V 5) rfl (RU.wanted_none rfl) (fun ev he hc => ?_) ⟨_, rfl, hI.step (phO_mono ls L er) (Below.refl _ _) 7 _ (by simp) (fun u hu => by first | (cases hu; rfl) | cases hu) (hI.pr 5 (hpx 5 rfl) hno)⟩
      have q22 : ev (.tmp 22) = V 5 := (he (.tmp 22)).trans (hp 5 22 rfl)
      simp only [List.getElem_toArray, List.getElem_cons_succ, List.getElem_cons_zero, execOp, Option.map_some, Option.map_none]; rw [q22]
      first | (go_simp; done) | (go_simp; rfl) | rfl
    · intro a W d V hI hd hpx hbk hf hp
      have hO' : Below w1.heap.size w1 W := hI.be
      refine RU.ob_val (v := .int .i64 er) rfl (RU.wanted_none rfl) (fun ev he hc => ?_) ⟨_, rfl, hI.step (phO_mono ls L er) (Below.refl _ _) 8 _ (by simp) (fun u hu => by first | (cases hu; rfl) | cases hu) (trivial)⟩
      have q23 : ev (.tmp 23) = .int .i64 er := (he (.tmp 23)).trans ((hp 6 23 rfl).trans (hI.kn 6 _ rfl (hpx 6 rfl)))
      simp only [List.getElem_toArray, List.getElem_cons_succ, List.getElem_cons_zero, execOp, Option.map_some, Option.map_none]; rw [q23]
      first | (go_simp; done) | (go_simp; rfl) | rfl
  intro w2 dw2 Vw2 hal hI
  have Bw2 : Hid (Below w1.heap.size w1 w2) := hI.be
  have hs0 : Vw2 0 = v := hI.kn 0 _ rfl (hal 0 (by decide))
  obtain ⟨u1, hs1⟩ : ∃ u, Vw2 1 = u := ⟨_, rfl⟩
  have P1w2 : Hid ((phO ls L er) 1 u1 w2) := by rw [← hs1]; exact hI.pr 1 (hal 1 (by decide)) (by simp)
  have hs2 : Vw2 2 = .agg (bv y).toArray := hI.kn 2 _ rfl (hal 2 (by decide))
  obtain ⟨u3, hs3⟩ : ∃ u, Vw2 3 = u := ⟨_, rfl⟩
  have P3w2 : Hid ((phO ls L er) 3 u3 w2) := by rw [← hs3]; exact hI.pr 3 (hal 3 (by decide)) (by simp)
  obtain ⟨u4, hs4⟩ : ∃ u, Vw2 4 = u := ⟨_, rfl⟩
  have P4w2 : Hid ((phO ls L er) 4 u4 w2) := by rw [← hs4]; exact hI.pr 4 (hal 4 (by decide)) (by simp)
  obtain ⟨u5, hs5⟩ : ∃ u, Vw2 5 = u := ⟨_, rfl⟩
  have P5w2 : Hid ((phO ls L er) 5 u5 w2) := by rw [← hs5]; exact hI.pr 5 (hal 5 (by decide)) (by simp)
  have hs6 : Vw2 6 = .int .i64 er := hI.kn 6 _ rfl (hal 6 (by decide))
  obtain ⟨u7, hs7⟩ : ∃ u, Vw2 7 = u := ⟨_, rfl⟩
  have P7w2 : Hid ((phO ls L er) 7 u7 w2) := by rw [← hs7]; exact hI.pr 7 (hal 7 (by decide)) (by simp)
  have hs8 : Vw2 8 = .int .i64 er := hI.kn 8 _ rfl (hal 8 (by decide))
  simp only [RU.lay, Act.put, hs0, hs1, hs2, hs3, hs4, hs5, hs6, hs7, hs8]
  simp only [List.setIfInBounds_toArray, List.set_cons_succ, List.set_cons_zero]
  clear hI hal hs0 hs1 hs2 hs3 hs4 hs5 hs6 hs7 hs8
  have N7 : Hid (NS w2 u7 L) := P7w2.out
  have N1' : Hid (NS w2 v1 L) := N1.out.below Bw2.out
  have C2 : Hid (Below U.heap.size U w2) := Below.tr' C1.out Bw2.out
  go_wp2_with (go_at_call 28; refine (HSN.out u7 v1 w2 N7.out N1'.out).mono ?_; rintro e w3 ⟨rfl, g1⟩; have C3 : Hid (Below U.heap.size U w3) := Below.tr' C2.out g1; clear g1)
  go_ret
  exact ⟨rfl, Below.tr' BU.out C3.out⟩
end Go.Proofs.YtoldkelnjjphiaaDoor
