/- The walk of GrowChecks. -/
import Derived.Test.YtpojalbpekbfdaaDoorGrnP
import Derived.Test.YtpojalbpekbfdaaDoorTrtA
namespace Go.Proofs.YtpojalbpekbfdaaDoor
open Go Go.RowKit
set_option linter.unusedSimpArgs false
set_option linter.unusedVariables false
set_option maxRecDepth 100000

def phC (l : List Nd) (ms : List Lf) : Nat → Value → World → Prop
  | 3, v, W => NS W v l
  | 17, v, W => NS W v l
  | 5, v, W => LS W v ms
  | 19, v, W => LS W v ms
  | _, _, _ => True
theorem phC_mono (l : List Nd) (ms : List Lf) : ∀ i v W W', phC l ms i v W → Below W.heap.size W W' → phC l ms i v W' := by
  intro i v W W' h hb
  unfold phC at h ⊢
  split at h
  · exact NS.below h hb
  · exact NS.below h hb
  · exact LS.below h hb
  · exact LS.below h hb
  · trivial
/-- What Check gives on both sides is one number. -/
theorem ck_one (bf af : List Int) (hbf : L32 bf) (haf : L32 af) (l : List Nd) (hk : ∀ x ∈ l, x.Ok) (ms : List Lf) (hm : ∀ x ∈ ms, x.Ok) (hlen : l.length + ms.length ≤ 2400000000000) : ∃ er : Int,
    (∀ (v u : Value) (w : World), NS w v l → LS w u ms → Tb w → Calls Tryd.prog 13 #[.agg (bv bf).toArray, .agg (bv af).toArray, v, u] w fun e w' => e = .returned (.int .i64 er) ∧ Below w.heap.size w w') ∧
    (∀ (v u : Value) (w : World), NS w v l → LS w u ms → Calls Tryd.prog 15 #[.agg (bv bf).toArray, .agg (bv af).toArray, v, u] w fun e w' => e = .returned (.int .i64 er) ∧ Below w.heap.size w w') := by
  obtain ⟨er, he⟩ : ∃ er, CKo bf af l ms er := by
    cases ha : apt l with
    | false => exact ⟨1, .inl ⟨ha, rfl⟩⟩
    | true => exact ⟨_, am_cko hk hm ha⟩
  refine ⟨er, fun v u w h1 h2 hT => ?_, fun v u w h1 h2 => ?_⟩
  · refine (Check_any bf af hbf haf l hk ms hm hlen v u w h1 h2 hT).mono fun e w' ⟨er', q1, q2, q3⟩ => ?_
    rw [cko_uniq hk hm q2 he] at q1
    exact ⟨q1, q3⟩
  · refine (rCheck_core rAmong_any bf af hbf haf l hk ms hm hlen v u w h1 h2).mono fun e w' ⟨er', q1, q2, q3⟩ => ?_
    rw [cko_uniq hk hm q2 he] at q1
    exact ⟨q1, q3⟩
def gc3f (v u : Value) (bf af : List Int) (e1 : Int) : Nat → Option Value
  | 0 => some (.agg (bv bf).toArray)
  | 1 => some (.agg (bv af).toArray)
  | 2 => some (v)
  | 4 => some (u)
  | 6 => some (.int .i64 e1)
  | 7 => some (.agg (bv bf).toArray)
  | 8 => some (.agg (bv af).toArray)
  | 9 => some (v)
  | 10 => some (u)
  | 11 => some (.int .i64 e1)
  | 12 => some (.bool false)
  | _ => none
def gc7f (v u : Value) (X Y af : List Int) (e2 e3 : Int) : Nat → Option Value
  | 0 => some (.agg (bv X).toArray)
  | 1 => some (.agg (bv Y).toArray)
  | 2 => some (v)
  | 4 => some (u)
  | 6 => some (.int .i64 e2)
  | 7 => some (.agg (bv X).toArray)
  | 8 => some (.agg (bv Y).toArray)
  | 9 => some (v)
  | 10 => some (u)
  | 11 => some (.int .i64 e2)
  | 12 => some (.bool true)
  | 13 => some (.bool true)
  | 14 => some (.agg (bv X).toArray)
  | 15 => some (.agg (bv af).toArray)
  | 16 => some (v)
  | 18 => some (u)
  | 20 => some (.int .i64 e3)
  | 21 => some (.agg (bv X).toArray)
  | 22 => some (.agg (bv af).toArray)
  | 23 => some (v)
  | 24 => some (u)
  | 25 => some (.int .i64 e3)
  | 26 => some (.bool true)
  | 27 => some (.bool true)
  | 28 => some (.bool true)
  | _ => none
set_option maxHeartbeats 16000000 in
theorem growChecks_any (bf af : List Int) (hbf : L32 bf) (haf : L32 af) (l : List Nd) (hk : ∀ x ∈ l, x.Ok) (ms : List Lf) (hm : ∀ x ∈ ms, x.Ok) (hlen : l.length + ms.length ≤ 2400000000000) (v u : Value) (w : World) (hv : NS w v l) (hu : LS w u ms) (hT : Tb w) :
    Calls Tryd.prog 4 #[.agg (bv bf).toArray, .agg (bv af).toArray, v, u] w fun e w' => e = .returned (.bool true) ∧ Below w.heap.size w w' := by
  have hz := zero_32
  rw [show List.replicate 32 (0 : Int) = z32 from rfl] at hz
  obtain ⟨Z, hZ⟩ : ∃ Z, (bv z32).toArray = Z := ⟨_, rfl⟩
  have HZS : Hid (Z.size = 32) := by show Z.size = 32; rw [← hZ]; simp [bv, z32]
  rw [hZ] at hz
  have sa : (bv bf).toArray.size = 32 := by rw [List.size_toArray, bv_length, hbf.len]
  have sb : (bv af).toArray.size = 32 := by rw [List.size_toArray, bv_length, haf.len]
  obtain ⟨U, hU⟩ : ∃ U, (w.alloc (.cells (bv bf).toArray 31)).alloc (.cells (bv af).toArray 31) = U := ⟨_, rfl⟩
  obtain ⟨q1, q2, q5, q6⟩ := box_two hU
  have HBF : Hid (L32 bf) := hbf
  have HAF : Hid (L32 af) := haf
  have BU : Hid (Below w.heap.size w U) := q5
  obtain ⟨D, hD⟩ : ∃ D, w.heap.size = D := ⟨_, rfl⟩
  rw [hD] at q1 q2 q6
  have RBF : Hid (U.rangeAt D 0 (bv bf)) := q1
  have RAF : Hid (U.rangeAt (D + 1) 0 (bv af)) := q2
  have LBF : Hid (D < U.heap.size) := by show _ < _; omega
  have LAF : Hid (D + 1 < U.heap.size) := by show _ < _; omega
  have VU : Hid (NS U v l) := hv.below q5
  have UU : Hid (LS U u ms) := hu.below q5
  have TU : Hid (Tb U) := hT.below q5
  have amk : ∀ x ∈ am l ms, x.Ok := fun x hx => by
    rcases List.mem_append.1 ((am_perm l ms).mem_iff.1 hx) with q | q
    · exact hk x q
    · obtain ⟨y, hy, rfl⟩ := List.mem_map.1 q; exact ln_ok (hm y hy)
  have aml : (am l ms).length ≤ 140737488355328 := by have := (am_perm l ms).length_eq; rw [List.length_append, List.length_map] at this; omega
  have HRT1 := fun W q => rRoot_any l hk (by omega) v W q
  have HRT2 := fun v' W q => rRoot_any (am l ms) amk aml v' W q
  obtain ⟨X, E, hX, hE, HXL0⟩ : ∃ (X : List Int) (E : Int), (if apt l = true then rt l else z32) = X ∧ (if apt l = true then (0 : Int) else 1) = E ∧ L32 X := ⟨_, _, rfl, rfl, by split; exact rt_l32 _; exact z32_l32⟩
  obtain ⟨Y, E', hY, hE', HYL0⟩ : ∃ (Y : List Int) (E' : Int), (if apt (am l ms) = true then rt (am l ms) else z32) = Y ∧ (if apt (am l ms) = true then (0 : Int) else 1) = E' ∧ L32 Y := ⟨_, _, rfl, rfl, by split; exact rt_l32 _; exact z32_l32⟩
  rw [hX, hE] at HRT1
  rw [hY, hE'] at HRT2
  have HXL : Hid (L32 X) := HXL0
  have HYL : Hid (L32 Y) := HYL0
  obtain ⟨e1, c1, r1⟩ := ck_one bf af hbf haf l hk ms hm hlen
  obtain ⟨e2, c2, r2⟩ := ck_one X Y HXL0 HYL0 l hk ms hm hlen
  obtain ⟨e3, c3, r3⟩ := ck_one X af HXL0 haf l hk ms hm hlen
  have HC1 : Hid (∀ (v' u' : Value) (W : World), NS W v' l → LS W u' ms → Below U.heap.size U W → Calls Tryd.prog 13 #[.agg (bv bf).toArray, .agg (bv af).toArray, v', u'] W fun e w' => e = .returned (.int .i64 e1) ∧ Below W.heap.size W w') := fun v' u' W n1 n2 n3 => c1 v' u' W n1 n2 (TU.out.below n3)
  have HR1 : Hid (∀ W : World, Below U.heap.size U W → Calls Tryd.prog 15 #[.agg (bv bf).toArray, .agg (bv af).toArray, v, u] W fun e w' => e = .returned (.int .i64 e1) ∧ Below W.heap.size W w') := fun W n3 => r1 v u W (VU.out.below n3) (UU.out.below n3)
  have HC2 : Hid (∀ (v' u' : Value) (W : World), NS W v' l → LS W u' ms → Below U.heap.size U W → Calls Tryd.prog 13 #[.agg (bv X).toArray, .agg (bv Y).toArray, v', u'] W fun e w' => e = .returned (.int .i64 e2) ∧ Below W.heap.size W w') := fun v' u' W n1 n2 n3 => c2 v' u' W n1 n2 (TU.out.below n3)
  have HR2 : Hid (∀ W : World, Below U.heap.size U W → Calls Tryd.prog 15 #[.agg (bv X).toArray, .agg (bv Y).toArray, v, u] W fun e w' => e = .returned (.int .i64 e2) ∧ Below W.heap.size W w') := fun W n3 => r2 v u W (VU.out.below n3) (UU.out.below n3)
  have HC3 : Hid (∀ (v' u' : Value) (W : World), NS W v' l → LS W u' ms → Below U.heap.size U W → Calls Tryd.prog 13 #[.agg (bv X).toArray, .agg (bv af).toArray, v', u'] W fun e w' => e = .returned (.int .i64 e3) ∧ Below W.heap.size W w') := fun v' u' W n1 n2 n3 => c3 v' u' W n1 n2 (TU.out.below n3)
  have HR3 : Hid (∀ W : World, Below U.heap.size U W → Calls Tryd.prog 15 #[.agg (bv X).toArray, .agg (bv af).toArray, v, u] W fun e w' => e = .returned (.int .i64 e3) ∧ Below W.heap.size W w') := fun W n3 => r3 v u W (VU.out.below n3) (UU.out.below n3)
  have HAW : Hid (Calls Tryd.prog 8 #[] U fun e w' => e = .returned (.bool true) ∧ Below U.heap.size U w') := awake_any U TU.out
  have HCN : Hid (∀ W : World, Below U.heap.size U W → Calls Tryd.prog 14 #[v] W fun e w' => ∃ v', e = .returned v' ∧ NS w' v' l ∧ Below W.heap.size W w') := fun W q => copyNodes_any l hk (by omega) v W (VU.out.below q)
  have HCL : Hid (∀ W : World, Below U.heap.size U W → Calls Tryd.prog 11 #[u] W fun e w' => ∃ v', e = .returned v' ∧ LS w' v' ms ∧ Below W.heap.size W w') := fun W q => copyLeaves_any ms hm (by omega) u W (UU.out.below q)
  have HRA : Hid (∀ W : World, Below U.heap.size U W → Calls Tryd.prog 16 #[v] W fun e w' => e = .returned (.tuple #[.agg (bv X).toArray, .int .i64 E]) ∧ Below W.heap.size W w') := fun W q => HRT1 W (VU.out.below q)
  obtain ⟨M, hM⟩ : ∃ M, am l ms = M := ⟨_, rfl⟩
  have HAM : Hid (∀ W : World, Below U.heap.size U W → Calls Tryd.prog 17 #[v, u] W fun e w' => ∃ v', e = .returned v' ∧ NS w' v' M ∧ Below W.heap.size W w') := fun W q => by rw [← hM]; exact rAmong_any l ms hk hm hlen v u W (VU.out.below q) (UU.out.below q)
  rw [hM] at HRT2
  have HRB : Hid (∀ (v' : Value) (W : World), NS W v' M → Calls Tryd.prog 16 #[v'] W fun e w' => e = .returned (.tuple #[.agg (bv Y).toArray, .int .i64 E']) ∧ Below W.heap.size W w') := HRT2
  obtain ⟨Aa, hAa⟩ : ∃ A, (bv bf).toArray = A := ⟨_, rfl⟩
  obtain ⟨Ab, hAb⟩ : ∃ A, (bv af).toArray = A := ⟨_, rfl⟩
  rw [hAa] at sa hU ⊢
  rw [hAb] at sb hU ⊢
  clear q1 q2 q5 q6 hbf haf hk hm hlen hv hu hZ amk aml HRT1 HRT2 hX hE hY hE' HXL0 HYL0 c1 c2 c3 r1 r2 r3 hM hT hAa hAb
  go_enter Tryd.func4, Tryd.ntmps4
  go_upto_region 1 with (fail)
  try rw [hU]
  try rw [hD]
  clear hU hD sa sb
  go_upto_region 3 with (go_at_call 8; refine HAW.out.mono ?_; rintro e w0 ⟨rfl, g1⟩; have C0 : Hid (Below U.heap.size U w0) := g1; clear g1)
  refine RG.wp_rgn' (GI w0 (gc3f v u bf af e1) (phC l ms) []) (by kernel_rfl) (by kernel_rfl) GI.start ?_ ?_
  · refine ⟨?_, ?_, ?_, ?_, ?_, ?_, ?_, ?_, ?_, ?_, ?_, ?_, ?_, trivial⟩
    · intro a W d V hI hd hpx hbk hf hp
      have hO' : Below w0.heap.size w0 W := hI.be
      have q4 : a.eval (.tmp 4) = .pointer (some ⟨D, 0, none⟩) := hf 4 rfl
      exact RU.ob_op rfl (RU.wanted_none rfl) (wp_load_mid 31 (.tmp 4) rfl (D) (0) q4 (bv bf) _ (range_below RBF.out (Below.tr' C0.out hO') LBF.out) Tryd.underlying31 rfl (size_l32 HBF.out) ⟨_, rfl, hI.step (phC_mono l ms) (Below.refl _ _) 0 _ (by simp) (fun u hu => by first | (cases hu; rfl) | cases hu) (trivial)⟩)
    · intro a W d V hI hd hpx hbk hf hp
      have hO' : Below w0.heap.size w0 W := hI.be
      have q5 : a.eval (.tmp 5) = .pointer (some ⟨D + 1, 0, none⟩) := hf 5 rfl
      exact RU.ob_op rfl (RU.wanted_none rfl) (wp_load_mid 31 (.tmp 5) rfl (D + 1) (0) q5 (bv af) _ (range_below RAF.out (Below.tr' C0.out hO') LAF.out) Tryd.underlying31 rfl (size_l32 HAF.out) ⟨_, rfl, hI.step (phC_mono l ms) (Below.refl _ _) 1 _ (by simp) (fun u hu => by first | (cases hu; rfl) | cases hu) (trivial)⟩)
    · intro a W d V hI hd hpx hbk hf hp
      have hO' : Below w0.heap.size w0 W := hI.be
      refine RU.ob_val (v := v) rfl (RU.wanted_none rfl) (fun ev he hc => ?_) ⟨_, rfl, hI.step (phC_mono l ms) (Below.refl _ _) 2 _ (by simp) (fun u hu => by first | (cases hu; rfl) | cases hu) (trivial)⟩
      have q2 : ev (.tmp 2) = v := (he (.tmp 2)).trans (hf 2 rfl)
      simp only [List.getElem_toArray, List.getElem_cons_succ, List.getElem_cons_zero, execOp, Option.map_some, Option.map_none]; rw [q2]
      first | (go_simp; done) | (go_simp; rfl) | rfl
    · intro a W d V hI hd hpx hbk hf hp
      have hO' : Below w0.heap.size w0 W := hI.be
      have e17 : a.eval (.tmp 17) = v := (hp 2 17 rfl).trans (hI.kn 2 _ rfl (hpx 2 rfl))
      have hno : ∀ x ∈ ([] : List Al), d x.2.1 = false := by simp
      refine RU.ob_call (g := 14) (args := #[v]) rfl (RU.wanted_none rfl) (fun ev he hc => ?_) ((HCN.out W (Below.tr' C0.out hO')).mono ?_)
      · have h17 := (he (.tmp 17)).trans e17
        have hfn := he (.func 14)
        simp only [List.getElem_toArray, List.getElem_cons_succ, List.getElem_cons_zero, execOp, Option.map_some, Option.map_none]
        simp only [resolve, invoke, Sem.run_bind, Sem.run_pure, Result.andThen_ok, List.map_toArray, List.map_cons, List.map_nil, h17, hfn, Act.eval, hc]
        rfl
      · rintro e' W2 ⟨v', rfl, hn2, hb2⟩
        exact ⟨_, rfl, ⟨_, rfl, hI.step (phC_mono l ms) hb2 3 _ (by simp) (fun u hu => by first | (cases hu; rfl) | cases hu) (hn2)⟩⟩
    · intro a W d V hI hd hpx hbk hf hp
      have hO' : Below w0.heap.size w0 W := hI.be
      refine RU.ob_val (v := u) rfl (RU.wanted_none rfl) (fun ev he hc => ?_) ⟨_, rfl, hI.step (phC_mono l ms) (Below.refl _ _) 4 _ (by simp) (fun u hu => by first | (cases hu; rfl) | cases hu) (trivial)⟩
      have q3 : ev (.tmp 3) = u := (he (.tmp 3)).trans (hf 3 rfl)
      simp only [List.getElem_toArray, List.getElem_cons_succ, List.getElem_cons_zero, execOp, Option.map_some, Option.map_none]; rw [q3]
      first | (go_simp; done) | (go_simp; rfl) | rfl
    · intro a W d V hI hd hpx hbk hf hp
      have hO' : Below w0.heap.size w0 W := hI.be
      have e19 : a.eval (.tmp 19) = u := (hp 4 19 rfl).trans (hI.kn 4 _ rfl (hpx 4 rfl))
      have hno : ∀ x ∈ ([] : List Al), d x.2.1 = false := by simp
      refine RU.ob_call (g := 11) (args := #[u]) rfl (RU.wanted_none rfl) (fun ev he hc => ?_) ((HCL.out W (Below.tr' C0.out hO')).mono ?_)
      · have h19 := (he (.tmp 19)).trans e19
        have hfn := he (.func 11)
        simp only [List.getElem_toArray, List.getElem_cons_succ, List.getElem_cons_zero, execOp, Option.map_some, Option.map_none]
        simp only [resolve, invoke, Sem.run_bind, Sem.run_pure, Result.andThen_ok, List.map_toArray, List.map_cons, List.map_nil, h19, hfn, Act.eval, hc]
        rfl
      · rintro e' W2 ⟨v', rfl, hn2, hb2⟩
        exact ⟨_, rfl, ⟨_, rfl, hI.step (phC_mono l ms) hb2 5 _ (by simp) (fun u hu => by first | (cases hu; rfl) | cases hu) (hn2)⟩⟩
    · intro a W d V hI hd hpx hbk hf hp
      have hO' : Below w0.heap.size w0 W := hI.be
      have e15 : a.eval (.tmp 15) = .agg (bv bf).toArray := (hp 0 15 rfl).trans (hI.kn 0 _ rfl (hpx 0 rfl))
      have e16 : a.eval (.tmp 16) = .agg (bv af).toArray := (hp 1 16 rfl).trans (hI.kn 1 _ rfl (hpx 1 rfl))
      have e18 : a.eval (.tmp 18) = V 3 := hp 3 18 rfl
      have e20 : a.eval (.tmp 20) = V 5 := hp 5 20 rfl
      have hno : ∀ x ∈ ([] : List Al), d x.2.1 = false := by simp
      refine RU.ob_call (g := 13) (args := #[.agg (bv bf).toArray, .agg (bv af).toArray, V 3, V 5]) rfl (RU.wanted_none rfl) (fun ev he hc => ?_) ((HC1.out (V 3) (V 5) W (hI.pr 3 (hpx 3 rfl) hno) (hI.pr 5 (hpx 5 rfl) hno) (Below.tr' C0.out hO')).mono ?_)
      · have h15 := (he (.tmp 15)).trans e15
        have h16 := (he (.tmp 16)).trans e16
        have h18 := (he (.tmp 18)).trans e18
        have h20 := (he (.tmp 20)).trans e20
        have hfn := he (.func 13)
        simp only [List.getElem_toArray, List.getElem_cons_succ, List.getElem_cons_zero, execOp, Option.map_some, Option.map_none]
        simp only [resolve, invoke, Sem.run_bind, Sem.run_pure, Result.andThen_ok, List.map_toArray, List.map_cons, List.map_nil, h15, h16, h18, h20, hfn, Act.eval, hc]
        rfl
      · rintro e' W2 ⟨rfl, hb2⟩
        exact ⟨_, rfl, ⟨_, rfl, hI.step (phC_mono l ms) hb2 6 _ (by simp) (fun u hu => by first | (cases hu; rfl) | cases hu) (trivial)⟩⟩
    · intro a W d V hI hd hpx hbk hf hp
      have hO' : Below w0.heap.size w0 W := hI.be
      have q4 : a.eval (.tmp 4) = .pointer (some ⟨D, 0, none⟩) := hf 4 rfl
      exact RU.ob_op rfl (RU.wanted_none rfl) (wp_load_mid 31 (.tmp 4) rfl (D) (0) q4 (bv bf) _ (range_below RBF.out (Below.tr' C0.out hO') LBF.out) Tryd.underlying31 rfl (size_l32 HBF.out) ⟨_, rfl, hI.step (phC_mono l ms) (Below.refl _ _) 7 _ (by simp) (fun u hu => by first | (cases hu; rfl) | cases hu) (trivial)⟩)
    · intro a W d V hI hd hpx hbk hf hp
      have hO' : Below w0.heap.size w0 W := hI.be
      have q5 : a.eval (.tmp 5) = .pointer (some ⟨D + 1, 0, none⟩) := hf 5 rfl
      exact RU.ob_op rfl (RU.wanted_none rfl) (wp_load_mid 31 (.tmp 5) rfl (D + 1) (0) q5 (bv af) _ (range_below RAF.out (Below.tr' C0.out hO') LAF.out) Tryd.underlying31 rfl (size_l32 HAF.out) ⟨_, rfl, hI.step (phC_mono l ms) (Below.refl _ _) 8 _ (by simp) (fun u hu => by first | (cases hu; rfl) | cases hu) (trivial)⟩)
    · intro a W d V hI hd hpx hbk hf hp
      have hO' : Below w0.heap.size w0 W := hI.be
      refine RU.ob_val (v := v) rfl (RU.wanted_none rfl) (fun ev he hc => ?_) ⟨_, rfl, hI.step (phC_mono l ms) (Below.refl _ _) 9 _ (by simp) (fun u hu => by first | (cases hu; rfl) | cases hu) (trivial)⟩
      have q2 : ev (.tmp 2) = v := (he (.tmp 2)).trans (hf 2 rfl)
      simp only [List.getElem_toArray, List.getElem_cons_succ, List.getElem_cons_zero, execOp, Option.map_some, Option.map_none]; rw [q2]
      first | (go_simp; done) | (go_simp; rfl) | rfl
    · intro a W d V hI hd hpx hbk hf hp
      have hO' : Below w0.heap.size w0 W := hI.be
      refine RU.ob_val (v := u) rfl (RU.wanted_none rfl) (fun ev he hc => ?_) ⟨_, rfl, hI.step (phC_mono l ms) (Below.refl _ _) 10 _ (by simp) (fun u hu => by first | (cases hu; rfl) | cases hu) (trivial)⟩
      have q3 : ev (.tmp 3) = u := (he (.tmp 3)).trans (hf 3 rfl)
      simp only [List.getElem_toArray, List.getElem_cons_succ, List.getElem_cons_zero, execOp, Option.map_some, Option.map_none]; rw [q3]
      first | (go_simp; done) | (go_simp; rfl) | rfl
    · intro a W d V hI hd hpx hbk hf hp
      have hO' : Below w0.heap.size w0 W := hI.be
      have e22 : a.eval (.tmp 22) = .agg (bv bf).toArray := (hp 7 22 rfl).trans (hI.kn 7 _ rfl (hpx 7 rfl))
      have e23 : a.eval (.tmp 23) = .agg (bv af).toArray := (hp 8 23 rfl).trans (hI.kn 8 _ rfl (hpx 8 rfl))
      have e24 : a.eval (.tmp 24) = v := (hp 9 24 rfl).trans (hI.kn 9 _ rfl (hpx 9 rfl))
      have e25 : a.eval (.tmp 25) = u := (hp 10 25 rfl).trans (hI.kn 10 _ rfl (hpx 10 rfl))
      have hno : ∀ x ∈ ([] : List Al), d x.2.1 = false := by simp
      refine RU.ob_call (g := 15) (args := #[.agg (bv bf).toArray, .agg (bv af).toArray, v, u]) rfl (RU.wanted_none rfl) (fun ev he hc => ?_) ((HR1.out W (Below.tr' C0.out hO')).mono ?_)
      · have h22 := (he (.tmp 22)).trans e22
        have h23 := (he (.tmp 23)).trans e23
        have h24 := (he (.tmp 24)).trans e24
        have h25 := (he (.tmp 25)).trans e25
        have hfn := he (.func 15)
        simp only [List.getElem_toArray, List.getElem_cons_succ, List.getElem_cons_zero, execOp, Option.map_some, Option.map_none]
        simp only [resolve, invoke, Sem.run_bind, Sem.run_pure, Result.andThen_ok, List.map_toArray, List.map_cons, List.map_nil, h22, h23, h24, h25, hfn, Act.eval, hc]
        rfl
      · rintro e' W2 ⟨rfl, hb2⟩
        exact ⟨_, rfl, ⟨_, rfl, hI.step (phC_mono l ms) hb2 11 _ (by simp) (fun u hu => by first | (cases hu; rfl) | cases hu) (trivial)⟩⟩
    · intro a W d V hI hd hpx hbk hf hp
      have hO' : Below w0.heap.size w0 W := hI.be
      refine RU.ob_val (v := .bool false) rfl (RU.wanted_none rfl) (fun ev he hc => ?_) ⟨_, rfl, hI.step (phC_mono l ms) (Below.refl _ _) 12 _ (by simp) (fun u hu => by first | (cases hu; rfl) | cases hu) (trivial)⟩
      have q21 : ev (.tmp 21) = .int .i64 e1 := (he (.tmp 21)).trans ((hp 6 21 rfl).trans (hI.kn 6 _ rfl (hpx 6 rfl)))
      have q26 : ev (.tmp 26) = .int .i64 e1 := (he (.tmp 26)).trans ((hp 11 26 rfl).trans (hI.kn 11 _ rfl (hpx 11 rfl)))
      simp only [List.getElem_toArray, List.getElem_cons_succ, List.getElem_cons_zero, execOp, Option.map_some, Option.map_none]; rw [q21, q26]
      first | (go_simp; done) | (go_simp; rfl) | (simp [gc3f]; done) | (go_simp; simp; done) | rfl
  intro w1 dw1 Vw1 hal hI
  have Bw1 : Hid (Below w0.heap.size w0 w1) := hI.be
  have hs0 : Vw1 0 = .agg (bv bf).toArray := hI.kn 0 _ rfl (hal 0 (by decide))
  have hs1 : Vw1 1 = .agg (bv af).toArray := hI.kn 1 _ rfl (hal 1 (by decide))
  have hs2 : Vw1 2 = v := hI.kn 2 _ rfl (hal 2 (by decide))
  obtain ⟨u3, hs3⟩ : ∃ u, Vw1 3 = u := ⟨_, rfl⟩
  have P3w1 : Hid ((phC l ms) 3 u3 w1) := by rw [← hs3]; exact hI.pr 3 (hal 3 (by decide)) (by simp)
  have hs4 : Vw1 4 = u := hI.kn 4 _ rfl (hal 4 (by decide))
  obtain ⟨u5, hs5⟩ : ∃ u, Vw1 5 = u := ⟨_, rfl⟩
  have P5w1 : Hid ((phC l ms) 5 u5 w1) := by rw [← hs5]; exact hI.pr 5 (hal 5 (by decide)) (by simp)
  have hs6 : Vw1 6 = .int .i64 e1 := hI.kn 6 _ rfl (hal 6 (by decide))
  have hs7 : Vw1 7 = .agg (bv bf).toArray := hI.kn 7 _ rfl (hal 7 (by decide))
  have hs8 : Vw1 8 = .agg (bv af).toArray := hI.kn 8 _ rfl (hal 8 (by decide))
  have hs9 : Vw1 9 = v := hI.kn 9 _ rfl (hal 9 (by decide))
  have hs10 : Vw1 10 = u := hI.kn 10 _ rfl (hal 10 (by decide))
  have hs11 : Vw1 11 = .int .i64 e1 := hI.kn 11 _ rfl (hal 11 (by decide))
  have hs12 : Vw1 12 = .bool false := hI.kn 12 _ rfl (hal 12 (by decide))
  simp only [RU.lay, Act.put, hs0, hs1, hs2, hs3, hs4, hs5, hs6, hs7, hs8, hs9, hs10, hs11, hs12]
  simp only [List.setIfInBounds_toArray, List.set_cons_succ, List.set_cons_zero]
  clear hI hal hs0 hs1 hs2 hs3 hs4 hs5 hs6 hs7 hs8 hs9 hs10 hs11 hs12
  have C1 : Hid (Below U.heap.size U w1) := Below.tr' C0.out Bw1.out
  go_upto_region 6 with (first
    | (go_at_call 16; refine (HRA.out w1 C1.out).mono ?_; rintro e w2 ⟨rfl, g1⟩; have C2 : Hid (Below U.heap.size U w2) := Below.tr' C1.out g1; clear g1)
    | (refine wpList_store_mid rfl 31 (.tmp 9) (.tmp 31) rfl w2.heap.size 0 (bv X).toArray rfl rfl (there_new w2 (by rw [List.size_toArray, bv_length, HXL.out.len, HZS.out])) (by rw [List.size_toArray]; exact size_l32 HXL.out) (bv_one' _) ?_; simp only [List.toList_toArray]))
  obtain ⟨a1, ha1⟩ : ∃ a9, (w2.alloc (.cells Z 31)).setCells w2.heap.size 0 (bv X) = a9 := ⟨_, rfl⟩
  rw [ha1]
  obtain ⟨r1, r2, r3⟩ := laid_row (by rw [bv_length, HXL.out.len, HZS.out]) (by rw [bv_length, HXL.out.len]; omega) ha1
  obtain ⟨b9, hBb9⟩ : ∃ q, w2.heap.size = q := ⟨_, rfl⟩
  rw [hBb9] at r1 r3 ⊢
  have R9 : Hid (a1.rangeAt b9 0 (bv X)) := r1
  have Ca : Hid (Below U.heap.size U a1) := Below.tr' C2.out r2
  have L9 : Hid (b9 < a1.heap.size) := r3
  clear r1 r2 r3 ha1 hBb9
  go_upto_region 7 with (first
    | (go_at_call 17; refine (HAM.out a1 Ca.out).mono ?_; rintro e w3 ⟨v3, rfl, g1, g2⟩; have N3 : Hid (NS w3 v3 M) := g1; have G3 : Hid (Below a1.heap.size a1 w3) := g2; clear g1 g2)
    | (go_at_call 16; refine (HRB.out v3 w3 N3.out).mono ?_; rintro e w4 ⟨rfl, g1⟩; have G4 : Hid (Below a1.heap.size a1 w4) := Below.tr' G3.out g1; clear g1)
    | (refine wpList_store_mid rfl 31 (.tmp 11) (.tmp 38) rfl w4.heap.size 0 (bv Y).toArray rfl rfl (there_new w4 (by rw [List.size_toArray, bv_length, HYL.out.len, HZS.out])) (by rw [List.size_toArray]; exact size_l32 HYL.out) (bv_one' _) ?_; simp only [List.toList_toArray]))
  obtain ⟨a4, ha4⟩ : ∃ a9, (w4.alloc (.cells Z 31)).setCells w4.heap.size 0 (bv Y) = a9 := ⟨_, rfl⟩
  rw [ha4]
  obtain ⟨r1, r2, r3⟩ := laid_row (by rw [bv_length, HYL.out.len, HZS.out]) (by rw [bv_length, HYL.out.len]; omega) ha4
  obtain ⟨b11, hBb11⟩ : ∃ q, w4.heap.size = q := ⟨_, rfl⟩
  rw [hBb11] at r1 r3 ⊢
  have R11 : Hid (a4.rangeAt b11 0 (bv Y)) := r1
  have GA : Hid (Below a1.heap.size a1 a4) := Below.tr' G4.out r2
  have L11 : Hid (b11 < a4.heap.size) := r3
  have C4 : Hid (Below U.heap.size U a4) := Below.tr' Ca.out GA.out
  have RA4 : Hid (a4.rangeAt (D + 1) 0 (bv af)) := range_below RAF.out C4.out LAF.out
  have LA4 : Hid (D + 1 < a4.heap.size) := Nat.lt_of_lt_of_le LAF.out C4.out.size
  clear r1 r2 r3 ha4 hBb11 hz
  refine RG.wp_rgn' (GI a4 (gc7f v u X Y af e2 e3) (phC l ms) []) (by kernel_rfl) (by kernel_rfl) GI.start ?_ ?_
  · refine ⟨?_, ?_, ?_, ?_, ?_, ?_, ?_, ?_, ?_, ?_, ?_, ?_, ?_, ?_, ?_, ?_, ?_, ?_, ?_, ?_, ?_, ?_, ?_, ?_, ?_, ?_, ?_, ?_, ?_, trivial⟩
    · intro a W d V hI hd hpx hbk hf hp
      have hO' : Below a4.heap.size a4 W := hI.be
      have q9 : a.eval (.tmp 9) = .pointer (some ⟨b9, 0, none⟩) := hf 9 rfl
      exact RU.ob_op rfl (RU.wanted_none rfl) (wp_load_mid 31 (.tmp 9) rfl (b9) (0) q9 (bv X) _ (range_below R9.out (Below.tr' GA.out hO') L9.out) Tryd.underlying31 rfl (size_l32 HXL.out) ⟨_, rfl, hI.step (phC_mono l ms) (Below.refl _ _) 0 _ (by simp) (fun u hu => by first | (cases hu; rfl) | cases hu) (trivial)⟩)
    · intro a W d V hI hd hpx hbk hf hp
      have hO' : Below a4.heap.size a4 W := hI.be
      have q11 : a.eval (.tmp 11) = .pointer (some ⟨b11, 0, none⟩) := hf 11 rfl
      exact RU.ob_op rfl (RU.wanted_none rfl) (wp_load_mid 31 (.tmp 11) rfl (b11) (0) q11 (bv Y) _ (range_below R11.out hO' L11.out) Tryd.underlying31 rfl (size_l32 HYL.out) ⟨_, rfl, hI.step (phC_mono l ms) (Below.refl _ _) 1 _ (by simp) (fun u hu => by first | (cases hu; rfl) | cases hu) (trivial)⟩)
    · intro a W d V hI hd hpx hbk hf hp
      have hO' : Below a4.heap.size a4 W := hI.be
      refine RU.ob_val (v := v) rfl (RU.wanted_none rfl) (fun ev he hc => ?_) ⟨_, rfl, hI.step (phC_mono l ms) (Below.refl _ _) 2 _ (by simp) (fun u hu => by first | (cases hu; rfl) | cases hu) (trivial)⟩
      have q2 : ev (.tmp 2) = v := (he (.tmp 2)).trans (hf 2 rfl)
      simp only [List.getElem_toArray, List.getElem_cons_succ, List.getElem_cons_zero, execOp, Option.map_some, Option.map_none]; rw [q2]
      first | (go_simp; done) | (go_simp; rfl) | rfl
    · intro a W d V hI hd hpx hbk hf hp
      have hO' : Below a4.heap.size a4 W := hI.be
      have e42 : a.eval (.tmp 42) = v := (hp 2 42 rfl).trans (hI.kn 2 _ rfl (hpx 2 rfl))
      have hno : ∀ x ∈ ([] : List Al), d x.2.1 = false := by simp
      refine RU.ob_call (g := 14) (args := #[v]) rfl (RU.wanted_none rfl) (fun ev he hc => ?_) ((HCN.out W (Below.tr' C4.out hO')).mono ?_)
      · have h42 := (he (.tmp 42)).trans e42
        have hfn := he (.func 14)
        simp only [List.getElem_toArray, List.getElem_cons_succ, List.getElem_cons_zero, execOp, Option.map_some, Option.map_none]
        simp only [resolve, invoke, Sem.run_bind, Sem.run_pure, Result.andThen_ok, List.map_toArray, List.map_cons, List.map_nil, h42, hfn, Act.eval, hc]
        rfl
      · rintro e' W2 ⟨v', rfl, hn2, hb2⟩
        exact ⟨_, rfl, ⟨_, rfl, hI.step (phC_mono l ms) hb2 3 _ (by simp) (fun u hu => by first | (cases hu; rfl) | cases hu) (hn2)⟩⟩
    · intro a W d V hI hd hpx hbk hf hp
      have hO' : Below a4.heap.size a4 W := hI.be
      refine RU.ob_val (v := u) rfl (RU.wanted_none rfl) (fun ev he hc => ?_) ⟨_, rfl, hI.step (phC_mono l ms) (Below.refl _ _) 4 _ (by simp) (fun u hu => by first | (cases hu; rfl) | cases hu) (trivial)⟩
      have q3 : ev (.tmp 3) = u := (he (.tmp 3)).trans (hf 3 rfl)
      simp only [List.getElem_toArray, List.getElem_cons_succ, List.getElem_cons_zero, execOp, Option.map_some, Option.map_none]; rw [q3]
      first | (go_simp; done) | (go_simp; rfl) | rfl
    · intro a W d V hI hd hpx hbk hf hp
      have hO' : Below a4.heap.size a4 W := hI.be
      have e44 : a.eval (.tmp 44) = u := (hp 4 44 rfl).trans (hI.kn 4 _ rfl (hpx 4 rfl))
      have hno : ∀ x ∈ ([] : List Al), d x.2.1 = false := by simp
      refine RU.ob_call (g := 11) (args := #[u]) rfl (RU.wanted_none rfl) (fun ev he hc => ?_) ((HCL.out W (Below.tr' C4.out hO')).mono ?_)
      · have h44 := (he (.tmp 44)).trans e44
        have hfn := he (.func 11)
        simp only [List.getElem_toArray, List.getElem_cons_succ, List.getElem_cons_zero, execOp, Option.map_some, Option.map_none]
        simp only [resolve, invoke, Sem.run_bind, Sem.run_pure, Result.andThen_ok, List.map_toArray, List.map_cons, List.map_nil, h44, hfn, Act.eval, hc]
        rfl
      · rintro e' W2 ⟨v', rfl, hn2, hb2⟩
        exact ⟨_, rfl, ⟨_, rfl, hI.step (phC_mono l ms) hb2 5 _ (by simp) (fun u hu => by first | (cases hu; rfl) | cases hu) (hn2)⟩⟩
    · intro a W d V hI hd hpx hbk hf hp
      have hO' : Below a4.heap.size a4 W := hI.be
      have e40 : a.eval (.tmp 40) = .agg (bv X).toArray := (hp 0 40 rfl).trans (hI.kn 0 _ rfl (hpx 0 rfl))
      have e41 : a.eval (.tmp 41) = .agg (bv Y).toArray := (hp 1 41 rfl).trans (hI.kn 1 _ rfl (hpx 1 rfl))
      have e43 : a.eval (.tmp 43) = V 3 := hp 3 43 rfl
      have e45 : a.eval (.tmp 45) = V 5 := hp 5 45 rfl
      have hno : ∀ x ∈ ([] : List Al), d x.2.1 = false := by simp
      refine RU.ob_call (g := 13) (args := #[.agg (bv X).toArray, .agg (bv Y).toArray, V 3, V 5]) rfl (RU.wanted_none rfl) (fun ev he hc => ?_) ((HC2.out (V 3) (V 5) W (hI.pr 3 (hpx 3 rfl) hno) (hI.pr 5 (hpx 5 rfl) hno) (Below.tr' C4.out hO')).mono ?_)
      · have h40 := (he (.tmp 40)).trans e40
        have h41 := (he (.tmp 41)).trans e41
        have h43 := (he (.tmp 43)).trans e43
        have h45 := (he (.tmp 45)).trans e45
        have hfn := he (.func 13)
        simp only [List.getElem_toArray, List.getElem_cons_succ, List.getElem_cons_zero, execOp, Option.map_some, Option.map_none]
        simp only [resolve, invoke, Sem.run_bind, Sem.run_pure, Result.andThen_ok, List.map_toArray, List.map_cons, List.map_nil, h40, h41, h43, h45, hfn, Act.eval, hc]
        rfl
      · rintro e' W2 ⟨rfl, hb2⟩
        exact ⟨_, rfl, ⟨_, rfl, hI.step (phC_mono l ms) hb2 6 _ (by simp) (fun u hu => by first | (cases hu; rfl) | cases hu) (trivial)⟩⟩
    · intro a W d V hI hd hpx hbk hf hp
      have hO' : Below a4.heap.size a4 W := hI.be
      have q9 : a.eval (.tmp 9) = .pointer (some ⟨b9, 0, none⟩) := hf 9 rfl
      exact RU.ob_op rfl (RU.wanted_none rfl) (wp_load_mid 31 (.tmp 9) rfl (b9) (0) q9 (bv X) _ (range_below R9.out (Below.tr' GA.out hO') L9.out) Tryd.underlying31 rfl (size_l32 HXL.out) ⟨_, rfl, hI.step (phC_mono l ms) (Below.refl _ _) 7 _ (by simp) (fun u hu => by first | (cases hu; rfl) | cases hu) (trivial)⟩)
    · intro a W d V hI hd hpx hbk hf hp
      have hO' : Below a4.heap.size a4 W := hI.be
      have q11 : a.eval (.tmp 11) = .pointer (some ⟨b11, 0, none⟩) := hf 11 rfl
      exact RU.ob_op rfl (RU.wanted_none rfl) (wp_load_mid 31 (.tmp 11) rfl (b11) (0) q11 (bv Y) _ (range_below R11.out hO' L11.out) Tryd.underlying31 rfl (size_l32 HYL.out) ⟨_, rfl, hI.step (phC_mono l ms) (Below.refl _ _) 8 _ (by simp) (fun u hu => by first | (cases hu; rfl) | cases hu) (trivial)⟩)
    · intro a W d V hI hd hpx hbk hf hp
      have hO' : Below a4.heap.size a4 W := hI.be
      refine RU.ob_val (v := v) rfl (RU.wanted_none rfl) (fun ev he hc => ?_) ⟨_, rfl, hI.step (phC_mono l ms) (Below.refl _ _) 9 _ (by simp) (fun u hu => by first | (cases hu; rfl) | cases hu) (trivial)⟩
      have q2 : ev (.tmp 2) = v := (he (.tmp 2)).trans (hf 2 rfl)
      simp only [List.getElem_toArray, List.getElem_cons_succ, List.getElem_cons_zero, execOp, Option.map_some, Option.map_none]; rw [q2]
      first | (go_simp; done) | (go_simp; rfl) | rfl
    · intro a W d V hI hd hpx hbk hf hp
      have hO' : Below a4.heap.size a4 W := hI.be
      refine RU.ob_val (v := u) rfl (RU.wanted_none rfl) (fun ev he hc => ?_) ⟨_, rfl, hI.step (phC_mono l ms) (Below.refl _ _) 10 _ (by simp) (fun u hu => by first | (cases hu; rfl) | cases hu) (trivial)⟩
      have q3 : ev (.tmp 3) = u := (he (.tmp 3)).trans (hf 3 rfl)
      simp only [List.getElem_toArray, List.getElem_cons_succ, List.getElem_cons_zero, execOp, Option.map_some, Option.map_none]; rw [q3]
      first | (go_simp; done) | (go_simp; rfl) | rfl
    · intro a W d V hI hd hpx hbk hf hp
      have hO' : Below a4.heap.size a4 W := hI.be
      have e47 : a.eval (.tmp 47) = .agg (bv X).toArray := (hp 7 47 rfl).trans (hI.kn 7 _ rfl (hpx 7 rfl))
      have e48 : a.eval (.tmp 48) = .agg (bv Y).toArray := (hp 8 48 rfl).trans (hI.kn 8 _ rfl (hpx 8 rfl))
      have e49 : a.eval (.tmp 49) = v := (hp 9 49 rfl).trans (hI.kn 9 _ rfl (hpx 9 rfl))
      have e50 : a.eval (.tmp 50) = u := (hp 10 50 rfl).trans (hI.kn 10 _ rfl (hpx 10 rfl))
      have hno : ∀ x ∈ ([] : List Al), d x.2.1 = false := by simp
      refine RU.ob_call (g := 15) (args := #[.agg (bv X).toArray, .agg (bv Y).toArray, v, u]) rfl (RU.wanted_none rfl) (fun ev he hc => ?_) ((HR2.out W (Below.tr' C4.out hO')).mono ?_)
      · have h47 := (he (.tmp 47)).trans e47
        have h48 := (he (.tmp 48)).trans e48
        have h49 := (he (.tmp 49)).trans e49
        have h50 := (he (.tmp 50)).trans e50
        have hfn := he (.func 15)
        simp only [List.getElem_toArray, List.getElem_cons_succ, List.getElem_cons_zero, execOp, Option.map_some, Option.map_none]
        simp only [resolve, invoke, Sem.run_bind, Sem.run_pure, Result.andThen_ok, List.map_toArray, List.map_cons, List.map_nil, h47, h48, h49, h50, hfn, Act.eval, hc]
        rfl
      · rintro e' W2 ⟨rfl, hb2⟩
        exact ⟨_, rfl, ⟨_, rfl, hI.step (phC_mono l ms) hb2 11 _ (by simp) (fun u hu => by first | (cases hu; rfl) | cases hu) (trivial)⟩⟩
    · intro a W d V hI hd hpx hbk hf hp
      have hO' : Below a4.heap.size a4 W := hI.be
      refine RU.ob_val (v := .bool true) rfl (RU.wanted_none rfl) (fun ev he hc => ?_) ⟨_, rfl, hI.step (phC_mono l ms) (Below.refl _ _) 12 _ (by simp) (fun u hu => by first | (cases hu; rfl) | cases hu) (trivial)⟩
      have q46 : ev (.tmp 46) = .int .i64 e2 := (he (.tmp 46)).trans ((hp 6 46 rfl).trans (hI.kn 6 _ rfl (hpx 6 rfl)))
      have q51 : ev (.tmp 51) = .int .i64 e2 := (he (.tmp 51)).trans ((hp 11 51 rfl).trans (hI.kn 11 _ rfl (hpx 11 rfl)))
      simp only [List.getElem_toArray, List.getElem_cons_succ, List.getElem_cons_zero, execOp, Option.map_some, Option.map_none]; rw [q46, q51]
      first | (go_simp; done) | (go_simp; rfl) | (go_simp; simp; done) | rfl
    · intro a W d V hI hd hpx hbk hf hp
      have hO' : Below a4.heap.size a4 W := hI.be
      refine RU.ob_val (v := .bool true) rfl (RU.wanted_none rfl) (fun ev he hc => ?_) ⟨_, rfl, hI.step (phC_mono l ms) (Below.refl _ _) 13 _ (by simp) (fun u hu => by first | (cases hu; rfl) | cases hu) (trivial)⟩
      have q52 : ev (.tmp 52) = .bool true := (he (.tmp 52)).trans ((hp 12 52 rfl).trans (hI.kn 12 _ rfl (hpx 12 rfl)))
      simp only [List.getElem_toArray, List.getElem_cons_succ, List.getElem_cons_zero, execOp, Option.map_some, Option.map_none]; rw [q52]
      first | (go_simp; done) | (go_simp; rfl) | rfl
    · intro a W d V hI hd hpx hbk hf hp
      have hO' : Below a4.heap.size a4 W := hI.be
      have hg : a.eval (.tmp 53) = .bool true := (hp 13 53 rfl).trans (hI.kn 13 _ rfl (hpx 13 rfl))
      have q9 : a.eval (.tmp 9) = .pointer (some ⟨b9, 0, none⟩) := hf 9 rfl
      exact RU.ob_op rfl (RU.wanted_some rfl rfl rfl hg) (wp_load_mid 31 (.tmp 9) rfl (b9) (0) q9 (bv X) _ (range_below R9.out (Below.tr' GA.out hO') L9.out) Tryd.underlying31 rfl (size_l32 HXL.out) ⟨_, rfl, hI.step (phC_mono l ms) (Below.refl _ _) 14 _ (by simp) (fun u hu => by first | (cases hu; rfl) | cases hu) (trivial)⟩)
    · intro a W d V hI hd hpx hbk hf hp
      have hO' : Below a4.heap.size a4 W := hI.be
      have hg : a.eval (.tmp 53) = .bool true := (hp 13 53 rfl).trans (hI.kn 13 _ rfl (hpx 13 rfl))
      have q5 : a.eval (.tmp 5) = .pointer (some ⟨D + 1, 0, none⟩) := hf 5 rfl
      exact RU.ob_op rfl (RU.wanted_some rfl rfl rfl hg) (wp_load_mid 31 (.tmp 5) rfl (D + 1) (0) q5 (bv af) _ (range_below RA4.out hO' LA4.out) Tryd.underlying31 rfl (size_l32 HAF.out) ⟨_, rfl, hI.step (phC_mono l ms) (Below.refl _ _) 15 _ (by simp) (fun u hu => by first | (cases hu; rfl) | cases hu) (trivial)⟩)
    · intro a W d V hI hd hpx hbk hf hp
      have hO' : Below a4.heap.size a4 W := hI.be
      have hg : a.eval (.tmp 53) = .bool true := (hp 13 53 rfl).trans (hI.kn 13 _ rfl (hpx 13 rfl))
      refine RU.ob_val (v := v) rfl (RU.wanted_some rfl rfl rfl hg) (fun ev he hc => ?_) ⟨_, rfl, hI.step (phC_mono l ms) (Below.refl _ _) 16 _ (by simp) (fun u hu => by first | (cases hu; rfl) | cases hu) (trivial)⟩
      have q2 : ev (.tmp 2) = v := (he (.tmp 2)).trans (hf 2 rfl)
      simp only [List.getElem_toArray, List.getElem_cons_succ, List.getElem_cons_zero, execOp, Option.map_some, Option.map_none]; rw [q2]
      first | (go_simp; done) | (go_simp; rfl) | rfl
    · intro a W d V hI hd hpx hbk hf hp
      have hO' : Below a4.heap.size a4 W := hI.be
      have hg : a.eval (.tmp 53) = .bool true := (hp 13 53 rfl).trans (hI.kn 13 _ rfl (hpx 13 rfl))
      have e56 : a.eval (.tmp 56) = v := (hp 16 56 rfl).trans (hI.kn 16 _ rfl (hpx 16 rfl))
      have hno : ∀ x ∈ ([] : List Al), d x.2.1 = false := by simp
      refine RU.ob_call (g := 14) (args := #[v]) rfl (RU.wanted_some rfl rfl rfl hg) (fun ev he hc => ?_) ((HCN.out W (Below.tr' C4.out hO')).mono ?_)
      · have h56 := (he (.tmp 56)).trans e56
        have hfn := he (.func 14)
        simp only [List.getElem_toArray, List.getElem_cons_succ, List.getElem_cons_zero, execOp, Option.map_some, Option.map_none]
        simp only [resolve, invoke, Sem.run_bind, Sem.run_pure, Result.andThen_ok, List.map_toArray, List.map_cons, List.map_nil, h56, hfn, Act.eval, hc]
        rfl
      · rintro e' W2 ⟨v', rfl, hn2, hb2⟩
        exact ⟨_, rfl, ⟨_, rfl, hI.step (phC_mono l ms) hb2 17 _ (by simp) (fun u hu => by first | (cases hu; rfl) | cases hu) (hn2)⟩⟩
    · intro a W d V hI hd hpx hbk hf hp
      have hO' : Below a4.heap.size a4 W := hI.be
      have hg : a.eval (.tmp 53) = .bool true := (hp 13 53 rfl).trans (hI.kn 13 _ rfl (hpx 13 rfl))
      refine RU.ob_val (v := u) rfl (RU.wanted_some rfl rfl rfl hg) (fun ev he hc => ?_) ⟨_, rfl, hI.step (phC_mono l ms) (Below.refl _ _) 18 _ (by simp) (fun u hu => by first | (cases hu; rfl) | cases hu) (trivial)⟩
      have q3 : ev (.tmp 3) = u := (he (.tmp 3)).trans (hf 3 rfl)
      simp only [List.getElem_toArray, List.getElem_cons_succ, List.getElem_cons_zero, execOp, Option.map_some, Option.map_none]; rw [q3]
      first | (go_simp; done) | (go_simp; rfl) | rfl
    · intro a W d V hI hd hpx hbk hf hp
      have hO' : Below a4.heap.size a4 W := hI.be
      have hg : a.eval (.tmp 53) = .bool true := (hp 13 53 rfl).trans (hI.kn 13 _ rfl (hpx 13 rfl))
      have e58 : a.eval (.tmp 58) = u := (hp 18 58 rfl).trans (hI.kn 18 _ rfl (hpx 18 rfl))
      have hno : ∀ x ∈ ([] : List Al), d x.2.1 = false := by simp
      refine RU.ob_call (g := 11) (args := #[u]) rfl (RU.wanted_some rfl rfl rfl hg) (fun ev he hc => ?_) ((HCL.out W (Below.tr' C4.out hO')).mono ?_)
      · have h58 := (he (.tmp 58)).trans e58
        have hfn := he (.func 11)
        simp only [List.getElem_toArray, List.getElem_cons_succ, List.getElem_cons_zero, execOp, Option.map_some, Option.map_none]
        simp only [resolve, invoke, Sem.run_bind, Sem.run_pure, Result.andThen_ok, List.map_toArray, List.map_cons, List.map_nil, h58, hfn, Act.eval, hc]
        rfl
      · rintro e' W2 ⟨v', rfl, hn2, hb2⟩
        exact ⟨_, rfl, ⟨_, rfl, hI.step (phC_mono l ms) hb2 19 _ (by simp) (fun u hu => by first | (cases hu; rfl) | cases hu) (hn2)⟩⟩
    · intro a W d V hI hd hpx hbk hf hp
      have hO' : Below a4.heap.size a4 W := hI.be
      have hg : a.eval (.tmp 53) = .bool true := (hp 13 53 rfl).trans (hI.kn 13 _ rfl (hpx 13 rfl))
      have e54 : a.eval (.tmp 54) = .agg (bv X).toArray := (hp 14 54 rfl).trans (hI.kn 14 _ rfl (hpx 14 rfl))
      have e55 : a.eval (.tmp 55) = .agg (bv af).toArray := (hp 15 55 rfl).trans (hI.kn 15 _ rfl (hpx 15 rfl))
      have e57 : a.eval (.tmp 57) = V 17 := hp 17 57 rfl
      have e59 : a.eval (.tmp 59) = V 19 := hp 19 59 rfl
      have hno : ∀ x ∈ ([] : List Al), d x.2.1 = false := by simp
      refine RU.ob_call (g := 13) (args := #[.agg (bv X).toArray, .agg (bv af).toArray, V 17, V 19]) rfl (RU.wanted_some rfl rfl rfl hg) (fun ev he hc => ?_) ((HC3.out (V 17) (V 19) W (hI.pr 17 (hpx 17 rfl) hno) (hI.pr 19 (hpx 19 rfl) hno) (Below.tr' C4.out hO')).mono ?_)
      · have h54 := (he (.tmp 54)).trans e54
        have h55 := (he (.tmp 55)).trans e55
        have h57 := (he (.tmp 57)).trans e57
        have h59 := (he (.tmp 59)).trans e59
        have hfn := he (.func 13)
        simp only [List.getElem_toArray, List.getElem_cons_succ, List.getElem_cons_zero, execOp, Option.map_some, Option.map_none]
        simp only [resolve, invoke, Sem.run_bind, Sem.run_pure, Result.andThen_ok, List.map_toArray, List.map_cons, List.map_nil, h54, h55, h57, h59, hfn, Act.eval, hc]
        rfl
      · rintro e' W2 ⟨rfl, hb2⟩
        exact ⟨_, rfl, ⟨_, rfl, hI.step (phC_mono l ms) hb2 20 _ (by simp) (fun u hu => by first | (cases hu; rfl) | cases hu) (trivial)⟩⟩
    · intro a W d V hI hd hpx hbk hf hp
      have hO' : Below a4.heap.size a4 W := hI.be
      have hg : a.eval (.tmp 53) = .bool true := (hp 13 53 rfl).trans (hI.kn 13 _ rfl (hpx 13 rfl))
      have q9 : a.eval (.tmp 9) = .pointer (some ⟨b9, 0, none⟩) := hf 9 rfl
      exact RU.ob_op rfl (RU.wanted_some rfl rfl rfl hg) (wp_load_mid 31 (.tmp 9) rfl (b9) (0) q9 (bv X) _ (range_below R9.out (Below.tr' GA.out hO') L9.out) Tryd.underlying31 rfl (size_l32 HXL.out) ⟨_, rfl, hI.step (phC_mono l ms) (Below.refl _ _) 21 _ (by simp) (fun u hu => by first | (cases hu; rfl) | cases hu) (trivial)⟩)
    · intro a W d V hI hd hpx hbk hf hp
      have hO' : Below a4.heap.size a4 W := hI.be
      have hg : a.eval (.tmp 53) = .bool true := (hp 13 53 rfl).trans (hI.kn 13 _ rfl (hpx 13 rfl))
      have q5 : a.eval (.tmp 5) = .pointer (some ⟨D + 1, 0, none⟩) := hf 5 rfl
      exact RU.ob_op rfl (RU.wanted_some rfl rfl rfl hg) (wp_load_mid 31 (.tmp 5) rfl (D + 1) (0) q5 (bv af) _ (range_below RA4.out hO' LA4.out) Tryd.underlying31 rfl (size_l32 HAF.out) ⟨_, rfl, hI.step (phC_mono l ms) (Below.refl _ _) 22 _ (by simp) (fun u hu => by first | (cases hu; rfl) | cases hu) (trivial)⟩)
    · intro a W d V hI hd hpx hbk hf hp
      have hO' : Below a4.heap.size a4 W := hI.be
      have hg : a.eval (.tmp 53) = .bool true := (hp 13 53 rfl).trans (hI.kn 13 _ rfl (hpx 13 rfl))
      refine RU.ob_val (v := v) rfl (RU.wanted_some rfl rfl rfl hg) (fun ev he hc => ?_) ⟨_, rfl, hI.step (phC_mono l ms) (Below.refl _ _) 23 _ (by simp) (fun u hu => by first | (cases hu; rfl) | cases hu) (trivial)⟩
      have q2 : ev (.tmp 2) = v := (he (.tmp 2)).trans (hf 2 rfl)
      simp only [List.getElem_toArray, List.getElem_cons_succ, List.getElem_cons_zero, execOp, Option.map_some, Option.map_none]; rw [q2]
      first | (go_simp; done) | (go_simp; rfl) | rfl
    · intro a W d V hI hd hpx hbk hf hp
      have hO' : Below a4.heap.size a4 W := hI.be
      have hg : a.eval (.tmp 53) = .bool true := (hp 13 53 rfl).trans (hI.kn 13 _ rfl (hpx 13 rfl))
      refine RU.ob_val (v := u) rfl (RU.wanted_some rfl rfl rfl hg) (fun ev he hc => ?_) ⟨_, rfl, hI.step (phC_mono l ms) (Below.refl _ _) 24 _ (by simp) (fun u hu => by first | (cases hu; rfl) | cases hu) (trivial)⟩
      have q3 : ev (.tmp 3) = u := (he (.tmp 3)).trans (hf 3 rfl)
      simp only [List.getElem_toArray, List.getElem_cons_succ, List.getElem_cons_zero, execOp, Option.map_some, Option.map_none]; rw [q3]
      first | (go_simp; done) | (go_simp; rfl) | rfl
    · intro a W d V hI hd hpx hbk hf hp
      have hO' : Below a4.heap.size a4 W := hI.be
      have hg : a.eval (.tmp 53) = .bool true := (hp 13 53 rfl).trans (hI.kn 13 _ rfl (hpx 13 rfl))
      have e61 : a.eval (.tmp 61) = .agg (bv X).toArray := (hp 21 61 rfl).trans (hI.kn 21 _ rfl (hpx 21 rfl))
      have e62 : a.eval (.tmp 62) = .agg (bv af).toArray := (hp 22 62 rfl).trans (hI.kn 22 _ rfl (hpx 22 rfl))
      have e63 : a.eval (.tmp 63) = v := (hp 23 63 rfl).trans (hI.kn 23 _ rfl (hpx 23 rfl))
      have e64 : a.eval (.tmp 64) = u := (hp 24 64 rfl).trans (hI.kn 24 _ rfl (hpx 24 rfl))
      have hno : ∀ x ∈ ([] : List Al), d x.2.1 = false := by simp
      refine RU.ob_call (g := 15) (args := #[.agg (bv X).toArray, .agg (bv af).toArray, v, u]) rfl (RU.wanted_some rfl rfl rfl hg) (fun ev he hc => ?_) ((HR3.out W (Below.tr' C4.out hO')).mono ?_)
      · have h61 := (he (.tmp 61)).trans e61
        have h62 := (he (.tmp 62)).trans e62
        have h63 := (he (.tmp 63)).trans e63
        have h64 := (he (.tmp 64)).trans e64
        have hfn := he (.func 15)
        simp only [List.getElem_toArray, List.getElem_cons_succ, List.getElem_cons_zero, execOp, Option.map_some, Option.map_none]
        simp only [resolve, invoke, Sem.run_bind, Sem.run_pure, Result.andThen_ok, List.map_toArray, List.map_cons, List.map_nil, h61, h62, h63, h64, hfn, Act.eval, hc]
        rfl
      · rintro e' W2 ⟨rfl, hb2⟩
        exact ⟨_, rfl, ⟨_, rfl, hI.step (phC_mono l ms) hb2 25 _ (by simp) (fun u hu => by first | (cases hu; rfl) | cases hu) (trivial)⟩⟩
    · intro a W d V hI hd hpx hbk hf hp
      have hO' : Below a4.heap.size a4 W := hI.be
      have hg : a.eval (.tmp 53) = .bool true := (hp 13 53 rfl).trans (hI.kn 13 _ rfl (hpx 13 rfl))
      refine RU.ob_val (v := .bool true) rfl (RU.wanted_some rfl rfl rfl hg) (fun ev he hc => ?_) ⟨_, rfl, hI.step (phC_mono l ms) (Below.refl _ _) 26 _ (by simp) (fun u hu => by first | (cases hu; rfl) | cases hu) (trivial)⟩
      have q60 : ev (.tmp 60) = .int .i64 e3 := (he (.tmp 60)).trans ((hp 20 60 rfl).trans (hI.kn 20 _ rfl (hpx 20 rfl)))
      have q65 : ev (.tmp 65) = .int .i64 e3 := (he (.tmp 65)).trans ((hp 25 65 rfl).trans (hI.kn 25 _ rfl (hpx 25 rfl)))
      simp only [List.getElem_toArray, List.getElem_cons_succ, List.getElem_cons_zero, execOp, Option.map_some, Option.map_none]; rw [q60, q65]
      first | (go_simp; done) | (go_simp; rfl) | (go_simp; simp; done) | rfl
    · intro a W d V hI hd hpx hbk hf hp
      have hO' : Below a4.heap.size a4 W := hI.be
      refine RU.ob_val (v := .bool true) rfl (RU.wanted_none rfl) (fun ev he hc => ?_) ⟨_, rfl, hI.step (phC_mono l ms) (Below.refl _ _) 27 _ (by simp) (fun u hu => by first | (cases hu; rfl) | cases hu) (trivial)⟩
      have q53 : ev (.tmp 53) = .bool true := (he (.tmp 53)).trans ((hp 13 53 rfl).trans (hI.kn 13 _ rfl (hpx 13 rfl)))
      have q66 : ev (.tmp 66) = .bool true := (he (.tmp 66)).trans ((hp 26 66 rfl).trans (hI.kn 26 _ rfl (hpx 26 rfl)))
      simp only [List.getElem_toArray, List.getElem_cons_succ, List.getElem_cons_zero, execOp, Option.map_some, Option.map_none]; rw [q53, q66]
      try simp only [hc]
      first | (go_simp; done) | (go_simp; rfl) | rfl
    · intro a W d V hI hd hpx hbk hf hp
      have hO' : Below a4.heap.size a4 W := hI.be
      refine RU.ob_val (v := .bool true) rfl (RU.wanted_none rfl) (fun ev he hc => ?_) ⟨_, rfl, hI.step (phC_mono l ms) (Below.refl _ _) 28 _ (by simp) (fun u hu => by first | (cases hu; rfl) | cases hu) (trivial)⟩
      have q67 : ev (.tmp 67) = .bool true := (he (.tmp 67)).trans ((hp 27 67 rfl).trans (hI.kn 27 _ rfl (hpx 27 rfl)))
      simp only [List.getElem_toArray, List.getElem_cons_succ, List.getElem_cons_zero, execOp, Option.map_some, Option.map_none]; rw [q67]
      first | (go_simp; done) | (go_simp; rfl) | rfl
  intro w9 dw9 Vw9 hal hI
  have Bw9 : Hid (Below a4.heap.size a4 w9) := hI.be
  have hs0 : Vw9 0 = .agg (bv X).toArray := hI.kn 0 _ rfl (hal 0 (by decide))
  have hs1 : Vw9 1 = .agg (bv Y).toArray := hI.kn 1 _ rfl (hal 1 (by decide))
  have hs2 : Vw9 2 = v := hI.kn 2 _ rfl (hal 2 (by decide))
  obtain ⟨u3, hs3⟩ : ∃ u, Vw9 3 = u := ⟨_, rfl⟩
  have P3w9 : Hid ((phC l ms) 3 u3 w9) := by rw [← hs3]; exact hI.pr 3 (hal 3 (by decide)) (by simp)
  have hs4 : Vw9 4 = u := hI.kn 4 _ rfl (hal 4 (by decide))
  obtain ⟨u5, hs5⟩ : ∃ u, Vw9 5 = u := ⟨_, rfl⟩
  have P5w9 : Hid ((phC l ms) 5 u5 w9) := by rw [← hs5]; exact hI.pr 5 (hal 5 (by decide)) (by simp)
  have hs6 : Vw9 6 = .int .i64 e2 := hI.kn 6 _ rfl (hal 6 (by decide))
  have hs7 : Vw9 7 = .agg (bv X).toArray := hI.kn 7 _ rfl (hal 7 (by decide))
  have hs8 : Vw9 8 = .agg (bv Y).toArray := hI.kn 8 _ rfl (hal 8 (by decide))
  have hs9 : Vw9 9 = v := hI.kn 9 _ rfl (hal 9 (by decide))
  have hs10 : Vw9 10 = u := hI.kn 10 _ rfl (hal 10 (by decide))
  have hs11 : Vw9 11 = .int .i64 e2 := hI.kn 11 _ rfl (hal 11 (by decide))
  have hs12 : Vw9 12 = .bool true := hI.kn 12 _ rfl (hal 12 (by decide))
  have hs13 : Vw9 13 = .bool true := hI.kn 13 _ rfl (hal 13 (by decide))
  have hs14 : Vw9 14 = .agg (bv X).toArray := hI.kn 14 _ rfl (hal 14 (by decide))
  have hs15 : Vw9 15 = .agg (bv af).toArray := hI.kn 15 _ rfl (hal 15 (by decide))
  have hs16 : Vw9 16 = v := hI.kn 16 _ rfl (hal 16 (by decide))
  obtain ⟨u17, hs17⟩ : ∃ u, Vw9 17 = u := ⟨_, rfl⟩
  have P17w9 : Hid ((phC l ms) 17 u17 w9) := by rw [← hs17]; exact hI.pr 17 (hal 17 (by decide)) (by simp)
  have hs18 : Vw9 18 = u := hI.kn 18 _ rfl (hal 18 (by decide))
  obtain ⟨u19, hs19⟩ : ∃ u, Vw9 19 = u := ⟨_, rfl⟩
  have P19w9 : Hid ((phC l ms) 19 u19 w9) := by rw [← hs19]; exact hI.pr 19 (hal 19 (by decide)) (by simp)
  have hs20 : Vw9 20 = .int .i64 e3 := hI.kn 20 _ rfl (hal 20 (by decide))
  have hs21 : Vw9 21 = .agg (bv X).toArray := hI.kn 21 _ rfl (hal 21 (by decide))
  have hs22 : Vw9 22 = .agg (bv af).toArray := hI.kn 22 _ rfl (hal 22 (by decide))
  have hs23 : Vw9 23 = v := hI.kn 23 _ rfl (hal 23 (by decide))
  have hs24 : Vw9 24 = u := hI.kn 24 _ rfl (hal 24 (by decide))
  have hs25 : Vw9 25 = .int .i64 e3 := hI.kn 25 _ rfl (hal 25 (by decide))
  have hs26 : Vw9 26 = .bool true := hI.kn 26 _ rfl (hal 26 (by decide))
  have hs27 : Vw9 27 = .bool true := hI.kn 27 _ rfl (hal 27 (by decide))
  have hs28 : Vw9 28 = .bool true := hI.kn 28 _ rfl (hal 28 (by decide))
  simp only [RU.lay, Act.put, hs0, hs1, hs2, hs3, hs4, hs5, hs6, hs7, hs8, hs9, hs10, hs11, hs12, hs13, hs14, hs15, hs16, hs17, hs18, hs19, hs20, hs21, hs22, hs23, hs24, hs25, hs26, hs27, hs28]
  simp only [List.setIfInBounds_toArray, List.set_cons_succ, List.set_cons_zero]
  clear hI hal hs0 hs1 hs2 hs3 hs4 hs5 hs6 hs7 hs8 hs9 hs10 hs11 hs12 hs13 hs14 hs15 hs16 hs17 hs18 hs19 hs20 hs21 hs22 hs23 hs24 hs25 hs26 hs27 hs28
  have C9 : Hid (Below w.heap.size w w9) := Below.tr' BU.out (Below.tr' C4.out Bw9.out)
  go_wp2_with fail
  go_ret
  exact ⟨rfl, C9.out⟩
end Go.Proofs.YtpojalbpekbfdaaDoor
