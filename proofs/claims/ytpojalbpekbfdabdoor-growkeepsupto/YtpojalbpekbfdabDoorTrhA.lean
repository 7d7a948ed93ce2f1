/- The reference: LeafNode. -/
import Derived.Test.YtpojalbpekbfdabDoorTrmC
import Derived.Test.YtpojalbpekbfdabDoorTrrK
import Derived.Test.YtpojalbpekbfdabDoorTraB
namespace Go.Proofs.YtpojalbpekbfdabDoor
open Go Go.RowKit
set_option linter.unusedSimpArgs false
set_option linter.unusedVariables false
set_option maxRecDepth 100000

def phL (p q : List Int) : Nat → Value → World → Prop
  | 2, v, W => Sl W v [1]
  | 7, v, W => LL W v [[1], p, q]
  | 8, v, W => Sq W v ([1] ++ p ++ q)
  | _, _, _ => True
theorem phL_mono (p q : List Int) : ∀ i v W W', phL p q i v W → Below W.heap.size W W' → phL p q i v W' := by
  intro i v W W' h hb
  by_cases q2 : i = 2
  · subst q2; exact Sl.below h hb (Nat.le_refl _)
  · by_cases q7 : i = 7
    · subst q7; exact LL.below h hb
    · by_cases q8 : i = 8
      · subst q8; exact Sq.below h hb
      · unfold phL
        split
        · exact absurd rfl q2
        · exact absurd rfl q7
        · exact absurd rfl q8
        · trivial
def rlf1f (D : Nat) (p H : List Int) : Nat → Option Value
  | 0 => some (.pointer (some ⟨D, 0, none⟩))
  | 1 => some (.agg (bv p).toArray)
  | 3 => some (.pointer (some ⟨D, 0, none⟩))
  | 4 => some (.slice (some ⟨D, 0, none⟩) 32 32)
  | 5 => some (.pointer (some ⟨D, 32, none⟩))
  | 6 => some (.slice (some ⟨D, 32, none⟩) 32 32)
  | 9 => some (.agg (bv H).toArray)
  | 10 => some (.agg (nc ⟨256, p, H⟩).toArray)
  | _ => none
set_option maxHeartbeats 4000000 in
theorem rLeafNode_any (p q : List Int) (hp : L32 p) (hq : L32 q) (w : World) :
    Calls Tryd.prog 27 #[.agg (lf p q).toArray] w fun e w' => e = .returned (.agg (nc (lnd p q)).toArray) ∧ Below w.heap.size w w' := by
  have hz := zero_nd
  have ra := range_alloc w (lf p q) 27 (0, 0)
  have s1 : (lf p q).toArray.size = 64 := by rw [List.size_toArray]; exact lf_length hp hq
  obtain ⟨A, hA⟩ : ∃ A, (lf p q).toArray = A := ⟨_, rfl⟩
  obtain ⟨Z, hZ⟩ : ∃ Z, (nc ndz).toArray = Z := ⟨_, rfl⟩
  have hZs : Z.size = 65 := by rw [← hZ]; exact nc_size ndz_ok
  rw [hA] at ra s1 ⊢
  rw [hZ] at hz
  obtain ⟨U, hU⟩ : ∃ U, (w.alloc (.cells A 27)).alloc (.cells Z 33) = U := ⟨_, rfl⟩
  have sU : U.heap.size = w.heap.size + 2 := by rw [← hU]; simp
  have bU : Below w.heap.size w U := by rw [← hU]; exact ((Below.refl _ w).alloc (Nat.le_refl _) _).alloc (by simp) _
  have rz : U.heap[w.heap.size + 1]? = some (.cells Z 33 (0, 0)) := by rw [← hU]; show ((w.heap.push _).push _)[w.heap.size + 1]? = _; rw [Array.getElem?_push, if_pos (by simp)]
  have rp : U.rangeAt w.heap.size 0 (lf p q) := by rw [← hU]; exact range_below ra ((Below.refl _ _).alloc (Nat.le_refl _) _) (by simp)
  obtain ⟨H, hH⟩ : ∃ H, hs ([1] ++ p ++ q) = H := ⟨_, rfl⟩
  have HJ' : Hid (lnd p q = ⟨256, p, H⟩) := by show lnd p q = _; unfold lnd; rw [hH]
  have HHL : Hid (L32 H) := by rw [← hH]; exact hs_l32 _
  have HP : Hid (L32 p) := hp
  have HQ : Hid (L32 q) := hq
  have HBN : Hid (∀ W : World, (Instr.build 33 #[(0, .int .i64 256), (1, .agg (bv p).toArray), (2, .agg (bv H).toArray)]).run Tryd.prog W = .ok (.agg (nc ⟨256, p, H⟩).toArray) W) := build_nd 256 HP.out HHL.out
  have HSU : Hid (∀ (v : Value) (W : World), Sq W v ([1] ++ p ++ q) → Calls Tryd.prog 44 #[v] W fun e w' => e = .returned (.agg (bv H).toArray) ∧ Below W.heap.size W w') := fun v W h2 => rsum_sl _ H v hH (by rw [List.length_append, List.length_append, hp.len, hq.len]; simp) W (Byt.append (Byt.append (fun z hz => by simp at hz; omega) hp.byt) hq.byt) h2
  have HL : Hid (∀ i, i < [[1], p, q].length → (mi [[1], p, q] i).length ≤ 1048576) := fun i hi => by
    match i, hi with
    | 0, _ => show 1 ≤ _; omega
    | 1, _ => show p.length ≤ _; rw [hp.len]; omega
    | 2, _ => show q.length ≤ _; rw [hq.len]; omega
  have HJ : Hid (jo [[1], p, q] [[1], p, q].length = [1] ++ p ++ q) := rfl
  have BU : Hid (Below w.heap.size w U) := bU
  obtain ⟨D, hD⟩ : ∃ D, w.heap.size = D := ⟨_, rfl⟩
  have HD : Hid (w.heap.size = D) := hD
  rw [hD] at sU rz rp
  have SU : Hid (U.heap.size = D + 2) := sU
  have RP : Hid (U.rangeAt D 0 (bv p)) := lf_p rp
  have RQ : Hid (U.rangeAt D 32 (bv q)) := by have := lf_q hp rp; rw [Nat.zero_add] at this; exact this
  have hDX : Hid (D < U.heap.size) := by show D < _; omega
  have HTH : Hid (∀ W : World, Below U.heap.size U W → W.there (D + 1) 0 65) := fun W B1 => there_of_row' ((B1.block _ (by have := SU.out; omega)).trans rz) 0 65 (by omega)
  clear ra sU bU rp hA hZ hH hp hq
  go_enter Tryd.func27, Tryd.ntmps27
  go_upto_region 1 with (fail)
  try rw [hU]
  try rw [hD]
  clear hU hD hz rz
  refine RG.wp_rgn' (GL U (rlf1f D p H) (phL p q) [] 11 (D + 1) (0) (nc ⟨256, p, H⟩)) (by kernel_rfl) (by kernel_rfl) GL.start ?_ ?_
  · refine ⟨?_, ?_, ?_, ?_, ?_, ?_, ?_, ?_, ?_, ?_, ?_, ?_, trivial⟩
    · refine GL.ob rfl ?_
      intro a W d V hI hd hpx hbk hf hp
      have hO' : Below U.heap.size U W := hI.be
      refine RU.ob_val (v := .pointer (some ⟨D, 0, none⟩)) rfl (RU.wanted_none rfl) (fun ev he hc => ?_) ⟨_, rfl, hI.step (phL_mono p q) (Below.refl _ _) 0 _ (by simp) (fun u hu => by first | (cases hu; rfl) | cases hu) (trivial)⟩
      have q1 : ev (.tmp 1) = .pointer (some ⟨D, 0, none⟩) := (he (.tmp 1)).trans (hf 1 rfl)
      simp only [List.getElem_toArray, List.getElem_cons_succ, List.getElem_cons_zero, execOp, Option.map_some, Option.map_none]; rw [q1]
      first | (go_simp; done) | (go_simp; rfl) | rfl
    · refine GL.ob rfl ?_
      intro a W d V hI hd hpx hbk hf hp
      have hO' : Below U.heap.size U W := hI.be
      have q3 : a.eval (.tmp 3) = .pointer (some ⟨D, 0, none⟩) := (hp 0 3 rfl).trans (hI.kn 0 _ rfl (hpx 0 rfl))
      exact RU.ob_op rfl (RU.wanted_none rfl) (wp_load_mid 25 (.tmp 3) rfl (D) (0) q3 (bv p) _ (range_below RP.out hO' hDX.out) Tryd.underlying25 rfl (size_l32 HP.out) ⟨_, rfl, hI.step (phL_mono p q) (Below.refl _ _) 1 _ (by simp) (fun u hu => by first | (cases hu; rfl) | cases hu) (trivial)⟩)
    · refine GL.ob rfl ?_
      intro a W d V hI hd hpx hbk hf hp
      have hO' : Below U.heap.size U W := hI.be
      have hb : Below W.heap.size W (W.alloc (.cells #[.int .u8 1] 5)) := (Below.refl _ W).alloc (Nat.le_refl _) _
      refine RU.ob_run (v := .slice (some ⟨W.heap.size, 0, none⟩) 1 1) (w' := W.alloc (.cells #[.int .u8 1] 5)) rfl (RU.wanted_none rfl) (fun ev he hc => ?_) ⟨_, rfl, hI.step (phL_mono p q) hb 2 _ (by simp) (fun u hu => by cases hu) (Sl.one W 1 _)⟩
      simp only [List.getElem_toArray, List.getElem_cons_succ, List.getElem_cons_zero, execOp]
      simp only [List.map_toArray, List.map_cons, List.map_nil, hc]
      go_simp
    · refine GL.ob rfl ?_
      intro a W d V hI hd hpx hbk hf hp
      have hO' : Below U.heap.size U W := hI.be
      refine RU.ob_val (v := .pointer (some ⟨D, 0, none⟩)) rfl (RU.wanted_none rfl) (fun ev he hc => ?_) ⟨_, rfl, hI.step (phL_mono p q) (Below.refl _ _) 3 _ (by simp) (fun u hu => by first | (cases hu; rfl) | cases hu) (trivial)⟩
      have q1 : ev (.tmp 1) = .pointer (some ⟨D, 0, none⟩) := (he (.tmp 1)).trans (hf 1 rfl)
      simp only [List.getElem_toArray, List.getElem_cons_succ, List.getElem_cons_zero, execOp, Option.map_some, Option.map_none]; rw [q1]
      first | (go_simp; done) | (go_simp; rfl) | rfl
    · refine GL.ob rfl ?_
      intro a W d V hI hd hpx hbk hf hp
      have hO' : Below U.heap.size U W := hI.be
      refine RU.ob_val (v := .slice (some ⟨D, 0, none⟩) 32 32) rfl (RU.wanted_none rfl) (fun ev he hc => ?_) ⟨_, rfl, hI.step (phL_mono p q) (Below.refl _ _) 4 _ (by simp) (fun u hu => by first | (cases hu; rfl) | cases hu) (trivial)⟩
      have q6 : ev (.tmp 6) = .pointer (some ⟨D, 0, none⟩) := (he (.tmp 6)).trans ((hp 3 6 rfl).trans (hI.kn 3 _ rfl (hpx 3 rfl)))
      simp only [List.getElem_toArray, List.getElem_cons_succ, List.getElem_cons_zero, execOp, Option.map_some, Option.map_none]; rw [q6]
      first | (go_simp; done) | (go_simp; rfl) | rfl
    · refine GL.ob rfl ?_
      intro a W d V hI hd hpx hbk hf hp
      have hO' : Below U.heap.size U W := hI.be
      refine RU.ob_val (v := .pointer (some ⟨D, 32, none⟩)) rfl (RU.wanted_none rfl) (fun ev he hc => ?_) ⟨_, rfl, hI.step (phL_mono p q) (Below.refl _ _) 5 _ (by simp) (fun u hu => by first | (cases hu; rfl) | cases hu) (trivial)⟩
      have q1 : ev (.tmp 1) = .pointer (some ⟨D, 0, none⟩) := (he (.tmp 1)).trans (hf 1 rfl)
      simp only [List.getElem_toArray, List.getElem_cons_succ, List.getElem_cons_zero, execOp, Option.map_some, Option.map_none]; rw [q1]
      first | (go_simp; done) | (go_simp; rfl) | rfl
    · refine GL.ob rfl ?_
      intro a W d V hI hd hpx hbk hf hp
      have hO' : Below U.heap.size U W := hI.be
      refine RU.ob_val (v := .slice (some ⟨D, 32, none⟩) 32 32) rfl (RU.wanted_none rfl) (fun ev he hc => ?_) ⟨_, rfl, hI.step (phL_mono p q) (Below.refl _ _) 6 _ (by simp) (fun u hu => by first | (cases hu; rfl) | cases hu) (trivial)⟩
      have q8 : ev (.tmp 8) = .pointer (some ⟨D, 32, none⟩) := (he (.tmp 8)).trans ((hp 5 8 rfl).trans (hI.kn 5 _ rfl (hpx 5 rfl)))
      simp only [List.getElem_toArray, List.getElem_cons_succ, List.getElem_cons_zero, execOp, Option.map_some, Option.map_none]; rw [q8]
      first | (go_simp; done) | (go_simp; rfl) | rfl
    · refine GL.ob rfl ?_
      intro a W d V hI hd hpx hbk hf hp
      have hO' : Below U.heap.size U W := hI.be
      have e5 : a.eval (.tmp 5) = V 2 := hp 2 5 rfl
      have e7 : a.eval (.tmp 7) = .slice (some ⟨D, 0, none⟩) 32 32 := (hp 4 7 rfl).trans (hI.kn 4 _ rfl (hpx 4 rfl))
      have e9 : a.eval (.tmp 9) = .slice (some ⟨D, 32, none⟩) 32 32 := (hp 6 9 rfl).trans (hI.kn 6 _ rfl (hpx 6 rfl))
      have q0 : Sl W (V 2) [1] := hI.pr 2 (hpx 2 rfl) (by simp)
      have q2 : Sl W (.slice (some ⟨D, 0, none⟩) 32 32) p := sl_range HP.out (range_below RP.out hO' hDX.out) (Nat.lt_of_lt_of_le hDX.out hO'.size)
      have q4 : Sl W (.slice (some ⟨D, 32, none⟩) 32 32) q := sl_range HQ.out (range_below RQ.out hO' hDX.out) (Nat.lt_of_lt_of_le hDX.out hO'.size)
      obtain ⟨a0, c0, hv0, -, -⟩ := id q0
      have hb : Below W.heap.size W (W.alloc (.cells #[V 2, .slice (some ⟨D, 0, none⟩) 32 32, .slice (some ⟨D, 32, none⟩) 32 32] 51)) := (Below.refl _ W).alloc (Nat.le_refl _) _
      refine RU.ob_run (v := .slice (some ⟨W.heap.size, 0, none⟩) 3 3) (w' := W.alloc (.cells #[V 2, .slice (some ⟨D, 0, none⟩) 32 32, .slice (some ⟨D, 32, none⟩) 32 32] 51)) rfl (RU.wanted_none rfl) (fun ev he hc => ?_) ⟨_, rfl, hI.step (phL_mono p q) hb 7 _ (by simp) (fun u hu => by cases hu) (ll_three _ q0 q2 q4)⟩
      have h5 := (he (.tmp 5)).trans e5
      have h7 := (he (.tmp 7)).trans e7
      have h9 := (he (.tmp 9)).trans e9
      simp only [List.getElem_toArray, List.getElem_cons_succ, List.getElem_cons_zero, execOp]
      simp only [List.map_toArray, List.map_cons, List.map_nil, h5, h7, h9]
      rw [hv0]
      go_simp
    · refine GL.ob rfl ?_
      intro a W d V hI hd hpx hbk hf hp
      have hO' : Below U.heap.size U W := hI.be
      have e10 : a.eval (.tmp 10) = V 7 := hp 7 10 rfl
      have hno : ∀ x ∈ ([] : List Al), d x.2.1 = false := by simp
      refine RU.ob_call (g := 45) (args := #[V 7]) rfl (RU.wanted_none rfl) (fun ev he hc => ?_) ((rJoin_any _ (V 7) W (hI.pr 7 (hpx 7 rfl) hno) HL.out (by simp)).mono ?_)
      · have h10 := (he (.tmp 10)).trans e10
        have hfn := he (.func 45)
        simp only [List.getElem_toArray, List.getElem_cons_succ, List.getElem_cons_zero, execOp, Option.map_some, Option.map_none]
        simp only [resolve, invoke, Sem.run_bind, Sem.run_pure, Result.andThen_ok, List.map_toArray, List.map_cons, List.map_nil, h10, hfn, Act.eval, hc]
        rfl
      · rintro e' W2 ⟨v', rfl, g1, hb2⟩
        exact ⟨_, rfl, ⟨_, rfl, hI.step (phL_mono p q) hb2 8 _ (by simp) (fun u hu => by first | (cases hu; rfl) | cases hu) ((by have := g1.sq; rw [HJ.out] at this; exact this))⟩⟩
    · refine GL.ob rfl ?_
      intro a W d V hI hd hpx hbk hf hp
      have hO' : Below U.heap.size U W := hI.be
      have e11 : a.eval (.tmp 11) = V 8 := hp 8 11 rfl
      have hno : ∀ x ∈ ([] : List Al), d x.2.1 = false := by simp
      refine RU.ob_call (g := 44) (args := #[V 8]) rfl (RU.wanted_none rfl) (fun ev he hc => ?_) ((HSU.out (V 8) W (hI.pr 8 (hpx 8 rfl) hno)).mono ?_)
      · have h11 := (he (.tmp 11)).trans e11
        have hfn := he (.func 44)
        simp only [List.getElem_toArray, List.getElem_cons_succ, List.getElem_cons_zero, execOp, Option.map_some, Option.map_none]
        simp only [resolve, invoke, Sem.run_bind, Sem.run_pure, Result.andThen_ok, List.map_toArray, List.map_cons, List.map_nil, h11, hfn, Act.eval, hc]
        rfl
      · rintro e' W2 ⟨rfl, hb2⟩
        exact ⟨_, rfl, ⟨_, rfl, hI.step (phL_mono p q) hb2 9 _ (by simp) (fun u hu => by first | (cases hu; rfl) | cases hu) (trivial)⟩⟩
    · refine GL.ob rfl ?_
      intro a W d V hI hd hpx hbk hf hp
      have hO' : Below U.heap.size U W := hI.be
      refine RU.ob_val (v := .agg (nc ⟨256, p, H⟩).toArray) rfl (RU.wanted_none rfl) (fun ev he hc => ?_) ⟨_, rfl, hI.step (phL_mono p q) (Below.refl _ _) 10 _ (by simp) (fun u hu => by first | (cases hu; rfl) | cases hu) trivial⟩
      have q4 : ev (.tmp 4) = .agg (bv p).toArray := (he (.tmp 4)).trans ((hp 1 4 rfl).trans (hI.kn 1 _ rfl (hpx 1 rfl)))
      have q12 : ev (.tmp 12) = .agg (bv H).toArray := (he (.tmp 12)).trans ((hp 9 12 rfl).trans (hI.kn 9 _ rfl (hpx 9 rfl)))
      simp only [List.getElem_toArray, List.getElem_cons_succ, List.getElem_cons_zero, execOp, List.map_toArray, List.map_cons, List.map_nil, hc, q4, q12, Sem.run_bind, HBN.out W, Result.andThen_ok, Sem.run_pure]
    · refine GL.obs (fun a W d V hI hd hpx hbk hf hp => ?_)
      have hO' : Below U.heap.size U W := hI.be
      have qp : a.eval (.tmp 2) = .pointer (some ⟨D + 1, 0, none⟩) := hf 2 rfl
      have qv : a.eval (.tmp 13) = .agg (nc ⟨256, p, H⟩).toArray := (hp 10 13 rfl).trans (hI.kn 10 _ rfl (hpx 10 rfl))
      exact RU.ob_op rfl (RU.wanted_none rfl) (wp_store_mid 33 (.tmp 2) (.tmp 13) rfl (D + 1) (0) (nc ⟨256, p, H⟩).toArray qp qv (by rw [List.size_toArray, nc_length ⟨HP.out, HHL.out⟩]; exact HTH.out W hO') (by rw [List.size_toArray]; exact size_nc ⟨HP.out, HHL.out⟩) (nc_one _) ⟨_, rfl, by simp only [List.toList_toArray]; exact GL.stored hI rfl _⟩)
  intro W1x dW1 VW1 hal hG
  obtain ⟨hK, W1, W1y, hyW1⟩ := hG.fin (hal 11 (by decide))
  subst hyW1
  have BW1 : Hid (Below U.heap.size U W1) := W1y
  have hs0 : VW1 0 = .pointer (some ⟨D, 0, none⟩) := hK 0 _ rfl (hal 0 (by decide))
  have hs1 : VW1 1 = .agg (bv p).toArray := hK 1 _ rfl (hal 1 (by decide))
  obtain ⟨u2, hs2⟩ : ∃ u, VW1 2 = u := ⟨_, rfl⟩
  have hs3 : VW1 3 = .pointer (some ⟨D, 0, none⟩) := hK 3 _ rfl (hal 3 (by decide))
  have hs4 : VW1 4 = .slice (some ⟨D, 0, none⟩) 32 32 := hK 4 _ rfl (hal 4 (by decide))
  have hs5 : VW1 5 = .pointer (some ⟨D, 32, none⟩) := hK 5 _ rfl (hal 5 (by decide))
  have hs6 : VW1 6 = .slice (some ⟨D, 32, none⟩) 32 32 := hK 6 _ rfl (hal 6 (by decide))
  obtain ⟨u7, hs7⟩ : ∃ u, VW1 7 = u := ⟨_, rfl⟩
  obtain ⟨u8, hs8⟩ : ∃ u, VW1 8 = u := ⟨_, rfl⟩
  have hs9 : VW1 9 = .agg (bv H).toArray := hK 9 _ rfl (hal 9 (by decide))
  have hs10 : VW1 10 = .agg (nc ⟨256, p, H⟩).toArray := hK 10 _ rfl (hal 10 (by decide))
  simp only [RU.lay, Act.put, hs0, hs1, hs2, hs3, hs4, hs5, hs6, hs7, hs8, hs9, hs10]
  simp only [List.setIfInBounds_toArray, List.set_cons_succ, List.set_cons_zero]
  clear hG hK hal W1y hs0 hs1 hs2 hs3 hs4 hs5 hs6 hs7 hs8 hs9 hs10
  go_wp2_with fail
  have qq : (W1.setCells (D + 1) 0 (nc ⟨256, p, H⟩)).rangeAt (D + 1) 0 (nc ⟨256, p, H⟩) := World.rangeAt_setCells_same _ _ _ _ (by rw [nc_length ⟨HP.out, HHL.out⟩]; exact HTH.out W1 BW1.out)
  have hbl : Below w.heap.size w (W1.setCells (D + 1) 0 (nc ⟨256, p, H⟩)) := below_setCells (by have := HD.out; omega) _ _ (BU.out.trans (BW1.out.mono BU.out.size))
  rw [HJ'.out]
  refine bodyPost_ret (v := .agg (nc ⟨256, p, H⟩).toArray) ?_ rfl ⟨rfl, hbl⟩
  simp only [results, Tryd.results27]
  simp [Act.put, asAddr, run_loadVar_mid _ (D + 1) 0 33 (nc ⟨256, p, H⟩) _ qq Tryd.underlying33 rfl (size_nc (x := ⟨256, p, H⟩) ⟨HP.out, HHL.out⟩)]
end Go.Proofs.YtpojalbpekbfdabDoor
