/- The reference: over. -/
import Derived.Test.YtpojalbpekbfdabDoorTrrJ
import Derived.Test.YtpojalbpekbfdabDoorTrrH
import Derived.Test.YtpojalbpekbfdabDoorTraB
import Derived.Test.YtpojalbpekbfdabDoorTrsA
namespace Go.Proofs.YtpojalbpekbfdabDoor
open Go Go.RowKit
set_option linter.unusedSimpArgs false
set_option linter.unusedVariables false
set_option maxRecDepth 100000

def ro3f (b o len cap e : Nat) (p0 p1 : List Int) : Nat → Value
  | 0 => .slice (some ⟨b, o, none⟩) len cap
  | 1 => .pointer (some ⟨b, o, none⟩)
  | 2 => .pointer (some ⟨b, o + 1, none⟩)
  | 3 => .agg (bv p0).toArray
  | 4 => .slice (some ⟨b, o, none⟩) len cap
  | 5 => .slice (some ⟨b, o, none⟩) len cap
  | 6 => .int .i64 (len : Int)
  | 7 => .int .i64 (e : Int)
  | 8 => .pointer (some ⟨b, o + e * 65, none⟩)
  | 9 => .pointer (some ⟨b, o + e * 65 + 1, none⟩)
  | 10 => .agg (bv p1).toArray
  | _ => undef
set_option maxHeartbeats 4000000 in
theorem rover_any : ∀ (n : Nat) (l : List Nd), l.length ≤ n → Rsn l → l ≠ [] → l.length ≤ 140737488355328 → ∀ (v : Value) (w : World), NS w v l →
    Calls Tryd.prog 29 #[v] w fun e w' => e = .returned (.agg (nc (ovl l)).toArray) ∧ Below w.heap.size w w'
  | 0, l, hl, _, hne, _, _, _, _ => absurd (List.length_eq_zero_iff.1 (Nat.le_zero.1 hl)) hne
  | n + 1, l, hl, hr, hne, hlen, v, w, hv => by
    have IH := rover_any n
    have hz := zero_nd
    obtain ⟨Z, hZ⟩ : ∃ Z, (nc ndz).toArray = Z := ⟨_, rfl⟩
    have hZs : Z.size = 65 := by rw [← hZ]; exact nc_size ndz_ok
    rw [hZ] at hz
    clear hZ
    have rz : (w.alloc (.cells Z 33)).heap[w.heap.size]? = some (.cells Z 33 (0, 0)) := by show (w.heap.push _)[w.heap.size]? = _; simp
    have rl : Below w.heap.size w (w.alloc (.cells Z 33)) := (Below.refl _ w).alloc (Nat.le_refl _) _
    have rs : (w.alloc (.cells Z 33)).heap.size = w.heap.size + 1 := by simp
    obtain ⟨U, hU⟩ : ∃ U, w.alloc (.cells Z 33) = U := ⟨_, rfl⟩
    rw [hU] at rz rl rs
    have BU : Hid (Below w.heap.size w U) := rl
    have VU : Hid (NS U v l) := hv.below rl
    obtain ⟨D, hD⟩ : ∃ D, w.heap.size = D := ⟨_, rfl⟩
    have HD : Hid (w.heap.size = D) := hD
    rw [hD] at rz rs
    have RZ : Hid (U.heap[D]? = some (.cells Z 33 (0, 0))) := rz
    have SU : Hid (U.heap.size = D + 1) := rs
    have HIH : Hid (∀ (l : List Nd), l.length ≤ n → Rsn l → l ≠ [] → l.length ≤ 140737488355328 → ∀ (v : Value) (w : World), NS w v l → Calls Tryd.prog 29 #[v] w fun e w' => e = .returned (.agg (nc (ovl l)).toArray) ∧ Below w.heap.size w w') := IH
    clear rz rl rs IH
    obtain ⟨ad, cap, rfl, hcp, hx⟩ := hv
    by_cases h1 : l.length = 1
    · obtain ⟨x, rfl⟩ := List.length_eq_one_iff.1 h1
      rcases hx with ⟨h0, _⟩ | ⟨b, o, rfl, hlb, hm⟩
      · cases h0
      have RX : Hid (U.rangeAt b o (nc x)) := by have := hm 0 x rfl; rw [show o + 0 * 65 = o by omega] at this; exact range_below this BU.out hlb
      have HX : Hid x.Ok := hr.ris.ok x (by simp)
      have HE : Hid (ovl [x] = x) := rfl
      clear hm hr hcp
      rw [HE.out]
      simp only [List.length_singleton]
      go_enter Tryd.func29, Tryd.ntmps29
      go_upto_region 1 with (fail)
      try rw [hU]
      try rw [hD]
      clear hU hD hz
      go_wp2_with (first
        | (refine ld 33 (.tmp 12) rfl rfl b o rfl (nc x) _ RX.out Tryd.underlying33 rfl (size_nc HX.out) ?_)
        | (refine wpList_store_mid rfl 33 (.tmp 2) (.tmp 13) rfl D 0 (nc x).toArray rfl rfl (by rw [nc_size HX.out]; exact there_of_row' RZ.out 0 65 (by omega)) (by rw [List.size_toArray]; exact size_nc HX.out) (nc_one _) ?_; simp only [List.toList_toArray]))
      have qq : (U.setCells D 0 (nc x)).rangeAt D 0 (nc x) := World.rangeAt_setCells_same _ _ _ _ (by rw [nc_length HX.out]; exact there_of_row' RZ.out 0 65 (by omega))
      have hbl : Below w.heap.size w (U.setCells D 0 (nc x)) := below_setCells (by rw [HD.out]; exact Nat.le_refl _) _ _ BU.out
      refine bodyPost_ret (v := .agg (nc x).toArray) ?_ rfl ⟨rfl, hbl⟩
      simp only [results, Tryd.results29]
      simp [Act.put, asAddr, run_loadVar_mid _ D 0 33 (nc x) _ qq Tryd.underlying33 rfl (size_nc HX.out)]
    · have hl2 : 2 ≤ l.length := by have := List.length_pos_iff.2 hne; omega
      obtain ⟨k1, k2⟩ := hr.ris.cut_in hl2
      have hcl := hr.ris.cl_lt hl2
      obtain ⟨x0, hx0⟩ : ∃ x, l[0]? = some x := ⟨l[0]'(by omega), List.getElem?_eq_getElem (by omega)⟩
      obtain ⟨x1, hx1⟩ : ∃ x, l[l.length - 1]? = some x := ⟨l[l.length - 1]'(by omega), List.getElem?_eq_getElem (by omega)⟩
      have HP0 : Hid (L32 x0.p) := (hr.ris.ok x0 (List.mem_of_getElem? hx0)).p
      have HP1 : Hid (L32 x1.p) := (hr.ris.ok x1 (List.mem_of_getElem? hx1)).p
      obtain ⟨m, hm⟩ : ∃ m, cut (cl l) l = m := ⟨_, rfl⟩
      have t1 : (l.take m).length = m := by rw [List.length_take]; omega
      have t2 : (l.drop m).length = l.length - m := by rw [List.length_drop]
      have n1 : l.take m ≠ [] := fun e => by rw [e] at t1; simp at t1; omega
      have n2 : l.drop m ≠ [] := fun e => by rw [e] at t2; simp at t2; omega
      obtain ⟨c, hc⟩ : ∃ c, cl l = c := ⟨_, rfl⟩
      have HE0 : ovl l = jnd c x0.p (ovl (l.take m)) (ovl (l.drop m)) := by
        obtain ⟨f, hf⟩ : ∃ f, l.length = f + 1 := ⟨l.length - 1, by omega⟩
        have e1 : ovl (l.take m) = ov f (l.take m) := ov_fuel _ _ _ (hr.ris.sub (List.take_sublist _ _)) n1 (Nat.le_refl _) (by omega)
        have e2 : ovl (l.drop m) = ov f (l.drop m) := ov_fuel _ _ _ (hr.ris.sub (List.drop_sublist _ _)) n2 (Nat.le_refl _) (by omega)
        rw [e1, e2]
        show ov l.length l = _
        rw [hf]
        simp only [ov]
        rw [if_neg (by omega), hm, hc, hp_eq hx0]
      obtain ⟨o1, o2, o3⟩ : (ovl (l.take m)).Ok ∧ 0 ≤ (ovl (l.take m)).n ∧ (ovl (l.take m)).n ≤ 256 := ov_ok (hr.sub (List.take_sublist m l)) n1 _ (Nat.le_refl _)
      obtain ⟨p1, p2, p3⟩ : (ovl (l.drop m)).Ok ∧ 0 ≤ (ovl (l.drop m)).n ∧ (ovl (l.drop m)).n ≤ 256 := ov_ok (hr.sub (List.drop_sublist m l)) n2 _ (Nat.le_refl _)
      have HCM : Hid (∀ W : World, Calls Tryd.prog 46 #[.agg (bv x0.p).toArray, .agg (bv x1.p).toArray, .int .i64 256] W fun e w' => e = .returned (.int .i64 (c : Int)) ∧ Below W.heap.size W w') := fun W => by
        have := rCommon_any x0.p x1.p W HP0.out HP1.out 256 (Nat.le_refl _)
        rw [← hc]; unfold cl; rw [hp_eq hx0, lp_eq hx1]; exact this
      have HHV : Hid (∀ (v : Value) (W : World), NS W v l → Calls Tryd.prog 31 #[v, .int .i64 (c : Int)] W fun e w' => ∃ v1 v2, e = .returned (.tuple #[v1, v2]) ∧ NS w' v1 (l.take m) ∧ NS w' v2 (l.drop m) ∧ Below W.heap.size W w') := fun v W hW => by
        have := rHalves_any l hr.ris.ok c (by omega) (by rw [← hc]; exact k2) v W hW hlen
        rw [← hc, hm] at this; rw [← hc]; exact this
      have HO1 : Hid (∀ (v : Value) (W : World), NS W v (l.take m) → Calls Tryd.prog 29 #[v] W fun e w' => e = .returned (.agg (nc (ovl (l.take m))).toArray) ∧ Below W.heap.size W w') := HIH.out _ (by omega) (hr.sub (List.take_sublist m l)) n1 (by omega)
      have HO2 : Hid (∀ (v : Value) (W : World), NS W v (l.drop m) → Calls Tryd.prog 29 #[v] W fun e w' => e = .returned (.agg (nc (ovl (l.drop m))).toArray) ∧ Below W.heap.size W w') := HIH.out _ (by omega) (hr.sub (List.drop_sublist m l)) n2 (by omega)
      have HIN : Hid (∀ W : World, Calls Tryd.prog 48 #[.agg (nc (ovl (l.take m))).toArray, .agg (nc (ovl (l.drop m))).toArray] W fun e w' => ∃ v', e = .returned v' ∧ Ow W.heap.size w' v' ([2] ++ nbs (ovl (l.take m)) ++ nbs (ovl (l.drop m))) ∧ Below W.heap.size W w') := fun W => rInner_any _ _ o1 p1 o2 o3 p2 p3 W
      obtain ⟨H, hH⟩ : ∃ H, hs ([2] ++ nbs (ovl (l.take m)) ++ nbs (ovl (l.drop m))) = H := ⟨_, rfl⟩
      have HSU : Hid (∀ (v : Value) (W : World), Sq W v ([2] ++ nbs (ovl (l.take m)) ++ nbs (ovl (l.drop m))) → Calls Tryd.prog 44 #[v] W fun e w' => e = .returned (.agg (bv H).toArray) ∧ Below W.heap.size W w') := fun v W q2 => rsum_sl _ H v hH (by rw [List.length_append, List.length_append, nbs_length o1, nbs_length p1]; simp) W (Byt.append (Byt.append (fun z hz => by simp at hz; omega) (nbs_byt o1 o2 o3)) (nbs_byt p1 p2 p3)) q2
      obtain ⟨q, hq⟩ : ∃ q, fb x0.p c = q := ⟨_, rfl⟩
      have HFB : Hid (∀ W : World, Calls Tryd.prog 47 #[.agg (bv x0.p).toArray, .int .i64 (c : Int)] W fun e w' => e = .returned (.agg (bv q).toArray) ∧ Below W.heap.size W w') := fun W => by rw [← hq]; exact rFirst_any x0.p HP0.out c (by omega) W
      have HQ : Hid (L32 q) := by rw [← hq]; exact fb_l32 HP0.out c
      have HHL : Hid (L32 H) := by rw [← hH]; exact hs_l32 _
      have HE2 : ovl l = ⟨(c : Int), q, H⟩ := by rw [HE0]; unfold jnd; rw [hq, hH]
      have HBN : Hid (∀ W : World, (Instr.build 33 #[(0, .int .i64 (c : Int)), (1, .agg (bv q).toArray), (2, .agg (bv H).toArray)]).run Tryd.prog W = .ok (.agg (nc ⟨(c : Int), q, H⟩).toArray) W) := build_nd (c : Int) HQ.out HHL.out
      rw [HE2]
      rcases hx with ⟨h0, _⟩ | ⟨b, o, rfl, hlb, hmm⟩
      · exact absurd h0 hne
      obtain ⟨e, hel⟩ : ∃ e, l.length = e + 1 := ⟨l.length - 1, by omega⟩
      have R0 : Hid (U.rangeAt b (o + 1) (bv x0.p)) := by have := nc_p (range_below (hmm 0 x0 hx0) BU.out hlb); rw [show o + 0 * 65 = o by omega] at this; exact this
      have R1 : Hid (U.rangeAt b (o + e * 65 + 1) (bv x1.p)) := by have := nc_p (range_below (hmm _ x1 hx1) BU.out hlb); rw [show l.length - 1 = e by omega] at this; exact this
      have hbU : Hid (b < U.heap.size) := Nat.lt_of_lt_of_le hlb BU.out.size
      have HLZ : Hid ((bv z32).length = 32) := by show (bv z32).length = 32; rw [bv_length, z32_l32.len]
      obtain ⟨X, hX⟩ : ∃ X, ovl (l.take m) = X := ⟨_, rfl⟩
      obtain ⟨Y, hY⟩ : ∃ Y, ovl (l.drop m) = Y := ⟨_, rfl⟩
      rw [hX] at HO1 HIN HSU
      rw [hY] at HO2 HIN HSU
      obtain ⟨p0, hp0⟩ : ∃ p, x0.p = p := ⟨_, rfl⟩
      obtain ⟨p1', hp1⟩ : ∃ p, x1.p = p := ⟨_, rfl⟩
      rw [hp0] at HP0 HCM HFB R0
      rw [hp1] at HP1 HCM R1
      have HLP0 : Hid ((bv p0).length = 32) := by show (bv p0).length = 32; rw [bv_length, HP0.out.len]
      have HLP1 : Hid ((bv p1').length = 32) := by show (bv p1').length = 32; rw [bv_length, HP1.out.len]
      obtain ⟨len, hlenq⟩ : ∃ len, l.length = len := ⟨_, rfl⟩
      have HE : Hid (len = e + 1) := by rw [← hlenq]; exact hel
      rw [hlenq] at h1 hl2 hlen VU ⊢
      have h1' : ¬ (len : Int) = 1 := by omega
      have hz2 := zero_32
      rw [show List.replicate 32 (0 : Int) = z32 from rfl] at hz2
      clear hr hmm hcp o1 o2 o3 p1 p2 p3 n1 n2 t1 t2 k1 k2 hm hX hY hlenq hel hx0 hx1 hq hH HE0 HE2 hc hp0 hp1 hcl
      go_enter Tryd.func29, Tryd.ntmps29
      go_upto_region 1 with (fail)
      try rw [hU]
      try rw [hD]
      clear hU hD hz
      go_wp2_with fail
      refine RG.wp_rgn' (TwI U (ro3f b o len cap e p0 p1') (bv p0) (bv p1') (bv z32) 32 11 (11 + 1) (11 + 2) (11 + 3)) (by kernel_rfl) (by kernel_rfl) ⟨(fun _ _ h => by cases h), (Below.refl _ _).drew, (fun h => by cases h), (fun h => by cases h), (fun h => by cases h)⟩ ?_ ?_
      · refine ⟨?_, ?_, ?_, ?_, ?_, ?_, ?_, ?_, ?_, ?_, ?_, ?_, ?_, ?_, ?_, trivial⟩
        · intro a W d V hI hd hpx hbk hf hp
          have hO' : Below U.heap.size U W := hI.be
          refine RU.ob_val (v := .slice (some ⟨b, o, none⟩) len cap) rfl (RU.wanted_none rfl) (fun ev he hc => ?_) ⟨_, rfl, hI.silent (i := 0) (by decide)⟩
          have q0 : ev (.tmp 0) = .slice (some ⟨b, o, none⟩) len cap := (he (.tmp 0)).trans (hf 0 rfl)
          simp only [List.getElem_toArray, List.getElem_cons_succ, List.getElem_cons_zero, execOp, Option.map_some, Option.map_none]; rw [q0]
          first | (go_simp; done) | (go_simp; rfl) | rfl
        · intro a W d V hI hd hpx hbk hf hp
          have hO' : Below U.heap.size U W := hI.be
          refine RU.ob_val (v := .pointer (some ⟨b, o, none⟩)) rfl (RU.wanted_none rfl) (fun ev he hc => ?_) ⟨_, rfl, hI.silent (i := 1) (by decide)⟩
          have q14 : ev (.tmp 14) = .slice (some ⟨b, o, none⟩) len cap := (he (.tmp 14)).trans ((hp 0 14 rfl).trans (hI.si 0 (by decide) (hpx 0 rfl)))
          simp only [List.getElem_toArray, List.getElem_cons_succ, List.getElem_cons_zero, execOp, Option.map_some, Option.map_none]; rw [q14]
          try simp only [hc]
          have hl0 : (0 : Int) < (len : Int) := by have := HE.out; omega
          have hl1 : 0 < len := by have := HE.out; omega
          first | (go_simp; done) | (go_simp; rfl) | rfl
        · intro a W d V hI hd hpx hbk hf hp
          have hO' : Below U.heap.size U W := hI.be
          refine RU.ob_val (v := .pointer (some ⟨b, o + 1, none⟩)) rfl (RU.wanted_none rfl) (fun ev he hc => ?_) ⟨_, rfl, hI.silent (i := 2) (by decide)⟩
          have q15 : ev (.tmp 15) = .pointer (some ⟨b, o, none⟩) := (he (.tmp 15)).trans ((hp 1 15 rfl).trans (hI.si 1 (by decide) (hpx 1 rfl)))
          simp only [List.getElem_toArray, List.getElem_cons_succ, List.getElem_cons_zero, execOp, Option.map_some, Option.map_none]; rw [q15]
          first | (go_simp; done) | (go_simp; rfl) | rfl
        · intro a W d V hI hd hpx hbk hf hp
          have hO' : Below U.heap.size U W := hI.be
          have q16 : a.eval (.tmp 16) = .pointer (some ⟨b, o + 1, none⟩) := (hp 2 16 rfl).trans (hI.si 2 (by decide) (hpx 2 rfl))
          exact RU.ob_op rfl (RU.wanted_none rfl) (wp_load_mid 25 (.tmp 16) rfl (b) (o + 1) q16 (bv p0) _ (range_below R0.out hO' hbU.out) Tryd.underlying25 rfl (size_l32 HP0.out) ⟨_, rfl, hI.silent (i := 3) (by decide)⟩)
        · intro a W d V hI hd hpx hbk hf hp
          have hO' : Below U.heap.size U W := hI.be
          refine RU.ob_val (v := .slice (some ⟨b, o, none⟩) len cap) rfl (RU.wanted_none rfl) (fun ev he hc => ?_) ⟨_, rfl, hI.silent (i := 4) (by decide)⟩
          have q0 : ev (.tmp 0) = .slice (some ⟨b, o, none⟩) len cap := (he (.tmp 0)).trans (hf 0 rfl)
          simp only [List.getElem_toArray, List.getElem_cons_succ, List.getElem_cons_zero, execOp, Option.map_some, Option.map_none]; rw [q0]
          first | (go_simp; done) | (go_simp; rfl) | rfl
        · intro a W d V hI hd hpx hbk hf hp
          have hO' : Below U.heap.size U W := hI.be
          refine RU.ob_val (v := .slice (some ⟨b, o, none⟩) len cap) rfl (RU.wanted_none rfl) (fun ev he hc => ?_) ⟨_, rfl, hI.silent (i := 5) (by decide)⟩
          have q0 : ev (.tmp 0) = .slice (some ⟨b, o, none⟩) len cap := (he (.tmp 0)).trans (hf 0 rfl)
          simp only [List.getElem_toArray, List.getElem_cons_succ, List.getElem_cons_zero, execOp, Option.map_some, Option.map_none]; rw [q0]
          first | (go_simp; done) | (go_simp; rfl) | rfl
        · intro a W d V hI hd hpx hbk hf hp
          have hO' : Below U.heap.size U W := hI.be
          refine RU.ob_val (v := .int .i64 (len : Int)) rfl (RU.wanted_none rfl) (fun ev he hc => ?_) ⟨_, rfl, hI.silent (i := 6) (by decide)⟩
          have q19 : ev (.tmp 19) = .slice (some ⟨b, o, none⟩) len cap := (he (.tmp 19)).trans ((hp 5 19 rfl).trans (hI.si 5 (by decide) (hpx 5 rfl)))
          simp only [List.getElem_toArray, List.getElem_cons_succ, List.getElem_cons_zero, execOp, Option.map_some, Option.map_none]; simp only [resolve, invoke, builtin, Sem.run_bind, Sem.run_pure, Result.andThen_ok, List.map_toArray, List.map_cons, List.map_nil, q19]
          first | (go_simp; done) | (go_simp; rfl) | rfl
        · intro a W d V hI hd hpx hbk hf hp
          have hO' : Below U.heap.size U W := hI.be
          refine RU.ob_val (v := .int .i64 (e : Int)) rfl (RU.wanted_none rfl) (fun ev he hc => ?_) ⟨_, rfl, hI.silent (i := 7) (by decide)⟩
          have q20 : ev (.tmp 20) = .int .i64 (len : Int) := (he (.tmp 20)).trans ((hp 6 20 rfl).trans (hI.si 6 (by decide) (hpx 6 rfl)))
          simp only [List.getElem_toArray, List.getElem_cons_succ, List.getElem_cons_zero, execOp, Option.map_some, Option.map_none]; rw [q20]
          try simp only [hc]
          have hw1 : IntKind.i64.wrap ((len : Int) - 1) = (e : Int) := by have := HE.out; rw [IntKind.wrap_i64]; omega
          first | (go_simp; done) | (go_simp; rfl) | rfl
        · intro a W d V hI hd hpx hbk hf hp
          have hO' : Below U.heap.size U W := hI.be
          refine RU.ob_val (v := .pointer (some ⟨b, o + e * 65, none⟩)) rfl (RU.wanted_none rfl) (fun ev he hc => ?_) ⟨_, rfl, hI.silent (i := 8) (by decide)⟩
          have q18 : ev (.tmp 18) = .slice (some ⟨b, o, none⟩) len cap := (he (.tmp 18)).trans ((hp 4 18 rfl).trans (hI.si 4 (by decide) (hpx 4 rfl)))
          have q21 : ev (.tmp 21) = .int .i64 (e : Int) := (he (.tmp 21)).trans ((hp 7 21 rfl).trans (hI.si 7 (by decide) (hpx 7 rfl)))
          simp only [List.getElem_toArray, List.getElem_cons_succ, List.getElem_cons_zero, execOp, Option.map_some, Option.map_none]; rw [q18, q21]
          have he9 : (e : Int) < (len : Int) := by have := HE.out; omega
          first | (go_simp; done) | (go_simp; rfl) | rfl
        · intro a W d V hI hd hpx hbk hf hp
          have hO' : Below U.heap.size U W := hI.be
          refine RU.ob_val (v := .pointer (some ⟨b, o + e * 65 + 1, none⟩)) rfl (RU.wanted_none rfl) (fun ev he hc => ?_) ⟨_, rfl, hI.silent (i := 9) (by decide)⟩
          have q22 : ev (.tmp 22) = .pointer (some ⟨b, o + e * 65, none⟩) := (he (.tmp 22)).trans ((hp 8 22 rfl).trans (hI.si 8 (by decide) (hpx 8 rfl)))
          simp only [List.getElem_toArray, List.getElem_cons_succ, List.getElem_cons_zero, execOp, Option.map_some, Option.map_none]; rw [q22]
          first | (go_simp; done) | (go_simp; rfl) | rfl
        · intro a W d V hI hd hpx hbk hf hp
          have hO' : Below U.heap.size U W := hI.be
          have q23 : a.eval (.tmp 23) = .pointer (some ⟨b, o + e * 65 + 1, none⟩) := (hp 9 23 rfl).trans (hI.si 9 (by decide) (hpx 9 rfl))
          exact RU.ob_op rfl (RU.wanted_none rfl) (wp_load_mid 25 (.tmp 23) rfl (b) (o + e * 65 + 1) q23 (bv p1') _ (range_below R1.out hO' hbU.out) Tryd.underlying25 rfl (size_l32 HP1.out) ⟨_, rfl, hI.silent (i := 10) (by decide)⟩)
        · intro a W d V hI hd hpx hbk hf hp
          have hO' : Below U.heap.size U W := hI.be
          refine RU.ob_run (v := .pointer (some ⟨W.heap.size, 0, none⟩)) (w' := W.alloc (.cells (bv z32).toArray 25)) rfl (RU.wanted_none rfl) (fun ev he hc => ?_) ⟨_, rfl, hI.alloc1 25 (HLZ.out) (hbk 13 rfl)⟩
          simp only [List.getElem_toArray, List.getElem_cons_succ, List.getElem_cons_zero, execOp]
          first | (go_simp; done) | (go_simp; rfl)
        · intro a W d V hI hd hpx hbk hf hp
          have hO' : Below U.heap.size U W := hI.be
          refine RU.ob_run (v := .pointer (some ⟨W.heap.size, 0, none⟩)) (w' := W.alloc (.cells (bv z32).toArray 25)) rfl (RU.wanted_none rfl) (fun ev he hc => ?_) ⟨_, rfl, hI.alloc2 25 (HLZ.out) (hbk 14 rfl)⟩
          simp only [List.getElem_toArray, List.getElem_cons_succ, List.getElem_cons_zero, execOp]
          first | (go_simp; done) | (go_simp; rfl)
        · intro a W d V hI hd hpx hbk hf hp
          have hO' : Below U.heap.size U W := hI.be
          have d9 : d 11 = true := hpx 11 rfl
          have d10 : d (11 + 1) = true := hpx 12 rfl
          obtain ⟨b, hV, -, -, hth, -⟩ := hI.p9 d9
          have qp : a.eval (.tmp 3) = .pointer (some ⟨b, 0, none⟩) := (hp 11 3 rfl).trans hV
          have qv : a.eval (.tmp 17) = .agg (bv p0).toArray := (hp 3 17 rfl).trans (hI.si 3 (by decide) (hpx 3 rfl))
          exact RU.ob_op rfl (RU.wanted_none rfl) (wp_store_mid 25 (.tmp 3) (.tmp 17) rfl b 0 (bv p0).toArray qp qv (by rw [List.size_toArray, HLP0.out]; exact hth) (by rw [List.size_toArray]; exact size_l32 HP0.out) (bv_one' _) ⟨_, rfl, by simp only [List.toList_toArray]; exact hI.store1 (HLP0.out) d9 d10 hV _⟩)
        · intro a W d V hI hd hpx hbk hf hp
          have hO' : Below U.heap.size U W := hI.be
          have d9 : d 11 = true := hpx 11 rfl
          have d10 : d (11 + 1) = true := hpx 12 rfl
          obtain ⟨b, hV, -, -, hth, -⟩ := hI.p10 d10
          have qp : a.eval (.tmp 4) = .pointer (some ⟨b, 0, none⟩) := (hp 12 4 rfl).trans hV
          have qv : a.eval (.tmp 24) = .agg (bv p1').toArray := (hp 10 24 rfl).trans (hI.si 10 (by decide) (hpx 10 rfl))
          exact RU.ob_op rfl (RU.wanted_none rfl) (wp_store_mid 25 (.tmp 4) (.tmp 24) rfl b 0 (bv p1').toArray qp qv (by rw [List.size_toArray, HLP1.out]; exact hth) (by rw [List.size_toArray]; exact size_l32 HP1.out) (bv_one' _) ⟨_, rfl, by simp only [List.toList_toArray]; exact hI.store2 (HLP1.out) d9 d10 hV _⟩)
      intro W1 dW1 VW1 hal hI
      have BW1 : Hid (Below U.heap.size U W1) := hI.be
      obtain ⟨b9, hV9, hb9, hl9, -, hr9⟩ := hI.p9 (hal 11 (by decide))
      obtain ⟨b10, hV10, hb10, hl10, -, hr10⟩ := hI.p10 (hal (11 + 1) (by decide))
      rw [if_pos (hal (11 + 2) (by decide))] at hr9
      rw [if_pos (hal (11 + 3) (by decide))] at hr10
      have hs0 : VW1 0 = .slice (some ⟨b, o, none⟩) len cap := hI.si 0 (by decide) (hal 0 (by decide))
      have hs1 : VW1 1 = .pointer (some ⟨b, o, none⟩) := hI.si 1 (by decide) (hal 1 (by decide))
      have hs2 : VW1 2 = .pointer (some ⟨b, o + 1, none⟩) := hI.si 2 (by decide) (hal 2 (by decide))
      have hs3 : VW1 3 = .agg (bv p0).toArray := hI.si 3 (by decide) (hal 3 (by decide))
      have hs4 : VW1 4 = .slice (some ⟨b, o, none⟩) len cap := hI.si 4 (by decide) (hal 4 (by decide))
      have hs5 : VW1 5 = .slice (some ⟨b, o, none⟩) len cap := hI.si 5 (by decide) (hal 5 (by decide))
      have hs6 : VW1 6 = .int .i64 (len : Int) := hI.si 6 (by decide) (hal 6 (by decide))
      have hs7 : VW1 7 = .int .i64 (e : Int) := hI.si 7 (by decide) (hal 7 (by decide))
      have hs8 : VW1 8 = .pointer (some ⟨b, o + e * 65, none⟩) := hI.si 8 (by decide) (hal 8 (by decide))
      have hs9 : VW1 9 = .pointer (some ⟨b, o + e * 65 + 1, none⟩) := hI.si 9 (by decide) (hal 9 (by decide))
      have hs10 : VW1 10 = .agg (bv p1').toArray := hI.si 10 (by decide) (hal 10 (by decide))
      have hV10' : VW1 12 = .pointer (some ⟨b10, 0, none⟩) := hV10
      simp only [RU.lay, Act.put, hV9, hV10', hs0, hs1, hs2, hs3, hs4, hs5, hs6, hs7, hs8, hs9, hs10]
      simp only [List.setIfInBounds_toArray, List.set_cons_succ, List.set_cons_zero]
      have RR9 : Hid (W1.rangeAt b9 0 (bv p0)) := hr9
      have RR10 : Hid (W1.rangeAt b10 0 (bv p1')) := hr10
      have LL9 : Hid (b9 < W1.heap.size) := hl9
      have LL10 : Hid (b10 < W1.heap.size) := hl10
      clear hI hal hV9 hV10 hV10' hb9 hb10 hl9 hl10 hr9 hr10 hs0 hs1 hs2 hs3 hs4 hs5 hs6 hs7 hs8 hs9 hs10
      have VW : Hid (NS W1 (.slice (some ⟨b, o, none⟩) len cap) l) := VU.out.below BW1.out
      go_wp2_with (first
        | (refine ld 25 (.tmp 3) rfl rfl b9 0 rfl (bv p0) _ RR9.out Tryd.underlying25 rfl (size_l32 HP0.out) ?_)
        | (refine ld 25 (.tmp 4) rfl rfl b10 0 rfl (bv p1') _ RR10.out Tryd.underlying25 rfl (size_l32 HP1.out) ?_)
        | (go_at_call 46; refine (HCM.out W1).mono ?_; rintro e' w2 ⟨rfl, g1⟩; have B2 : Hid (Below W1.heap.size W1 w2) := g1; clear g1)
        | (go_at_call 31; refine (HHV.out _ w2 (VW.out.below B2.out)).mono ?_; rintro e' w3 ⟨v1, v2, rfl, g1, g2, g3⟩; have N1 : Hid (NS w3 v1 (l.take m)) := g1; have N2 : Hid (NS w3 v2 (l.drop m)) := g2; have B3 : Hid (Below W1.heap.size W1 w3) := B2.out.trans (g3.mono B2.out.size); clear g1 g2 g3)
        | (refine ld 25 (.tmp 3) rfl rfl b9 0 rfl (bv p0) _ (range_below RR9.out B3.out LL9.out) Tryd.underlying25 rfl (size_l32 HP0.out) ?_)
        | (go_at_call 47; refine (HFB.out w3).mono ?_; rintro e' w4 ⟨rfl, g1⟩; have B4 : Hid (Below w3.heap.size w3 w4) := g1; clear g1)
        | (go_at_call 29; refine (HO2.out v2 w5 ((N2.out.below B4.out).below B5.out)).mono ?_; rintro e' w6 ⟨rfl, g1⟩; have B6 : Hid (Below w5.heap.size w5 w6) := g1; clear g1)
        | (go_at_call 29; refine (HO1.out v1 w4 (N1.out.below B4.out)).mono ?_; rintro e' w5 ⟨rfl, g1⟩; have B5 : Hid (Below w4.heap.size w4 w5) := g1; clear g1)
        | (go_at_call 48; refine (HIN.out w6).mono ?_; rintro e' w7 ⟨v7, rfl, g1, g2⟩; have O7 : Hid (Ow w6.heap.size w7 v7 ([2] ++ nbs X ++ nbs Y)) := g1; have B7 : Hid (Below w6.heap.size w6 w7) := g2; clear g1 g2))
      refine (HSU.out v7 w7 O7.out.sq).mono ?_
      rintro e' w8 ⟨rfl, g8⟩
      have B8 : Hid (Below U.heap.size U w8) := BW1.out.trans ((B3.out.trans ((B4.out.trans ((B5.out.trans ((B6.out.trans ((B7.out.trans (g8.mono B7.out.size)).mono B6.out.size)).mono B5.out.size)).mono B4.out.size)).mono B3.out.size)).mono BW1.out.size)
      clear g8
      dsimp only
      refine ‹∀ (a : Act) (w : World), wpList Tryd.prog _ _ _ a w → _› _ _ ?_
      refine wp_build3 33 (.tmp 34) (.tmp 37) (.tmp 43) rfl rfl (.int .i64 (c : Int)) (.agg (bv q).toArray) (.agg (bv H).toArray) rfl rfl rfl (nc ⟨(c : Int), q, H⟩).toArray (HBN.out w8) ?_
      refine wpList_store_mid rfl 33 (.tmp 2) (.tmp 44) rfl D 0 (nc ⟨(c : Int), q, H⟩).toArray rfl rfl (by rw [nc_size ⟨HQ.out, HHL.out⟩]; exact there_of_row' ((B8.out.block _ (by have := SU.out; omega)).trans RZ.out) 0 65 (by omega)) (by rw [List.size_toArray]; exact size_nc ⟨HQ.out, HHL.out⟩) (nc_one _) ?_
      simp only [List.toList_toArray]
      go_wp2_with fail
      have qq : (w8.setCells D 0 (nc ⟨(c : Int), q, H⟩)).rangeAt D 0 (nc ⟨(c : Int), q, H⟩) := World.rangeAt_setCells_same _ _ _ _ (by rw [nc_length ⟨HQ.out, HHL.out⟩]; exact there_of_row' ((B8.out.block _ (by have := SU.out; omega)).trans RZ.out) 0 65 (by omega))
      have hbl : Below w.heap.size w (w8.setCells D 0 (nc ⟨(c : Int), q, H⟩)) := below_setCells (by rw [HD.out]; exact Nat.le_refl _) _ _ (BU.out.trans (B8.out.mono BU.out.size))
      refine bodyPost_ret (v := .agg (nc ⟨(c : Int), q, H⟩).toArray) ?_ rfl ⟨rfl, hbl⟩
      simp only [results, Tryd.results29]
      simp [Act.put, asAddr, run_loadVar_mid _ D 0 33 (nc ⟨(c : Int), q, H⟩) _ qq Tryd.underlying33 rfl (size_nc ⟨HQ.out, HHL.out⟩)]
end Go.Proofs.YtpojalbpekbfdabDoor
/- Package tree: slices.IndexFunc over nodes, and its closures. -/
namespace Go.Proofs.YtpojalbpekbfdabDoor
open Go Go.RowKit
set_option linter.unusedSimpArgs false
set_option linter.unusedVariables false
set_option maxRecDepth 100000

/-- The first place where a test holds, or -1. -/
def ixf (f : Nd → Bool) (l : List Nd) : Int := match l.findIdx? f with | some i => (i : Int) | none => -1
theorem ixf_at {f : Nd → Bool} {l : List Nd} {k : Nat} {x : Nd} (hx : l[k]? = some x) (h : f x = true) (hlo : ∀ (j : Nat) (y : Nd), j < k → l[j]? = some y → f y = false) : ixf f l = (k : Int) := by
  obtain ⟨hk, rfl⟩ := List.getElem?_eq_some_iff.1 hx
  have : l.findIdx? f = some k := List.findIdx?_eq_some_iff_getElem.2 ⟨hk, h, fun j hj => by rw [hlo j _ hj (List.getElem?_eq_getElem (by omega))]; decide⟩
  unfold ixf; rw [this]
theorem ixf_none {f : Nd → Bool} {l : List Nd} (h : ∀ x ∈ l, f x = false) : ixf f l = -1 := by
  have : l.findIdx? f = none := List.findIdx?_eq_none_iff.2 h
  unfold ixf; rw [this]
/-- An operation of two whose run is known. -/
theorem wp_bin_run {P : Program} {ops : Array Oper} {rest : List Oper} {o : Oper} {a : Act} {w : World} {Q : Exit → Act → World → Prop} (op : BinOp) (t t' : TypeId) (x y : Operand) (ho : o.op = .binOp op t x y t') (hw : Region.wanted o (yielded ops a.tmps) = true) (v u r : Value) (hx : a.eval x = v) (hy : a.eval y = u)
    (hg : (eqGuard op t x y v u).run P w = .ok () w) (hr : (binOp op t v u).run P w = .ok r w) (h : wpList P ops Q rest (a.put o.dst r) w) : wpList P ops Q (o :: rest) a w := by
  unfold wpList
  rw [if_pos hw]
  refine .inl ?_
  unfold Oper.wp execOp
  simp only [ho, hx, hy, Sem.run_bind, hg, hr, Result.andThen_ok, Sem.run_pure]
  exact h
end Go.Proofs.YtpojalbpekbfdabDoor
/- Package tree: Found. -/
namespace Go.Proofs.YtpojalbpekbfdabDoor
open Go Go.RowKit
set_option linter.unusedSimpArgs false
set_option linter.unusedVariables false
set_option maxRecDepth 100000

/-- What nodes tell of a label under a root. -/
def fnd (r : List Int) (l : List Nd) (y : List Int) : List Int × Bool × Int :=
  if apt l = true then (if rt l = r then (match l.find? (fun x => hl x y) with | none => (z32, false, 0) | some x => if x.n = 256 then (x.h, true, 0) else (z32, false, 2)) else (z32, false, 3)) else (z32, false, 1)
theorem rz_l32 (l : List Nd) : L32 (if apt l = true then rt l else z32) := by
  split
  · exact rt_l32 l
  · exact z32_l32
/-- Three blocks laid ahead. -/
theorem three_blocks (w : World) (a b : List Value) (Z : Array Value) (s t u : TypeId) :
    ((((w.alloc (.cells a.toArray s)).alloc (.cells b.toArray t)).alloc (.cells Z u))).rangeAt w.heap.size 0 a ∧
    ((((w.alloc (.cells a.toArray s)).alloc (.cells b.toArray t)).alloc (.cells Z u))).rangeAt (w.heap.size + 1) 0 b ∧
    ((((w.alloc (.cells a.toArray s)).alloc (.cells b.toArray t)).alloc (.cells Z u))).heap[w.heap.size + 2]? = some (.cells Z u (0, 0)) ∧
    ((((w.alloc (.cells a.toArray s)).alloc (.cells b.toArray t)).alloc (.cells Z u))).heap.size = w.heap.size + 3 ∧
    Below w.heap.size w ((((w.alloc (.cells a.toArray s)).alloc (.cells b.toArray t)).alloc (.cells Z u))) := by
  have r1 := range_alloc w a s (0, 0)
  obtain ⟨w1, h1⟩ : ∃ w1, w.alloc (.cells a.toArray s) = w1 := ⟨_, rfl⟩
  have s1 : w1.heap.size = w.heap.size + 1 := by rw [← h1]; simp
  have b1 : Below w.heap.size w w1 := by rw [← h1]; exact (Below.refl _ w).alloc (Nat.le_refl _) _
  rw [h1] at r1 ⊢
  have r2 := range_alloc w1 b t (0, 0)
  obtain ⟨w2, h2⟩ : ∃ w2, w1.alloc (.cells b.toArray t) = w2 := ⟨_, rfl⟩
  have s2 : w2.heap.size = w1.heap.size + 1 := by rw [← h2]; simp
  have b2 : Below w1.heap.size w1 w2 := by rw [← h2]; exact (Below.refl _ w1).alloc (Nat.le_refl _) _
  rw [h2] at r2 ⊢
  have s3 : (w2.alloc (.cells Z u)).heap.size = w2.heap.size + 1 := by simp
  have b3 : Below w2.heap.size w2 (w2.alloc (.cells Z u)) := (Below.refl _ w2).alloc (Nat.le_refl _) _
  have r3 : (w2.alloc (.cells Z u)).heap[w2.heap.size]? = some (.cells Z u (0, 0)) := by show (w2.heap.push _)[w2.heap.size]? = _; simp
  refine ⟨range_below (range_below r1 b2 (by omega)) b3 (by omega), ?_, ?_, by omega, b1.trans ((b2.trans (b3.mono b2.size)).mono b1.size)⟩
  · rw [s1] at r2; exact range_below r2 b3 (by omega)
  · rw [show w.heap.size + 2 = w2.heap.size by omega]; exact r3
theorem Below.tr' {a b c : World} (h1 : Below a.heap.size a b) (h2 : Below b.heap.size b c) : Below a.heap.size a c := h1.trans (h2.mono h1.size)
end Go.Proofs.YtpojalbpekbfdabDoor
