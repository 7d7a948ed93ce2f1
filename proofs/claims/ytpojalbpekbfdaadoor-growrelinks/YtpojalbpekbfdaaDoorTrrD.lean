/- The reference: Halves. -/
import Derived.Test.YtpojalbpekbfdaaDoorTrrB
import Derived.Test.YtpojalbpekbfdaaDoorTreW
import Derived.Test.YtpojalbpekbfdaaDoorTrrJ
import Derived.Test.YtpojalbpekbfdaaDoorTrrI
namespace Go.Proofs.YtpojalbpekbfdaaDoor
open Go Go.RowKit
set_option linter.unusedSimpArgs false
set_option linter.unusedVariables false
set_option maxRecDepth 100000

theorem cut_uniq (c : Nat) : ∀ (l : List Nd) (k : Nat), k ≤ l.length → (∀ (i : Nat) (x : Nd), l[i]? = some x → i < k → bt x.p c = 0) → (∀ x, l[k]? = some x → bt x.p c ≠ 0) → cut c l = k
  | [], k, hk, _, _ => by simp at hk; subst hk; rfl
  | a :: r, 0, _, _, h => by simp only [cut]; rw [if_neg (h a rfl)]
  | a :: r, k + 1, hk, h1, h2 => by
    simp only [cut]
    rw [if_pos (h1 0 a rfl (by omega)), cut_uniq c r k (by simpa using hk) (fun i x hx hi => h1 (i + 1) x (by simpa using hx) (by omega)) (fun x hx => h2 x (by simpa using hx))]
def rhvf (b o len cap m : Nat) : Nat → Value
  | 0 => .slice (some ⟨b, o, none⟩) len cap
  | 1 => .int .i64 (m : Int)
  | 2 => .slice (some ⟨b, o, none⟩) m cap
  | 3 => .slice (some ⟨b, o, none⟩) len cap
  | 4 => .int .i64 (m : Int)
  | 5 => .slice (some ⟨b, o + m * 65, none⟩) (len - m) (cap - m)
  | 6 => .slice (some ⟨b, o, none⟩) m cap
  | 7 => .slice (some ⟨b, o + m * 65, none⟩) (len - m) (cap - m)
  | _ => undef
set_option maxHeartbeats 4000000 in
theorem rHalves_any (l : List Nd) (hk : ∀ x ∈ l, x.Ok) (c : Nat) (hc : c < 256) (hcut : cut c l < l.length) (v : Value) (w : World) (hv : NS w v l) (hn : l.length ≤ 140737488355328) :
    Calls Tryd.prog 42 #[v, .int .i64 (c : Int)] w fun e w' => ∃ v1 v2, e = .returned (.tuple #[v1, v2]) ∧ NS w' v1 (l.take (cut c l)) ∧ NS w' v2 (l.drop (cut c l)) ∧ Below w.heap.size w w' := by
  have HNS : Hid (NS w v l) := hv
  have hne : l ≠ [] := fun h0 => by rw [h0] at hcut; simp at hcut
  have HNE : Hid (l ≠ []) := hne
  obtain ⟨ad, cap, rfl, hcp, hx⟩ := hv
  rcases hx with ⟨h0, _⟩ | ⟨b, o, rfl, hlb, hmm⟩
  · exact absurd h0 hne
  have HOK : Hid (∀ x ∈ l, x.Ok) := hk
  have HMM : Hid (∀ (i : Nat) (x : Nd), l[i]? = some x → w.rangeAt b (o + i * 65) (nc x)) := hmm
  have HLB : Hid (b < w.heap.size) := hlb
  obtain ⟨len, hlen⟩ : ∃ len, l.length = len := ⟨_, rfl⟩
  have HLEN : Hid (l.length = len) := hlen
  have HCUT : Hid (cut c l < len) := by rw [← hlen]; exact hcut
  rw [hlen] at hn hcp ⊢
  clear hmm hlb hk hne hlen hcut
  go_enter Tryd.func42, Tryd.ntmps42
  go_wp2_with fail
  go_loopw [6] (fun i wr => ∃ k : Nat, k ≤ len ∧ i = .int .i64 (k : Int) ∧ (∀ (i : Nat) (x : Nd), l[i]? = some x → i < k → bt x.p c = 0) ∧ Below w.heap.size w wr) (fun i _ => len - (intOf i).toNat)
  case atStart => exact ⟨0, Nat.zero_le _, rfl, fun i x _ hi => by omega, Below.refl _ _⟩
  case round =>
    obtain ⟨m, hml, rfl, hall, h4⟩ := hrel
    have H4 : Hid (Below w.heap.size w wr) := h4
    have HA : Hid (∀ (i : Nat) (x : Nd), l[i]? = some x → i < m → bt x.p c = 0) := hall
    clear h4 hall
    by_cases hlt : m < len
    · obtain ⟨x, hx⟩ : ∃ x, l[m]? = some x := ⟨l[m]'(by have := HLEN.out; omega), List.getElem?_eq_getElem _⟩
      have HXK : Hid (l[m]? = some x) := hx
      have HP : Hid (L32 x.p) := (HOK.out x (List.mem_of_getElem? hx)).p
      have RP : Hid (wr.rangeAt b (o + m * 65 + 1) (bv x.p)) := nc_p (range_below (HMM.out m x hx) H4.out HLB.out)
      obtain ⟨z, hz⟩ : ∃ z, bt x.p c = z := ⟨_, rfl⟩
      have HBT : Hid (∀ W : World, Calls Tryd.prog 60 #[.agg (bv x.p).toArray, .int .i64 (c : Int)] W fun e w' => e = .returned (.int .u8 (z : Int)) ∧ Below W.heap.size W w') := fun W => by rw [← hz]; exact rBit_any x.p HP.out c hc W
      have HZ : Hid (bt x.p c = z) := hz
      clear hx hz
      by_cases he : z = 0
      · subst he
        go_wp2_with (first
          | (refine load_g rfl 31 (.tmp 15) rfl b (o + m * 65 + 1) rfl (bv x.p) _ RP.out Tryd.underlying31 rfl (size_l32 HP.out) ?_)
          | (go_at_call 60; refine (HBT.out wr).mono ?_; rintro e W9 ⟨rfl, g1⟩; have B9 : Hid (Below wr.heap.size wr W9) := g1; clear g1))
        exact ⟨⟨m + 1, by omega, by go_num, fun i y hy hi => by
          rcases Nat.lt_succ_iff_lt_or_eq.1 hi with q | rfl
          · exact HA.out i y hy q
          · rw [HXK.out] at hy; cases hy; exact HZ.out, H4.out.trans (B9.out.mono H4.out.size)⟩, by simp [intOf]; omega⟩
      · have he' : ¬ (z : Int) = 0 := by omega
        have E : Hid (cut c l = m) := cut_uniq c l m (by have := HLEN.out; omega) HA.out (fun y hy => by rw [HXK.out] at hy; cases hy; rw [HZ.out]; exact he)
        go_wp2_with (first
          | (refine load_g rfl 31 (.tmp 15) rfl b (o + m * 65 + 1) rfl (bv x.p) _ RP.out Tryd.underlying31 rfl (size_l32 HP.out) ?_)
          | (go_at_call 60; refine (HBT.out wr).mono ?_; rintro e W9 ⟨rfl, g1⟩; have B9 : Hid (Below wr.heap.size wr W9) := g1; clear g1))
        refine RU.wp_rgn' [] (rhvf b o len cap m) (fun _ => 0) (gΩ W9) (by kernel_rfl) (by kernel_rfl) (show Below W9.heap.size W9 _ from (Below.refl _ _).drew) ?_ ?_
        · refine ⟨?_, ?_, ?_, ?_, ?_, ?_, ?_, ?_, trivial⟩
          · refine RU.ObT.pure rfl rfl rfl (fun a V hf hp ev he hc W => ?_)
            have q0 : ev (.tmp 0) = .slice (some ⟨b, o, none⟩) len cap := (he (.tmp 0)).trans (hf 0 rfl)
            simp only [List.getElem_toArray, List.getElem_cons_succ, List.getElem_cons_zero, execOp, Option.map_some, Option.map_none]; rw [q0]
            first | (go_simp; done) | (go_simp; rfl) | rfl
          · refine RU.ObT.pure rfl rfl rfl (fun a V hf hp ev he hc W => ?_)
            have q6 : ev (.tmp 6) = .int .i64 (m : Int) := (he (.tmp 6)).trans (hf 6 rfl)
            simp only [List.getElem_toArray, List.getElem_cons_succ, List.getElem_cons_zero, execOp, Option.map_some, Option.map_none]; rw [q6]
            first | (go_simp; done) | (go_simp; rfl) | rfl
          · refine RU.ObT.pure rfl rfl rfl (fun a V hf hp ev he hc W => ?_)
            have q23 : ev (.tmp 23) = .slice (some ⟨b, o, none⟩) len cap := (he (.tmp 23)).trans (hp 0 23 rfl)
            have q24 : ev (.tmp 24) = .int .i64 (m : Int) := (he (.tmp 24)).trans (hp 1 24 rfl)
            simp only [List.getElem_toArray, List.getElem_cons_succ, List.getElem_cons_zero, execOp, Option.map_some, Option.map_none]; rw [q23, q24]
            have hm1 : (m : Int) ≤ (len : Int) := by omega
            have hm2 : (m : Int) ≤ (cap : Int) := by omega
            have hm3 : (len : Int) ≤ (cap : Int) := by omega
            first | (go_simp; done) | (go_simp; rfl) | rfl
          · refine RU.ObT.pure rfl rfl rfl (fun a V hf hp ev he hc W => ?_)
            have q0 : ev (.tmp 0) = .slice (some ⟨b, o, none⟩) len cap := (he (.tmp 0)).trans (hf 0 rfl)
            simp only [List.getElem_toArray, List.getElem_cons_succ, List.getElem_cons_zero, execOp, Option.map_some, Option.map_none]; rw [q0]
            first | (go_simp; done) | (go_simp; rfl) | rfl
          · refine RU.ObT.pure rfl rfl rfl (fun a V hf hp ev he hc W => ?_)
            have q6 : ev (.tmp 6) = .int .i64 (m : Int) := (he (.tmp 6)).trans (hf 6 rfl)
            simp only [List.getElem_toArray, List.getElem_cons_succ, List.getElem_cons_zero, execOp, Option.map_some, Option.map_none]; rw [q6]
            first | (go_simp; done) | (go_simp; rfl) | rfl
          · refine RU.ObT.pure rfl rfl rfl (fun a V hf hp ev he hc W => ?_)
            have q26 : ev (.tmp 26) = .slice (some ⟨b, o, none⟩) len cap := (he (.tmp 26)).trans (hp 3 26 rfl)
            have q27 : ev (.tmp 27) = .int .i64 (m : Int) := (he (.tmp 27)).trans (hp 4 27 rfl)
            simp only [List.getElem_toArray, List.getElem_cons_succ, List.getElem_cons_zero, execOp, Option.map_some, Option.map_none]; rw [q26, q27]
            have hm1 : (m : Int) ≤ (len : Int) := by omega
            have hm2 : (m : Int) ≤ (cap : Int) := by omega
            have hm3 : (len : Int) ≤ (cap : Int) := by omega
            have hcm : ¬ cap = m := by omega
            first | (go_simp; done) | (go_simp; rfl) | rfl
          · refine RU.ObT.pure rfl rfl rfl (fun a V hf hp ev he hc W => ?_)
            have q25 : ev (.tmp 25) = .slice (some ⟨b, o, none⟩) m cap := (he (.tmp 25)).trans (hp 2 25 rfl)
            simp only [List.getElem_toArray, List.getElem_cons_succ, List.getElem_cons_zero, execOp, Option.map_some, Option.map_none]; rw [q25]
            first | (go_simp; done) | (go_simp; rfl) | rfl
          · refine RU.ObT.pure rfl rfl rfl (fun a V hf hp ev he hc W => ?_)
            have q28 : ev (.tmp 28) = .slice (some ⟨b, o + m * 65, none⟩) (len - m) (cap - m) := (he (.tmp 28)).trans (hp 5 28 rfl)
            simp only [List.getElem_toArray, List.getElem_cons_succ, List.getElem_cons_zero, execOp, Option.map_some, Option.map_none]; rw [q28]
            first | (go_simp; done) | (go_simp; rfl) | rfl
        intro W3 VW3 hOW3
        have BW3 : Hid (Below W9.heap.size W9 W3) := hOW3
        clear hOW3
        simp only [RU.lay, RU.val, RU.at', rhvf, Act.put]
        simp only [List.setIfInBounds_toArray, List.set_cons_succ, List.set_cons_zero]
        go_wp2_with fail
        go_ret2
        rw [E.out]
        have hns : NS W3 (.slice (some ⟨b, o, none⟩) l.length cap) l := ((HNS.out.below H4.out).below B9.out).below BW3.out
        refine ⟨_, _, rfl, hns.take HNE.out (by rw [HLEN.out]; omega), ?_, H4.out.trans ((B9.out.trans (BW3.out.mono B9.out.size)).mono H4.out.size)⟩
        have := hns.drop HNE.out (m := m) (by rw [HLEN.out]; omega)
        rw [HLEN.out] at this
        exact this
    · have E : cut c l = m := cut_uniq c l m (by have := HLEN.out; omega) HA.out (fun y hy => by
        have := (List.getElem?_eq_some_iff.1 hy).1
        have := HLEN.out; omega)
      have := HCUT.out
      omega
end Go.Proofs.YtpojalbpekbfdaaDoor
/- The reference: over. -/
namespace Go.Proofs.YtpojalbpekbfdaaDoor
open Go Go.RowKit
set_option linter.unusedSimpArgs false
set_option linter.unusedVariables false
set_option maxRecDepth 100000

def ro3f (b o len cap e : Nat) (p0 p1 : List Int) : Nat → Value
  | 0 => .slice (some ⟨b, o, none⟩) len cap
  | 1 => .pointer (some ⟨b, o, none⟩)
  | 2 => .pointer (some ⟨b, o + 1, none⟩)
  | 3 => .agg (bv p0).toArray
  | 4 => .slice (some ⟨b, o, none⟩) len cap
  | 5 => .slice (some ⟨b, o, none⟩) len cap
  | 6 => .int .i64 (len : Int)
  | 7 => .int .i64 (e : Int)
  | 8 => .pointer (some ⟨b, o + e * 65, none⟩)
  | 9 => .pointer (some ⟨b, o + e * 65 + 1, none⟩)
  | 10 => .agg (bv p1).toArray
  | _ => undef
set_option maxHeartbeats 4000000 in
theorem rover_any : ∀ (n : Nat) (l : List Nd), l.length ≤ n → Rsn l → l ≠ [] → l.length ≤ 140737488355328 → ∀ (v : Value) (w : World), NS w v l →
    Calls Tryd.prog 34 #[v] w fun e w' => e = .returned (.agg (nc (ovl l)).toArray) ∧ Below w.heap.size w w'
  | 0, l, hl, _, hne, _, _, _, _ => absurd (List.length_eq_zero_iff.1 (Nat.le_zero.1 hl)) hne
  | n + 1, l, hl, hr, hne, hlen, v, w, hv => by
    have IH := rover_any n
    have hz := zero_nd
    obtain ⟨Z, hZ⟩ : ∃ Z, (nc ndz).toArray = Z := ⟨_, rfl⟩
    have hZs : Z.size = 65 := by rw [← hZ]; exact nc_size ndz_ok
    rw [hZ] at hz
    clear hZ
    have rz : (w.alloc (.cells Z 44)).heap[w.heap.size]? = some (.cells Z 44 (0, 0)) := by show (w.heap.push _)[w.heap.size]? = _; simp
    have rl : Below w.heap.size w (w.alloc (.cells Z 44)) := (Below.refl _ w).alloc (Nat.le_refl _) _
    have rs : (w.alloc (.cells Z 44)).heap.size = w.heap.size + 1 := by simp
    obtain ⟨U, hU⟩ : ∃ U, w.alloc (.cells Z 44) = U := ⟨_, rfl⟩
    rw [hU] at rz rl rs
    have BU : Hid (Below w.heap.size w U) := rl
    have VU : Hid (NS U v l) := hv.below rl
    obtain ⟨D, hD⟩ : ∃ D, w.heap.size = D := ⟨_, rfl⟩
    have HD : Hid (w.heap.size = D) := hD
    rw [hD] at rz rs
    have RZ : Hid (U.heap[D]? = some (.cells Z 44 (0, 0))) := rz
    have SU : Hid (U.heap.size = D + 1) := rs
    have HIH : Hid (∀ (l : List Nd), l.length ≤ n → Rsn l → l ≠ [] → l.length ≤ 140737488355328 → ∀ (v : Value) (w : World), NS w v l → Calls Tryd.prog 34 #[v] w fun e w' => e = .returned (.agg (nc (ovl l)).toArray) ∧ Below w.heap.size w w') := IH
    clear rz rl rs IH
    obtain ⟨ad, cap, rfl, hcp, hx⟩ := hv
    by_cases h1 : l.length = 1
    · obtain ⟨x, rfl⟩ := List.length_eq_one_iff.1 h1
      rcases hx with ⟨h0, _⟩ | ⟨b, o, rfl, hlb, hm⟩
      · cases h0
      have RX : Hid (U.rangeAt b o (nc x)) := by have := hm 0 x rfl; rw [show o + 0 * 65 = o by omega] at this; exact range_below this BU.out hlb
      have HX : Hid x.Ok := hr.ris.ok x (by simp)
      have HE : Hid (ovl [x] = x) := rfl
      clear hm hr hcp
      rw [HE.out]
      simp only [List.length_singleton]
      go_enter Tryd.func34, Tryd.ntmps34
      go_upto_region 1 with (fail)
      try rw [hU]
      try rw [hD]
      clear hU hD hz
      go_wp2_with (first
        | (refine ld 44 (.tmp 12) rfl rfl b o rfl (nc x) _ RX.out Tryd.underlying44 rfl (size_nc HX.out) ?_)
        | (refine wpList_store_mid rfl 44 (.tmp 2) (.tmp 13) rfl D 0 (nc x).toArray rfl rfl (by rw [nc_size HX.out]; exact there_of_row' RZ.out 0 65 (by omega)) (by rw [List.size_toArray]; exact size_nc HX.out) (nc_one _) ?_; simp only [List.toList_toArray]))
      have qq : (U.setCells D 0 (nc x)).rangeAt D 0 (nc x) := World.rangeAt_setCells_same _ _ _ _ (by rw [nc_length HX.out]; exact there_of_row' RZ.out 0 65 (by omega))
      have hbl : Below w.heap.size w (U.setCells D 0 (nc x)) := below_setCells (by rw [HD.out]; exact Nat.le_refl _) _ _ BU.out
      refine bodyPost_ret (v := .agg (nc x).toArray) ?_ rfl ⟨rfl, hbl⟩
      simp only [results, Tryd.results34]
      simp [Act.put, asAddr, run_loadVar_mid _ D 0 44 (nc x) _ qq Tryd.underlying44 rfl (size_nc HX.out)]
    · have hl2 : 2 ≤ l.length := by have := List.length_pos_iff.2 hne; omega
      obtain ⟨k1, k2⟩ := hr.ris.cut_in hl2
      have hcl := hr.ris.cl_lt hl2
      obtain ⟨x0, hx0⟩ : ∃ x, l[0]? = some x := ⟨l[0]'(by omega), List.getElem?_eq_getElem (by omega)⟩
      obtain ⟨x1, hx1⟩ : ∃ x, l[l.length - 1]? = some x := ⟨l[l.length - 1]'(by omega), List.getElem?_eq_getElem (by omega)⟩
      have HP0 : Hid (L32 x0.p) := (hr.ris.ok x0 (List.mem_of_getElem? hx0)).p
      have HP1 : Hid (L32 x1.p) := (hr.ris.ok x1 (List.mem_of_getElem? hx1)).p
      obtain ⟨m, hm⟩ : ∃ m, cut (cl l) l = m := ⟨_, rfl⟩
      have t1 : (l.take m).length = m := by rw [List.length_take]; omega
      have t2 : (l.drop m).length = l.length - m := by rw [List.length_drop]
      have n1 : l.take m ≠ [] := fun e => by rw [e] at t1; simp at t1; omega
      have n2 : l.drop m ≠ [] := fun e => by rw [e] at t2; simp at t2; omega
      obtain ⟨c, hc⟩ : ∃ c, cl l = c := ⟨_, rfl⟩
      have HE0 : ovl l = jnd c x0.p (ovl (l.take m)) (ovl (l.drop m)) := by
        obtain ⟨f, hf⟩ : ∃ f, l.length = f + 1 := ⟨l.length - 1, by omega⟩
        have e1 : ovl (l.take m) = ov f (l.take m) := ov_fuel _ _ _ (hr.ris.sub (List.take_sublist _ _)) n1 (Nat.le_refl _) (by omega)
        have e2 : ovl (l.drop m) = ov f (l.drop m) := ov_fuel _ _ _ (hr.ris.sub (List.drop_sublist _ _)) n2 (Nat.le_refl _) (by omega)
        rw [e1, e2]
        show ov l.length l = _
        rw [hf]
        simp only [ov]
        rw [if_neg (by omega), hm, hc, hp_eq hx0]
      obtain ⟨o1, o2, o3⟩ : (ovl (l.take m)).Ok ∧ 0 ≤ (ovl (l.take m)).n ∧ (ovl (l.take m)).n ≤ 256 := ov_ok (hr.sub (List.take_sublist m l)) n1 _ (Nat.le_refl _)
      obtain ⟨p1, p2, p3⟩ : (ovl (l.drop m)).Ok ∧ 0 ≤ (ovl (l.drop m)).n ∧ (ovl (l.drop m)).n ≤ 256 := ov_ok (hr.sub (List.drop_sublist m l)) n2 _ (Nat.le_refl _)
      have HCM : Hid (∀ W : World, Calls Tryd.prog 40 #[.agg (bv x0.p).toArray, .agg (bv x1.p).toArray, .int .i64 256] W fun e w' => e = .returned (.int .i64 (c : Int)) ∧ Below W.heap.size W w') := fun W => by
        have := rCommon_any x0.p x1.p W HP0.out HP1.out 256 (Nat.le_refl _)
        rw [← hc]; unfold cl; rw [hp_eq hx0, lp_eq hx1]; exact this
      have HHV : Hid (∀ (v : Value) (W : World), NS W v l → Calls Tryd.prog 42 #[v, .int .i64 (c : Int)] W fun e w' => ∃ v1 v2, e = .returned (.tuple #[v1, v2]) ∧ NS w' v1 (l.take m) ∧ NS w' v2 (l.drop m) ∧ Below W.heap.size W w') := fun v W hW => by
        have := rHalves_any l hr.ris.ok c (by omega) (by rw [← hc]; exact k2) v W hW hlen
        rw [← hc, hm] at this; rw [← hc]; exact this
      have HO1 : Hid (∀ (v : Value) (W : World), NS W v (l.take m) → Calls Tryd.prog 34 #[v] W fun e w' => e = .returned (.agg (nc (ovl (l.take m))).toArray) ∧ Below W.heap.size W w') := HIH.out _ (by omega) (hr.sub (List.take_sublist m l)) n1 (by omega)
      have HO2 : Hid (∀ (v : Value) (W : World), NS W v (l.drop m) → Calls Tryd.prog 34 #[v] W fun e w' => e = .returned (.agg (nc (ovl (l.drop m))).toArray) ∧ Below W.heap.size W w') := HIH.out _ (by omega) (hr.sub (List.drop_sublist m l)) n2 (by omega)
      have HIN : Hid (∀ W : World, Calls Tryd.prog 59 #[.agg (nc (ovl (l.take m))).toArray, .agg (nc (ovl (l.drop m))).toArray] W fun e w' => ∃ v', e = .returned v' ∧ Ow W.heap.size w' v' ([2] ++ nbs (ovl (l.take m)) ++ nbs (ovl (l.drop m))) ∧ Below W.heap.size W w') := fun W => rInner_any _ _ o1 p1 o2 o3 p2 p3 W
      obtain ⟨H, hH⟩ : ∃ H, hs ([2] ++ nbs (ovl (l.take m)) ++ nbs (ovl (l.drop m))) = H := ⟨_, rfl⟩
      have HSU : Hid (∀ (v : Value) (W : World), Sq W v ([2] ++ nbs (ovl (l.take m)) ++ nbs (ovl (l.drop m))) → Calls Tryd.prog 32 #[v] W fun e w' => e = .returned (.agg (bv H).toArray) ∧ Below W.heap.size W w') := fun v W q2 => rsum_sl _ H v hH (by rw [List.length_append, List.length_append, nbs_length o1, nbs_length p1]; simp) W (Byt.append (Byt.append (fun z hz => by simp at hz; omega) (nbs_byt o1 o2 o3)) (nbs_byt p1 p2 p3)) q2
      obtain ⟨q, hq⟩ : ∃ q, fb x0.p c = q := ⟨_, rfl⟩
      have HFB : Hid (∀ W : World, Calls Tryd.prog 58 #[.agg (bv x0.p).toArray, .int .i64 (c : Int)] W fun e w' => e = .returned (.agg (bv q).toArray) ∧ Below W.heap.size W w') := fun W => by rw [← hq]; exact rFirst_any x0.p HP0.out c (by omega) W
      have HQ : Hid (L32 q) := by rw [← hq]; exact fb_l32 HP0.out c
      have HHL : Hid (L32 H) := by rw [← hH]; exact hs_l32 _
      have HE2 : ovl l = ⟨(c : Int), q, H⟩ := by rw [HE0]; unfold jnd; rw [hq, hH]
      have HBN : Hid (∀ W : World, (Instr.build 44 #[(0, .int .i64 (c : Int)), (1, .agg (bv q).toArray), (2, .agg (bv H).toArray)]).run Tryd.prog W = .ok (.agg (nc ⟨(c : Int), q, H⟩).toArray) W) := build_nd (c : Int) HQ.out HHL.out
      rw [HE2]
      rcases hx with ⟨h0, _⟩ | ⟨b, o, rfl, hlb, hmm⟩
      · exact absurd h0 hne
      obtain ⟨e, hel⟩ : ∃ e, l.length = e + 1 := ⟨l.length - 1, by omega⟩
      have R0 : Hid (U.rangeAt b (o + 1) (bv x0.p)) := by have := nc_p (range_below (hmm 0 x0 hx0) BU.out hlb); rw [show o + 0 * 65 = o by omega] at this; exact this
      have R1 : Hid (U.rangeAt b (o + e * 65 + 1) (bv x1.p)) := by have := nc_p (range_below (hmm _ x1 hx1) BU.out hlb); rw [show l.length - 1 = e by omega] at this; exact this
      have hbU : Hid (b < U.heap.size) := Nat.lt_of_lt_of_le hlb BU.out.size
      have HLZ : Hid ((bv z32).length = 32) := by show (bv z32).length = 32; rw [bv_length, z32_l32.len]
      obtain ⟨X, hX⟩ : ∃ X, ovl (l.take m) = X := ⟨_, rfl⟩
      obtain ⟨Y, hY⟩ : ∃ Y, ovl (l.drop m) = Y := ⟨_, rfl⟩
      rw [hX] at HO1 HIN HSU
      rw [hY] at HO2 HIN HSU
      obtain ⟨p0, hp0⟩ : ∃ p, x0.p = p := ⟨_, rfl⟩
      obtain ⟨p1', hp1⟩ : ∃ p, x1.p = p := ⟨_, rfl⟩
      rw [hp0] at HP0 HCM HFB R0
      rw [hp1] at HP1 HCM R1
      have HLP0 : Hid ((bv p0).length = 32) := by show (bv p0).length = 32; rw [bv_length, HP0.out.len]
      have HLP1 : Hid ((bv p1').length = 32) := by show (bv p1').length = 32; rw [bv_length, HP1.out.len]
      obtain ⟨len, hlenq⟩ : ∃ len, l.length = len := ⟨_, rfl⟩
      have HE : Hid (len = e + 1) := by rw [← hlenq]; exact hel
      rw [hlenq] at h1 hl2 hlen VU ⊢
      have h1' : ¬ (len : Int) = 1 := by omega
      have hz2 := zero_32
      rw [show List.replicate 32 (0 : Int) = z32 from rfl] at hz2
      clear hr hmm hcp o1 o2 o3 p1 p2 p3 n1 n2 t1 t2 k1 k2 hm hX hY hlenq hel hx0 hx1 hq hH HE0 HE2 hc hp0 hp1 hcl
      go_enter Tryd.func34, Tryd.ntmps34
      go_upto_region 1 with (fail)
      try rw [hU]
      try rw [hD]
      clear hU hD hz
      go_wp2_with fail
      refine RG.wp_rgn' (TwI U (ro3f b o len cap e p0 p1') (bv p0) (bv p1') (bv z32) 32 11 (11 + 1) (11 + 2) (11 + 3)) (by kernel_rfl) (by kernel_rfl) ⟨(fun _ _ h => by cases h), (Below.refl _ _).drew, (fun h => by cases h), (fun h => by cases h), (fun h => by cases h)⟩ ?_ ?_
      · refine ⟨?_, ?_, ?_, ?_, ?_, ?_, ?_, ?_, ?_, ?_, ?_, ?_, ?_, ?_, ?_, trivial⟩
        · intro a W d V hI hd hpx hbk hf hp
          have hO' : Below U.heap.size U W := hI.be
          refine RU.ob_val (v := .slice (some ⟨b, o, none⟩) len cap) rfl (RU.wanted_none rfl) (fun ev he hc => ?_) ⟨_, rfl, hI.silent (i := 0) (by decide)⟩
          have q0 : ev (.tmp 0) = .slice (some ⟨b, o, none⟩) len cap := (he (.tmp 0)).trans (hf 0 rfl)
          simp only [List.getElem_toArray, List.getElem_cons_succ, List.getElem_cons_zero, execOp, Option.map_some, Option.map_none]; rw [q0]
          first | (go_simp; done) | (go_simp; rfl) | rfl
        · intro a W d V hI hd hpx hbk hf hp
          have hO' : Below U.heap.size U W := hI.be
          refine RU.ob_val (v := .pointer (some ⟨b, o, none⟩)) rfl (RU.wanted_none rfl) (fun ev he hc => ?_) ⟨_, rfl, hI.silent (i := 1) (by decide)⟩
          have q14 : ev (.tmp 14) = .slice (some ⟨b, o, none⟩) len cap := (he (.tmp 14)).trans ((hp 0 14 rfl).trans (hI.si 0 (by decide) (hpx 0 rfl)))
          simp only [List.getElem_toArray, List.getElem_cons_succ, List.getElem_cons_zero, execOp, Option.map_some, Option.map_none]; rw [q14]
          try simp only [hc]
          have hl0 : (0 : Int) < (len : Int) := by have := HE.out; omega
          have hl1 : 0 < len := by have := HE.out; omega
          first | (go_simp; done) | (go_simp; rfl) | rfl
        · intro a W d V hI hd hpx hbk hf hp
          have hO' : Below U.heap.size U W := hI.be
          refine RU.ob_val (v := .pointer (some ⟨b, o + 1, none⟩)) rfl (RU.wanted_none rfl) (fun ev he hc => ?_) ⟨_, rfl, hI.silent (i := 2) (by decide)⟩
          have q15 : ev (.tmp 15) = .pointer (some ⟨b, o, none⟩) := (he (.tmp 15)).trans ((hp 1 15 rfl).trans (hI.si 1 (by decide) (hpx 1 rfl)))
          simp only [List.getElem_toArray, List.getElem_cons_succ, List.getElem_cons_zero, execOp, Option.map_some, Option.map_none]; rw [q15]
          first | (go_simp; done) | (go_simp; rfl) | rfl
        · intro a W d V hI hd hpx hbk hf hp
          have hO' : Below U.heap.size U W := hI.be
          have q16 : a.eval (.tmp 16) = .pointer (some ⟨b, o + 1, none⟩) := (hp 2 16 rfl).trans (hI.si 2 (by decide) (hpx 2 rfl))
          exact RU.ob_op rfl (RU.wanted_none rfl) (wp_load_mid 31 (.tmp 16) rfl (b) (o + 1) q16 (bv p0) _ (range_below R0.out hO' hbU.out) Tryd.underlying31 rfl (size_l32 HP0.out) ⟨_, rfl, hI.silent (i := 3) (by decide)⟩)
        · intro a W d V hI hd hpx hbk hf hp
          have hO' : Below U.heap.size U W := hI.be
          refine RU.ob_val (v := .slice (some ⟨b, o, none⟩) len cap) rfl (RU.wanted_none rfl) (fun ev he hc => ?_) ⟨_, rfl, hI.silent (i := 4) (by decide)⟩
          have q0 : ev (.tmp 0) = .slice (some ⟨b, o, none⟩) len cap := (he (.tmp 0)).trans (hf 0 rfl)
          simp only [List.getElem_toArray, List.getElem_cons_succ, List.getElem_cons_zero, execOp, Option.map_some, Option.map_none]; rw [q0]
          first | (go_simp; done) | (go_simp; rfl) | rfl
        · intro a W d V hI hd hpx hbk hf hp
          have hO' : Below U.heap.size U W := hI.be
          refine RU.ob_val (v := .slice (some ⟨b, o, none⟩) len cap) rfl (RU.wanted_none rfl) (fun ev he hc => ?_) ⟨_, rfl, hI.silent (i := 5) (by decide)⟩
          have q0 : ev (.tmp 0) = .slice (some ⟨b, o, none⟩) len cap := (he (.tmp 0)).trans (hf 0 rfl)
          simp only [List.getElem_toArray, List.getElem_cons_succ, List.getElem_cons_zero, execOp, Option.map_some, Option.map_none]; rw [q0]
          first | (go_simp; done) | (go_simp; rfl) | rfl
        · intro a W d V hI hd hpx hbk hf hp
          have hO' : Below U.heap.size U W := hI.be
          refine RU.ob_val (v := .int .i64 (len : Int)) rfl (RU.wanted_none rfl) (fun ev he hc => ?_) ⟨_, rfl, hI.silent (i := 6) (by decide)⟩
          have q19 : ev (.tmp 19) = .slice (some ⟨b, o, none⟩) len cap := (he (.tmp 19)).trans ((hp 5 19 rfl).trans (hI.si 5 (by decide) (hpx 5 rfl)))
          simp only [List.getElem_toArray, List.getElem_cons_succ, List.getElem_cons_zero, execOp, Option.map_some, Option.map_none]; simp only [resolve, invoke, builtin, Sem.run_bind, Sem.run_pure, Result.andThen_ok, List.map_toArray, List.map_cons, List.map_nil, q19]
          first | (go_simp; done) | (go_simp; rfl) | rfl
        · intro a W d V hI hd hpx hbk hf hp
          have hO' : Below U.heap.size U W := hI.be
          refine RU.ob_val (v := .int .i64 (e : Int)) rfl (RU.wanted_none rfl) (fun ev he hc => ?_) ⟨_, rfl, hI.silent (i := 7) (by decide)⟩
          have q20 : ev (.tmp 20) = .int .i64 (len : Int) := (he (.tmp 20)).trans ((hp 6 20 rfl).trans (hI.si 6 (by decide) (hpx 6 rfl)))
          simp only [List.getElem_toArray, List.getElem_cons_succ, List.getElem_cons_zero, execOp, Option.map_some, Option.map_none]; rw [q20]
          try simp only [hc]
          have hw1 : IntKind.i64.wrap ((len : Int) - 1) = (e : Int) := by have := HE.out; rw [IntKind.wrap_i64]; omega
          first | (go_simp; done) | (go_simp; rfl) | rfl
        · intro a W d V hI hd hpx hbk hf hp
          have hO' : Below U.heap.size U W := hI.be
          refine RU.ob_val (v := .pointer (some ⟨b, o + e * 65, none⟩)) rfl (RU.wanted_none rfl) (fun ev he hc => ?_) ⟨_, rfl, hI.silent (i := 8) (by decide)⟩
          have q18 : ev (.tmp 18) = .slice (some ⟨b, o, none⟩) len cap := (he (.tmp 18)).trans ((hp 4 18 rfl).trans (hI.si 4 (by decide) (hpx 4 rfl)))
          have q21 : ev (.tmp 21) = .int .i64 (e : Int) := (he (.tmp 21)).trans ((hp 7 21 rfl).trans (hI.si 7 (by decide) (hpx 7 rfl)))
          simp only [List.getElem_toArray, List.getElem_cons_succ, List.getElem_cons_zero, execOp, Option.map_some, Option.map_none]; rw [q18, q21]
          have he9 : (e : Int) < (len : Int) := by have := HE.out; omega
          first | (go_simp; done) | (go_simp; rfl) | rfl
        · intro a W d V hI hd hpx hbk hf hp
          have hO' : Below U.heap.size U W := hI.be
          refine RU.ob_val (v := .pointer (some ⟨b, o + e * 65 + 1, none⟩)) rfl (RU.wanted_none rfl) (fun ev he hc => ?_) ⟨_, rfl, hI.silent (i := 9) (by decide)⟩
          have q22 : ev (.tmp 22) = .pointer (some ⟨b, o + e * 65, none⟩) := (he (.tmp 22)).trans ((hp 8 22 rfl).trans (hI.si 8 (by decide) (hpx 8 rfl)))
          simp only [List.getElem_toArray, List.getElem_cons_succ, List.getElem_cons_zero, execOp, Option.map_some, Option.map_none]; rw [q22]
          first | (go_simp; done) | (go_simp; rfl) | rfl
        · intro a W d V hI hd hpx hbk hf hp
          have hO' : Below U.heap.size U W := hI.be
          have q23 : a.eval (.tmp 23) = .pointer (some ⟨b, o + e * 65 + 1, none⟩) := (hp 9 23 rfl).trans (hI.si 9 (by decide) (hpx 9 rfl))
          exact RU.ob_op rfl (RU.wanted_none rfl) (wp_load_mid 31 (.tmp 23) rfl (b) (o + e * 65 + 1) q23 (bv p1') _ (range_below R1.out hO' hbU.out) Tryd.underlying31 rfl (size_l32 HP1.out) ⟨_, rfl, hI.silent (i := 10) (by decide)⟩)
        · intro a W d V hI hd hpx hbk hf hp
          have hO' : Below U.heap.size U W := hI.be
          refine RU.ob_run (v := .pointer (some ⟨W.heap.size, 0, none⟩)) (w' := W.alloc (.cells (bv z32).toArray 31)) rfl (RU.wanted_none rfl) (fun ev he hc => ?_) ⟨_, rfl, hI.alloc1 31 (HLZ.out) (hbk 13 rfl)⟩
          simp only [List.getElem_toArray, List.getElem_cons_succ, List.getElem_cons_zero, execOp]
          first | (go_simp; done) | (go_simp; rfl)
        · intro a W d V hI hd hpx hbk hf hp
          have hO' : Below U.heap.size U W := hI.be
          refine RU.ob_run (v := .pointer (some ⟨W.heap.size, 0, none⟩)) (w' := W.alloc (.cells (bv z32).toArray 31)) rfl (RU.wanted_none rfl) (fun ev he hc => ?_) ⟨_, rfl, hI.alloc2 31 (HLZ.out) (hbk 14 rfl)⟩
          simp only [List.getElem_toArray, List.getElem_cons_succ, List.getElem_cons_zero, execOp]
          first | (go_simp; done) | (go_simp; rfl)
        · intro a W d V hI hd hpx hbk hf hp
          have hO' : Below U.heap.size U W := hI.be
          have d9 : d 11 = true := hpx 11 rfl
          have d10 : d (11 + 1) = true := hpx 12 rfl
          obtain ⟨b, hV, -, -, hth, -⟩ := hI.p9 d9
          have qp : a.eval (.tmp 3) = .pointer (some ⟨b, 0, none⟩) := (hp 11 3 rfl).trans hV
          have qv : a.eval (.tmp 17) = .agg (bv p0).toArray := (hp 3 17 rfl).trans (hI.si 3 (by decide) (hpx 3 rfl))
          exact RU.ob_op rfl (RU.wanted_none rfl) (wp_store_mid 31 (.tmp 3) (.tmp 17) rfl b 0 (bv p0).toArray qp qv (by rw [List.size_toArray, HLP0.out]; exact hth) (by rw [List.size_toArray]; exact size_l32 HP0.out) (bv_one' _) ⟨_, rfl, by simp only [List.toList_toArray]; exact hI.store1 (HLP0.out) d9 d10 hV _⟩)
        · intro a W d V hI hd hpx hbk hf hp
          have hO' : Below U.heap.size U W := hI.be
          have d9 : d 11 = true := hpx 11 rfl
          have d10 : d (11 + 1) = true := hpx 12 rfl
          obtain ⟨b, hV, -, -, hth, -⟩ := hI.p10 d10
          have qp : a.eval (.tmp 4) = .pointer (some ⟨b, 0, none⟩) := (hp 12 4 rfl).trans hV
          have qv : a.eval (.tmp 24) = .agg (bv p1').toArray := (hp 10 24 rfl).trans (hI.si 10 (by decide) (hpx 10 rfl))
          exact RU.ob_op rfl (RU.wanted_none rfl) (wp_store_mid 31 (.tmp 4) (.tmp 24) rfl b 0 (bv p1').toArray qp qv (by rw [List.size_toArray, HLP1.out]; exact hth) (by rw [List.size_toArray]; exact size_l32 HP1.out) (bv_one' _) ⟨_, rfl, by simp only [List.toList_toArray]; exact hI.store2 (HLP1.out) d9 d10 hV _⟩)
      intro W1 dW1 VW1 hal hI
      have BW1 : Hid (Below U.heap.size U W1) := hI.be
      obtain ⟨b9, hV9, hb9, hl9, -, hr9⟩ := hI.p9 (hal 11 (by decide))
      obtain ⟨b10, hV10, hb10, hl10, -, hr10⟩ := hI.p10 (hal (11 + 1) (by decide))
      rw [if_pos (hal (11 + 2) (by decide))] at hr9
      rw [if_pos (hal (11 + 3) (by decide))] at hr10
      have hs0 : VW1 0 = .slice (some ⟨b, o, none⟩) len cap := hI.si 0 (by decide) (hal 0 (by decide))
      have hs1 : VW1 1 = .pointer (some ⟨b, o, none⟩) := hI.si 1 (by decide) (hal 1 (by decide))
      have hs2 : VW1 2 = .pointer (some ⟨b, o + 1, none⟩) := hI.si 2 (by decide) (hal 2 (by decide))
      have hs3 : VW1 3 = .agg (bv p0).toArray := hI.si 3 (by decide) (hal 3 (by decide))
      have hs4 : VW1 4 = .slice (some ⟨b, o, none⟩) len cap := hI.si 4 (by decide) (hal 4 (by decide))
      have hs5 : VW1 5 = .slice (some ⟨b, o, none⟩) len cap := hI.si 5 (by decide) (hal 5 (by decide))
      have hs6 : VW1 6 = .int .i64 (len : Int) := hI.si 6 (by decide) (hal 6 (by decide))
      have hs7 : VW1 7 = .int .i64 (e : Int) := hI.si 7 (by decide) (hal 7 (by decide))
      have hs8 : VW1 8 = .pointer (some ⟨b, o + e * 65, none⟩) := hI.si 8 (by decide) (hal 8 (by decide))
      have hs9 : VW1 9 = .pointer (some ⟨b, o + e * 65 + 1, none⟩) := hI.si 9 (by decide) (hal 9 (by decide))
      have hs10 : VW1 10 = .agg (bv p1').toArray := hI.si 10 (by decide) (hal 10 (by decide))
      have hV10' : VW1 12 = .pointer (some ⟨b10, 0, none⟩) := hV10
      simp only [RU.lay, Act.put, hV9, hV10', hs0, hs1, hs2, hs3, hs4, hs5, hs6, hs7, hs8, hs9, hs10]
      simp only [List.setIfInBounds_toArray, List.set_cons_succ, List.set_cons_zero]
      have RR9 : Hid (W1.rangeAt b9 0 (bv p0)) := hr9
      have RR10 : Hid (W1.rangeAt b10 0 (bv p1')) := hr10
      have LL9 : Hid (b9 < W1.heap.size) := hl9
      have LL10 : Hid (b10 < W1.heap.size) := hl10
      clear hI hal hV9 hV10 hV10' hb9 hb10 hl9 hl10 hr9 hr10 hs0 hs1 hs2 hs3 hs4 hs5 hs6 hs7 hs8 hs9 hs10
      have VW : Hid (NS W1 (.slice (some ⟨b, o, none⟩) len cap) l) := VU.out.below BW1.out
      go_wp2_with (first
        | (refine ld 31 (.tmp 3) rfl rfl b9 0 rfl (bv p0) _ RR9.out Tryd.underlying31 rfl (size_l32 HP0.out) ?_)
        | (refine ld 31 (.tmp 4) rfl rfl b10 0 rfl (bv p1') _ RR10.out Tryd.underlying31 rfl (size_l32 HP1.out) ?_)
        | (go_at_call 40; refine (HCM.out W1).mono ?_; rintro e' w2 ⟨rfl, g1⟩; have B2 : Hid (Below W1.heap.size W1 w2) := g1; clear g1)
        | (go_at_call 42; refine (HHV.out _ w2 (VW.out.below B2.out)).mono ?_; rintro e' w3 ⟨v1, v2, rfl, g1, g2, g3⟩; have N1 : Hid (NS w3 v1 (l.take m)) := g1; have N2 : Hid (NS w3 v2 (l.drop m)) := g2; have B3 : Hid (Below W1.heap.size W1 w3) := B2.out.trans (g3.mono B2.out.size); clear g1 g2 g3)
        | (refine ld 31 (.tmp 3) rfl rfl b9 0 rfl (bv p0) _ (range_below RR9.out B3.out LL9.out) Tryd.underlying31 rfl (size_l32 HP0.out) ?_)
        | (go_at_call 58; refine (HFB.out w3).mono ?_; rintro e' w4 ⟨rfl, g1⟩; have B4 : Hid (Below w3.heap.size w3 w4) := g1; clear g1)
        | (go_at_call 34; refine (HO2.out v2 w5 ((N2.out.below B4.out).below B5.out)).mono ?_; rintro e' w6 ⟨rfl, g1⟩; have B6 : Hid (Below w5.heap.size w5 w6) := g1; clear g1)
        | (go_at_call 34; refine (HO1.out v1 w4 (N1.out.below B4.out)).mono ?_; rintro e' w5 ⟨rfl, g1⟩; have B5 : Hid (Below w4.heap.size w4 w5) := g1; clear g1)
        | (go_at_call 59; refine (HIN.out w6).mono ?_; rintro e' w7 ⟨v7, rfl, g1, g2⟩; have O7 : Hid (Ow w6.heap.size w7 v7 ([2] ++ nbs X ++ nbs Y)) := g1; have B7 : Hid (Below w6.heap.size w6 w7) := g2; clear g1 g2))
      refine (HSU.out v7 w7 O7.out.sq).mono ?_
      rintro e' w8 ⟨rfl, g8⟩
      have B8 : Hid (Below U.heap.size U w8) := BW1.out.trans ((B3.out.trans ((B4.out.trans ((B5.out.trans ((B6.out.trans ((B7.out.trans (g8.mono B7.out.size)).mono B6.out.size)).mono B5.out.size)).mono B4.out.size)).mono B3.out.size)).mono BW1.out.size)
      clear g8
      dsimp only
      refine ‹∀ (a : Act) (w : World), wpList Tryd.prog _ _ _ a w → _› _ _ ?_
      refine wp_build3 44 (.tmp 34) (.tmp 37) (.tmp 43) rfl rfl (.int .i64 (c : Int)) (.agg (bv q).toArray) (.agg (bv H).toArray) rfl rfl rfl (nc ⟨(c : Int), q, H⟩).toArray (HBN.out w8) ?_
      refine wpList_store_mid rfl 44 (.tmp 2) (.tmp 44) rfl D 0 (nc ⟨(c : Int), q, H⟩).toArray rfl rfl (by rw [nc_size ⟨HQ.out, HHL.out⟩]; exact there_of_row' ((B8.out.block _ (by have := SU.out; omega)).trans RZ.out) 0 65 (by omega)) (by rw [List.size_toArray]; exact size_nc ⟨HQ.out, HHL.out⟩) (nc_one _) ?_
      simp only [List.toList_toArray]
      go_wp2_with fail
      have qq : (w8.setCells D 0 (nc ⟨(c : Int), q, H⟩)).rangeAt D 0 (nc ⟨(c : Int), q, H⟩) := World.rangeAt_setCells_same _ _ _ _ (by rw [nc_length ⟨HQ.out, HHL.out⟩]; exact there_of_row' ((B8.out.block _ (by have := SU.out; omega)).trans RZ.out) 0 65 (by omega))
      have hbl : Below w.heap.size w (w8.setCells D 0 (nc ⟨(c : Int), q, H⟩)) := below_setCells (by rw [HD.out]; exact Nat.le_refl _) _ _ (BU.out.trans (B8.out.mono BU.out.size))
      refine bodyPost_ret (v := .agg (nc ⟨(c : Int), q, H⟩).toArray) ?_ rfl ⟨rfl, hbl⟩
      simp only [results, Tryd.results34]
      simp [Act.put, asAddr, run_loadVar_mid _ D 0 44 (nc ⟨(c : Int), q, H⟩) _ qq Tryd.underlying44 rfl (size_nc ⟨HQ.out, HHL.out⟩)]
end Go.Proofs.YtpojalbpekbfdaaDoor
