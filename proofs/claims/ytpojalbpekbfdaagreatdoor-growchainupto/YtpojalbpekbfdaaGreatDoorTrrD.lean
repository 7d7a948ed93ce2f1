/- The reference: Halves. -/
import Derived.Test.YtpojalbpekbfdaaGreatDoorTrrA
import Derived.Test.YtpojalbpekbfdaaGreatDoorTreW
namespace Go.Proofs.YtpojalbpekbfdaaGreatDoor
open Go Go.RowKit
set_option linter.unusedSimpArgs false
set_option linter.unusedVariables false
set_option maxRecDepth 100000

theorem cut_uniq (c : Nat) : ∀ (l : List Nd) (k : Nat), k ≤ l.length → (∀ (i : Nat) (x : Nd), l[i]? = some x → i < k → bt x.p c = 0) → (∀ x, l[k]? = some x → bt x.p c ≠ 0) → cut c l = k
  | [], k, hk, _, _ => by simp at hk; subst hk; rfl
  | a :: r, 0, _, _, h => by simp only [cut]; rw [if_neg (h a rfl)]
  | a :: r, k + 1, hk, h1, h2 => by
    simp only [cut]
    rw [if_pos (h1 0 a rfl (by omega)), cut_uniq c r k (by simpa using hk) (fun i x hx hi => h1 (i + 1) x (by simpa using hx) (by omega)) (fun x hx => h2 x (by simpa using hx))]
def rhvf (b o len cap m : Nat) : Nat → Value
  | 0 => .slice (some ⟨b, o, none⟩) len cap
  | 1 => .int .i64 (m : Int)
  | 2 => .slice (some ⟨b, o, none⟩) m cap
  | 3 => .slice (some ⟨b, o, none⟩) len cap
  | 4 => .int .i64 (m : Int)
  | 5 => .slice (some ⟨b, o + m * 65, none⟩) (len - m) (cap - m)
  | 6 => .slice (some ⟨b, o, none⟩) m cap
  | 7 => .slice (some ⟨b, o + m * 65, none⟩) (len - m) (cap - m)
  | _ => undef
set_option maxHeartbeats 4000000 in
theorem rHalves_any (l : List Nd) (hk : ∀ x ∈ l, x.Ok) (c : Nat) (hc : c < 256) (hcut : cut c l < l.length) (v : Value) (w : World) (hv : NS w v l) (hn : l.length ≤ 140737488355328) :
    Calls Tryz.prog 39 #[v, .int .i64 (c : Int)] w fun e w' => ∃ v1 v2, e = .returned (.tuple #[v1, v2]) ∧ NS w' v1 (l.take (cut c l)) ∧ NS w' v2 (l.drop (cut c l)) ∧ Below w.heap.size w w' := by
  have HNS : Hid (NS w v l) := hv
  have hne : l ≠ [] := fun h0 => by rw [h0] at hcut; simp at hcut
  have HNE : Hid (l ≠ []) := hne
  obtain ⟨ad, cap, rfl, hcp, hx⟩ := hv
  rcases hx with ⟨h0, _⟩ | ⟨b, o, rfl, hlb, hmm⟩
  · exact absurd h0 hne
  have HOK : Hid (∀ x ∈ l, x.Ok) := hk
  have HMM : Hid (∀ (i : Nat) (x : Nd), l[i]? = some x → w.rangeAt b (o + i * 65) (nc x)) := hmm
  have HLB : Hid (b < w.heap.size) := hlb
  obtain ⟨len, hlen⟩ : ∃ len, l.length = len := ⟨_, rfl⟩
  have HLEN : Hid (l.length = len) := hlen
  have HCUT : Hid (cut c l < len) := by rw [← hlen]; exact hcut
  rw [hlen] at hn hcp ⊢
  clear hmm hlb hk hne hlen hcut
  go_enter Tryz.func39, Tryz.ntmps39
  go_wp2_with fail
  go_loopw [6] (fun i wr => ∃ k : Nat, k ≤ len ∧ i = .int .i64 (k : Int) ∧ (∀ (i : Nat) (x : Nd), l[i]? = some x → i < k → bt x.p c = 0) ∧ Below w.heap.size w wr) (fun i _ => len - (intOf i).toNat)
  case atStart => exact ⟨0, Nat.zero_le _, rfl, fun i x _ hi => by omega, Below.refl _ _⟩
  case round =>
    obtain ⟨m, hml, rfl, hall, h4⟩ := hrel
    have H4 : Hid (Below w.heap.size w wr) := h4
    have HA : Hid (∀ (i : Nat) (x : Nd), l[i]? = some x → i < m → bt x.p c = 0) := hall
    clear h4 hall
    by_cases hlt : m < len
    · obtain ⟨x, hx⟩ : ∃ x, l[m]? = some x := ⟨l[m]'(by have := HLEN.out; omega), List.getElem?_eq_getElem _⟩
      have HXK : Hid (l[m]? = some x) := hx
      have HP : Hid (L32 x.p) := (HOK.out x (List.mem_of_getElem? hx)).p
      have RP : Hid (wr.rangeAt b (o + m * 65 + 1) (bv x.p)) := nc_p (range_below (HMM.out m x hx) H4.out HLB.out)
      obtain ⟨z, hz⟩ : ∃ z, bt x.p c = z := ⟨_, rfl⟩
      have HBT : Hid (∀ W : World, Calls Tryz.prog 61 #[.agg (bv x.p).toArray, .int .i64 (c : Int)] W fun e w' => e = .returned (.int .u8 (z : Int)) ∧ Below W.heap.size W w') := fun W => by rw [← hz]; exact rBit_any x.p HP.out c hc W
      have HZ : Hid (bt x.p c = z) := hz
      clear hx hz
      by_cases he : z = 0
      · subst he
        go_wp2_with (first
          | (refine load_g rfl 32 (.tmp 15) rfl b (o + m * 65 + 1) rfl (bv x.p) _ RP.out Tryz.underlying32 rfl (size_l32 HP.out) ?_)
          | (go_at_call 61; refine (HBT.out wr).mono ?_; rintro e W9 ⟨rfl, g1⟩; have B9 : Hid (Below wr.heap.size wr W9) := g1; clear g1))
        exact ⟨⟨m + 1, by omega, by go_num, fun i y hy hi => by
          rcases Nat.lt_succ_iff_lt_or_eq.1 hi with q | rfl
          · exact HA.out i y hy q
          · rw [HXK.out] at hy; cases hy; exact HZ.out, H4.out.trans (B9.out.mono H4.out.size)⟩, by simp [intOf]; omega⟩
      · have he' : ¬ (z : Int) = 0 := by omega
        have E : Hid (cut c l = m) := cut_uniq c l m (by have := HLEN.out; omega) HA.out (fun y hy => by rw [HXK.out] at hy; cases hy; rw [HZ.out]; exact he)
        go_wp2_with (first
          | (refine load_g rfl 32 (.tmp 15) rfl b (o + m * 65 + 1) rfl (bv x.p) _ RP.out Tryz.underlying32 rfl (size_l32 HP.out) ?_)
          | (go_at_call 61; refine (HBT.out wr).mono ?_; rintro e W9 ⟨rfl, g1⟩; have B9 : Hid (Below wr.heap.size wr W9) := g1; clear g1))
        refine RU.wp_rgn' [] (rhvf b o len cap m) (fun _ => 0) (gΩ W9) (by kernel_rfl) (by kernel_rfl) (show Below W9.heap.size W9 _ from (Below.refl _ _).drew) ?_ ?_
        · refine ⟨?_, ?_, ?_, ?_, ?_, ?_, ?_, ?_, trivial⟩
          · refine RU.ObT.pure rfl rfl rfl (fun a V hf hp ev he hc W => ?_)
            have q0 : ev (.tmp 0) = .slice (some ⟨b, o, none⟩) len cap := (he (.tmp 0)).trans (hf 0 rfl)
            simp only [List.getElem_toArray, List.getElem_cons_succ, List.getElem_cons_zero, execOp, Option.map_some, Option.map_none]; rw [q0]
            first | (go_simp; done) | (go_simp; rfl) | rfl
          · refine RU.ObT.pure rfl rfl rfl (fun a V hf hp ev he hc W => ?_)
            have q6 : ev (.tmp 6) = .int .i64 (m : Int) := (he (.tmp 6)).trans (hf 6 rfl)
            simp only [List.getElem_toArray, List.getElem_cons_succ, List.getElem_cons_zero, execOp, Option.map_some, Option.map_none]; rw [q6]
            first | (go_simp; done) | (go_simp; rfl) | rfl
          · refine RU.ObT.pure rfl rfl rfl (fun a V hf hp ev he hc W => ?_)
            have q23 : ev (.tmp 23) = .slice (some ⟨b, o, none⟩) len cap := (he (.tmp 23)).trans (hp 0 23 rfl)
            have q24 : ev (.tmp 24) = .int .i64 (m : Int) := (he (.tmp 24)).trans (hp 1 24 rfl)
            simp only [List.getElem_toArray, List.getElem_cons_succ, List.getElem_cons_zero, execOp, Option.map_some, Option.map_none]; rw [q23, q24]
            have hm1 : (m : Int) ≤ (len : Int) := by omega
            have hm2 : (m : Int) ≤ (cap : Int) := by omega
            have hm3 : (len : Int) ≤ (cap : Int) := by omega
            first | (go_simp; done) | (go_simp; rfl) | rfl
          · refine RU.ObT.pure rfl rfl rfl (fun a V hf hp ev he hc W => ?_)
            have q0 : ev (.tmp 0) = .slice (some ⟨b, o, none⟩) len cap := (he (.tmp 0)).trans (hf 0 rfl)
            simp only [List.getElem_toArray, List.getElem_cons_succ, List.getElem_cons_zero, execOp, Option.map_some, Option.map_none]; rw [q0]
            first | (go_simp; done) | (go_simp; rfl) | rfl
          · refine RU.ObT.pure rfl rfl rfl (fun a V hf hp ev he hc W => ?_)
            have q6 : ev (.tmp 6) = .int .i64 (m : Int) := (he (.tmp 6)).trans (hf 6 rfl)
            simp only [List.getElem_toArray, List.getElem_cons_succ, List.getElem_cons_zero, execOp, Option.map_some, Option.map_none]; rw [q6]
            first | (go_simp; done) | (go_simp; rfl) | rfl
          · refine RU.ObT.pure rfl rfl rfl (fun a V hf hp ev he hc W => ?_)
            have q26 : ev (.tmp 26) = .slice (some ⟨b, o, none⟩) len cap := (he (.tmp 26)).trans (hp 3 26 rfl)
            have q27 : ev (.tmp 27) = .int .i64 (m : Int) := (he (.tmp 27)).trans (hp 4 27 rfl)
            simp only [List.getElem_toArray, List.getElem_cons_succ, List.getElem_cons_zero, execOp, Option.map_some, Option.map_none]; rw [q26, q27]
            have hm1 : (m : Int) ≤ (len : Int) := by omega
            have hm2 : (m : Int) ≤ (cap : Int) := by omega
            have hm3 : (len : Int) ≤ (cap : Int) := by omega
            have hcm : ¬ cap = m := by omega
            first | (go_simp; done) | (go_simp; rfl) | rfl
          · refine RU.ObT.pure rfl rfl rfl (fun a V hf hp ev he hc W => ?_)
            have q25 : ev (.tmp 25) = .slice (some ⟨b, o, none⟩) m cap := (he (.tmp 25)).trans (hp 2 25 rfl)
            simp only [List.getElem_toArray, List.getElem_cons_succ, List.getElem_cons_zero, execOp, Option.map_some, Option.map_none]; rw [q25]
            first | (go_simp; done) | (go_simp; rfl) | rfl
          · refine RU.ObT.pure rfl rfl rfl (fun a V hf hp ev he hc W => ?_)
            have q28 : ev (.tmp 28) = .slice (some ⟨b, o + m * 65, none⟩) (len - m) (cap - m) := (he (.tmp 28)).trans (hp 5 28 rfl)
            simp only [List.getElem_toArray, List.getElem_cons_succ, List.getElem_cons_zero, execOp, Option.map_some, Option.map_none]; rw [q28]
            first | (go_simp; done) | (go_simp; rfl) | rfl
        intro W3 VW3 hOW3
        have BW3 : Hid (Below W9.heap.size W9 W3) := hOW3
        clear hOW3
        simp only [RU.lay, RU.val, RU.at', rhvf, Act.put]
        simp only [List.setIfInBounds_toArray, List.set_cons_succ, List.set_cons_zero]
        go_wp2_with fail
        go_ret2
        rw [E.out]
        have hns : NS W3 (.slice (some ⟨b, o, none⟩) l.length cap) l := ((HNS.out.below H4.out).below B9.out).below BW3.out
        refine ⟨_, _, rfl, hns.take HNE.out (by rw [HLEN.out]; omega), ?_, H4.out.trans ((B9.out.trans (BW3.out.mono B9.out.size)).mono H4.out.size)⟩
        have := hns.drop HNE.out (m := m) (by rw [HLEN.out]; omega)
        rw [HLEN.out] at this
        exact this
    · have E : cut c l = m := cut_uniq c l m (by have := HLEN.out; omega) HA.out (fun y hy => by
        have := (List.getElem?_eq_some_iff.1 hy).1
        have := HLEN.out; omega)
      have := HCUT.out
      omega
end Go.Proofs.YtpojalbpekbfdaaGreatDoor
