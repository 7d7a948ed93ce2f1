/- Package grow: stays. -/
import Derived.Test.YtpojalbpekbfdabDoorGrnD
import Derived.Test.YtpojalbpekbfdabDoorTrjD
namespace Go.Proofs.YtpojalbpekbfdabDoor
open Go Go.RowKit
set_option linter.unusedSimpArgs false
set_option linter.unusedVariables false
set_option maxRecDepth 100000

theorem st_len : ∀ (f c : Nat) (old fresh : List Nd), (st f c old fresh).length ≤ old.length
  | f, c, [], fresh => by rw [st_nil]; exact Nat.le_refl _
  | f, c, x :: r, [] => by rw [st_one _ _ (by simp)]; simp
  | 0, c, x :: r, z :: s => by simp [st]
  | f + 1, c, x :: r, z :: s => by
    rw [st_more _ _ (by simp) (by simp), List.length_append]
    have h1 := st_len f (c + 1) ((x :: r).take (cut c (x :: r))) ((z :: s).take (cut c (z :: s)))
    have h2 := st_len f (c + 1) ((x :: r).drop (cut c (x :: r))) ((z :: s).drop (cut c (z :: s)))
    have h3 := congrArg List.length (List.take_append_drop (cut c (x :: r)) (x :: r))
    rw [List.length_append] at h3
    omega
theorem NS.low {B : Nat} {w w' : World} {v : Value} {l : List Nd} (h : NS w v l) (hb : Below B w w') (hv : ∀ b, v.ownBlock = some b → b < B) (hs : w.heap.size ≤ w'.heap.size) : NS w' v l := by
  obtain ⟨ad, cap, rfl, hc, hx⟩ := h
  refine ⟨ad, cap, rfl, hc, ?_⟩
  rcases hx with h0 | ⟨b, o, rfl, hlt, hm⟩
  · exact .inl h0
  · exact .inr ⟨b, o, rfl, Nat.lt_of_lt_of_le hlt hs, fun i x hi j u hj => (hb.cell (p := ⟨b, o + i * 65 + j, none⟩) (hv b rfl)).trans (hm i x hi j u hj)⟩
theorem ovE_yes {l : List Nd} (h : Apn l) (hne : l ≠ []) : ovE l = true := by
  unfold ovE
  simp [h.ap, hne]
def StC (B f : Nat) : Prop := ∀ (c : Nat) (old fresh : List Nd), f + c = 256 → Apn old → Apn fresh → (∀ x ∈ old ++ fresh, ∀ z ∈ old ++ fresh, Shr x.p z.p c) → (∀ x ∈ old, ∀ z ∈ fresh, x.p ≠ z.p) → fresh.length ≤ 2900000000000 →
  ∀ (acc : List Nd) (va vo vf : Value) (w : World), acc.length + old.length ≤ 2900000000000 → NO B w va acc → NS w vo old → NS w vf fresh → (∀ b, vo.ownBlock = some b → b < B) → (∀ b, vf.ownBlock = some b → b < B) → Tb w →
  Calls Tryd.prog 13 #[va, vo, vf, .int .i64 (c : Int)] w fun e w' => ∃ v', e = .returned v' ∧ NO B w' v' (acc ++ st f c old fresh) ∧ Below B w w'
set_option maxHeartbeats 8000000 in
theorem stays_step (B : Nat) (hG : 1 < B ∧ 2 < B) (f : Nat) (ih : ∀ g, f = g + 1 → StC B g) : StC B f := by
  intro c old fresh hfc ho hf hs hd hfl acc va vo vf w hal hva hvo hvf kvo kvf hT
  have HO : Hid (Apn old) := ho
  have HF : Hid (Apn fresh) := hf
  have NA : Hid (NO B w va acc) := hva
  have NOo : Hid (NS w vo old) := hvo
  have NF : Hid (NS w vf fresh) := hvf
  have KO : Hid (∀ b, vo.ownBlock = some b → b < B) := kvo
  have KF : Hid (∀ b, vf.ownBlock = some b → b < B) := kvf
  have HT : Hid (Tb w) := hT
  have HG : Hid (1 < B ∧ 2 < B) := hG
  have HBW : Hid (B ≤ w.heap.size) := hva.2.2
  obtain ⟨ao, co, eo, -, -⟩ := id hvo
  obtain ⟨af, cf, ef, -, -⟩ := id hvf
  obtain ⟨no, hno⟩ : ∃ m, old.length = m := ⟨_, rfl⟩
  obtain ⟨nf, hnf⟩ : ∃ m, fresh.length = m := ⟨_, rfl⟩
  have HNO : Hid (old.length = no) := hno
  have HNF : Hid (fresh.length = nf) := hnf
  rw [hno] at eo
  rw [hnf] at ef
  subst eo
  subst ef
  have hno9 : no ≤ 2900000000000 := by omega
  have hnf9 : nf ≤ 2900000000000 := by omega
  have HAL : Hid (acc.length + old.length ≤ 2900000000000) := hal
  by_cases h0 : old = []
  · have hn0 : no = 0 := by rw [← hno, h0]; rfl
    have e : acc ++ st f c old fresh = acc := by rw [h0, st_nil, List.append_nil]
    rw [e]
    subst hn0
    clear ih ho hf hs hd hva hvo hvf kvo kvf hT hno hnf e h0 hal hG
    go_enter Tryd.func13, Tryd.ntmps13
    go_wp2_with fail
    go_ret
    exact ⟨_, rfl, NA.out, Below.refl _ _⟩
  have hn1 : 0 < no := by rw [← hno]; exact List.length_pos_iff.2 h0
  have HO0 : Hid (old ≠ []) := h0
  by_cases h1 : fresh = []
  · have hn2 : nf = 0 := by rw [← hnf, h1]; rfl
    have e : acc ++ st f c old fresh = acc ++ [ovl old] := by rw [h1, st_one _ _ h0]
    rw [e]
    subst hn2
    obtain ⟨V, hV⟩ : ∃ V, ovl old = V := ⟨_, rfl⟩
    rw [hV]
    have HVO : Hid V.Ok := by rw [← hV]; exact (ov_ok ho.rsn h0 _ (Nat.le_refl _)).1
    have HOV : Hid (Calls Tryd.prog 25 #[.slice ao no co] w fun e w' => e = .returned (.tuple #[.agg (nc V).toArray, .int .i64 0]) ∧ Below w.heap.size w w') := by
      have := Over_any old ho.ok (by omega) _ w hvo hT
      rw [ovE_yes ho h0, if_pos rfl, if_pos rfl, hV] at this
      exact this
    have HLA : Hid (acc.length + [V].length ≤ 3000000000000) := by show _ ≤ _; simp only [List.length_cons, List.length_nil]; omega
    have hzn := zero_nd
    obtain ⟨Zn, hZn⟩ : ∃ Z, (nc ndz).toArray = Z := ⟨_, rfl⟩
    have HZN : Hid (Zn.size = 65) := by rw [← hZn]; exact nc_size ndz_ok
    rw [hZn] at hzn
    clear ih ho hf hs hd hva hvo hvf kvo kvf hT hno hnf e h0 h1 hV hZn hal hG
    go_enter Tryd.func13, Tryd.ntmps13
    go_upto_region 5 with (first
      | (go_at_call 25; refine HOV.out.mono ?_; rintro e w1 ⟨rfl, g1⟩; have B1 : Hid (Below w.heap.size w w1) := g1; clear g1)
      | (refine wpList_store_mid rfl 33 (.tmp 9) (.tmp 25) rfl w1.heap.size 0 (nc V).toArray rfl rfl (there_new w1 (by rw [List.size_toArray, nc_length HVO.out, HZN.out])) (by rw [List.size_toArray]; exact size_nc HVO.out) (nc_one _) ?_; simp only [List.toList_toArray]))
    obtain ⟨a9, ha9⟩ : ∃ a9, (w1.alloc (.cells Zn 33)).setCells w1.heap.size 0 (nc V) = a9 := ⟨_, rfl⟩
    rw [ha9]
    obtain ⟨r1, r2, r3⟩ := laid_row (by rw [nc_length HVO.out, HZN.out]) (by rw [nc_length HVO.out]; omega) ha9
    obtain ⟨b9, hb9⟩ : ∃ q, w1.heap.size = q := ⟨_, rfl⟩
    have G9 : Hid (Below w.heap.size w a9) := Below.tr' B1.out r2
    have N9 : Hid (NO B a9 va acc) := NA.out.below G9.out
    rw [hb9] at r1 ⊢
    have R9 : Hid (a9.rangeAt b9 0 (nc V)) := r1
    clear r1 r2 r3 ha9 hb9 hzn
    go_wp2_with (first
      | (refine wpList_load_mid rfl 33 (.tmp 9) rfl b9 0 rfl (nc V) _ R9.out Tryd.underlying33 rfl (size_nc HVO.out) ?_)
      | (refine wpList_onen rfl (.tmp 28) rfl V HVO.out rfl ?_)
      | (at_builtin; refine wp_appn rfl (.tmp 27) (.tmp 29) rfl rfl B va (.slice (some ⟨a9.heap.size, 0, none⟩) 1 1) acc [V] rfl rfl (N9.out.alloc _) (fun z hz => by simp at hz; subst hz; exact HVO.out) (ns_one a9 V _) HLA.out ?_; intro v3 w3 g1 g2; have O3 : Hid (NO B w3 v3 (acc ++ [V])) := g1; have B3 : Hid (Below B w w3) := ((G9.out.mono HBW.out).alloc (Nat.le_trans HBW.out G9.out.size) _).trans g2; clear g1 g2))
    go_ret
    exact ⟨_, rfl, O3.out, B3.out⟩
  have hn2 : 0 < nf := by rw [← hnf]; exact List.length_pos_iff.2 h1
  cases f with
  | zero =>
    obtain rfl : c = 256 := by omega
    obtain ⟨x, hx⟩ : ∃ x, x ∈ old := by cases old with | nil => exact absurd rfl h0 | cons x r => exact ⟨x, by simp⟩
    obtain ⟨z, hz⟩ : ∃ z, z ∈ fresh := by cases fresh with | nil => exact absurd rfl h1 | cons x r => exact ⟨x, by simp⟩
    exact absurd (shr_eq (ho.ok x hx).p (hf.ok z hz).p (hs x (List.mem_append_left _ hx) z (List.mem_append_right _ hz))) (hd x hx z hz)
  | succ g =>
    have IH := ih g rfl
    have hc : c < 256 := by omega
    have so : ∀ x ∈ old, ∀ z ∈ old, Shr x.p z.p c := fun a ha b hb => hs a (List.mem_append_left _ ha) b (List.mem_append_left _ hb)
    have sf : ∀ x ∈ fresh, ∀ z ∈ fresh, Shr x.p z.p c := fun a ha b hb => hs a (List.mem_append_right _ ha) b (List.mem_append_right _ hb)
    have lo : ∀ y ∈ old.take (cut c old) ++ fresh.take (cut c fresh), bt y.p c = 0 := fun y hy => by
      rcases List.mem_append.1 hy with q | q
      · exact mem_loc q
      · exact mem_loc q
    have hi : ∀ y ∈ old.drop (cut c old) ++ fresh.drop (cut c fresh), bt y.p c = 1 := fun y hy => by
      rcases List.mem_append.1 hy with q | q
      · exact mem_hic ho.ris hc so q
      · exact mem_hic hf.ris hc sf q
    have sub1 : ∀ y ∈ old.take (cut c old) ++ fresh.take (cut c fresh), y ∈ old ++ fresh := fun y hy => by
      rcases List.mem_append.1 hy with q | q
      · exact List.mem_append_left _ (List.mem_of_mem_take q)
      · exact List.mem_append_right _ (List.mem_of_mem_take q)
    have sub2 : ∀ y ∈ old.drop (cut c old) ++ fresh.drop (cut c fresh), y ∈ old ++ fresh := fun y hy => by
      rcases List.mem_append.1 hy with q | q
      · exact List.mem_append_left _ (List.mem_of_mem_drop q)
      · exact List.mem_append_right _ (List.mem_of_mem_drop q)
    have eL := congrArg List.length (List.take_append_drop (cut c old) old)
    have eF := congrArg List.length (List.take_append_drop (cut c fresh) fresh)
    rw [List.length_append] at eL eF
    rw [st_more _ _ h0 h1]
    have HHO : Hid (∀ W : World, NS W (.slice ao no co) old → Calls Tryd.prog 26 #[.slice ao no co, .int .i64 (c : Int)] W fun e w' => ∃ v1 v2, e = .returned (.tuple #[v1, v2]) ∧ NS w' v1 (old.take (cut c old)) ∧ NS w' v2 (old.drop (cut c old)) ∧ (∀ b, v1.ownBlock = some b → (Value.slice ao no co).ownBlock = some b) ∧ (∀ b, v2.ownBlock = some b → (Value.slice ao no co).ownBlock = some b) ∧ Below W.heap.size W w') := fun W q => halvesG_any old ho.ris h0 c hc so _ W q (by omega)
    have HHF : Hid (∀ W : World, NS W (.slice af nf cf) fresh → Calls Tryd.prog 26 #[.slice af nf cf, .int .i64 (c : Int)] W fun e w' => ∃ v1 v2, e = .returned (.tuple #[v1, v2]) ∧ NS w' v1 (fresh.take (cut c fresh)) ∧ NS w' v2 (fresh.drop (cut c fresh)) ∧ (∀ b, v1.ownBlock = some b → (Value.slice af nf cf).ownBlock = some b) ∧ (∀ b, v2.ownBlock = some b → (Value.slice af nf cf).ownBlock = some b) ∧ Below W.heap.size W w') := fun W q => halvesG_any fresh hf.ris h1 c hc sf _ W q (by omega)
    have ec : (c : Int) + 1 = ((c + 1 : Nat) : Int) := by omega
    obtain ⟨S1, hS1⟩ : ∃ S, st g (c + 1) (old.take (cut c old)) (fresh.take (cut c fresh)) = S := ⟨_, rfl⟩
    obtain ⟨S2, hS2⟩ : ∃ S, st g (c + 1) (old.drop (cut c old)) (fresh.drop (cut c fresh)) = S := ⟨_, rfl⟩
    have hl1 : S1.length ≤ (old.take (cut c old)).length := by rw [← hS1]; exact st_len _ _ _ _
    have C1 : Hid (∀ (v1 v2 : Value) (W : World), NO B W va acc → NS W v1 (old.take (cut c old)) → NS W v2 (fresh.take (cut c fresh)) → (∀ b, v1.ownBlock = some b → b < B) → (∀ b, v2.ownBlock = some b → b < B) → Tb W → Calls Tryd.prog 13 #[va, v1, v2, .int .i64 ((c : Int) + 1)] W fun e w' => ∃ v', e = .returned v' ∧ NO B w' v' (acc ++ S1) ∧ Below B W w') := fun v1 v2 W a1 a2 a3 a4 a5 a6 => by
      rw [ec, ← hS1]
      exact IH (c + 1) _ _ (by omega) (ho.take _) (hf.take _) (fun a ha b hb => shr_one (hs a (sub1 a ha) b (sub1 b hb)) (by rw [lo a ha, lo b hb])) (fun a ha b hb => hd a (List.mem_of_mem_take ha) b (List.mem_of_mem_take hb)) (by omega) acc va v1 v2 W (by omega) a1 a2 a3 a4 a5 a6
    have C2 : Hid (∀ (v0 v1 v2 : Value) (W : World), NO B W v0 (acc ++ S1) → NS W v1 (old.drop (cut c old)) → NS W v2 (fresh.drop (cut c fresh)) → (∀ b, v1.ownBlock = some b → b < B) → (∀ b, v2.ownBlock = some b → b < B) → Tb W → Calls Tryd.prog 13 #[v0, v1, v2, .int .i64 ((c : Int) + 1)] W fun e w' => ∃ v', e = .returned v' ∧ NO B w' v' (acc ++ (S1 ++ S2)) ∧ Below B W w') := fun v0 v1 v2 W a1 a2 a3 a4 a5 a6 => by
      rw [ec, ← List.append_assoc, ← hS2]
      exact IH (c + 1) _ _ (by omega) (ho.drop _) (hf.drop _) (fun a ha b hb => shr_one (hs a (sub2 a ha) b (sub2 b hb)) (by rw [hi a ha, hi b hb])) (fun a ha b hb => hd a (List.mem_of_mem_drop ha) b (List.mem_of_mem_drop hb)) (by omega) (acc ++ S1) v0 v1 v2 W (by rw [List.length_append]; omega) a1 a2 a3 a4 a5 a6
    rw [hS1, hS2]
    obtain ⟨Ol, hOl⟩ : ∃ l, old.take (cut c old) = l := ⟨_, rfl⟩
    obtain ⟨Oh, hOh⟩ : ∃ l, old.drop (cut c old) = l := ⟨_, rfl⟩
    obtain ⟨Fl, hFl⟩ : ∃ l, fresh.take (cut c fresh) = l := ⟨_, rfl⟩
    obtain ⟨Fh, hFh⟩ : ∃ l, fresh.drop (cut c fresh) = l := ⟨_, rfl⟩
    rw [hOl] at C1 HHO
    rw [hFl] at C1 HHF
    rw [hOh] at C2 HHO
    rw [hFh] at C2 HHF
    clear IH ih ho hf hs hd hva hvo hvf kvo kvf hT hno hnf h0 h1 so sf lo hi sub1 sub2 eL eF ec hS1 hS2 hl1 hOl hOh hFl hFh hal hG
    go_enter Tryd.func13, Tryd.ntmps13
    go_upto_region 7 with (go_at_call 26; refine (HHO.out w NOo.out).mono ?_; rintro e w1 ⟨o1, o2, rfl, g1, g2, g3, g4, g5⟩; have P1 : Hid (NS w1 o1 Ol) := g1; have P2 : Hid (NS w1 o2 Oh) := g2; have K1 : Hid (∀ b, o1.ownBlock = some b → b < B) := fun b h => KO.out b (g3 b h); have K2 : Hid (∀ b, o2.ownBlock = some b → b < B) := fun b h => KO.out b (g4 b h); have B1 : Hid (Below w.heap.size w w1) := g5; clear g1 g2 g3 g4 g5)
    go_upto_region 8 with (go_at_call 26; refine (HHF.out w1 (NF.out.below B1.out)).mono ?_; rintro e w2 ⟨f1, f2, rfl, g1, g2, g3, g4, g5⟩; have P3 : Hid (NS w2 f1 Fl) := g1; have P4 : Hid (NS w2 f2 Fh) := g2; have K3 : Hid (∀ b, f1.ownBlock = some b → b < B) := fun b h => KF.out b (g3 b h); have K4 : Hid (∀ b, f2.ownBlock = some b → b < B) := fun b h => KF.out b (g4 b h); have G2 : Hid (Below w1.heap.size w1 w2) := g5; have B2 : Hid (Below w.heap.size w w2) := Below.tr' B1.out g5; clear g1 g2 g3 g4 g5)
    go_upto_region 9 with (go_at_call 13; refine (C1.out o1 f1 w2 (NA.out.below B2.out) (P1.out.below G2.out) P3.out K1.out K3.out (HT.out.below B2.out)).mono ?_; rintro e w3 ⟨v3, rfl, g1, g2⟩; have O3 : Hid (NO B w3 v3 (acc ++ S1)) := g1; have G3 : Hid (Below B w2 w3) := g2; clear g1 g2)
    go_wp2_with (go_at_call 13; refine (C2.out v3 o2 f2 w3 O3.out ((P2.out.below G2.out).low G3.out K2.out G3.out.size) (P4.out.low G3.out K4.out G3.out.size) K2.out K4.out ((HT.out.below B2.out).low G3.out HG.out)).mono ?_; rintro e w4 ⟨v4, rfl, g1, g2⟩; have O4 : Hid (NO B w4 v4 (acc ++ (S1 ++ S2))) := g1; have B4 : Hid (Below B w w4) := (B2.out.mono HBW.out).trans (G3.out.trans g2); clear g1 g2)
    go_ret
    exact ⟨_, rfl, O4.out, B4.out⟩
theorem stays_any (B : Nat) (hG : 1 < B ∧ 2 < B) : ∀ f, StC B f
  | 0 => stays_step B hG 0 (fun g h => by omega)
  | f + 1 => stays_step B hG (f + 1) (fun g h => by obtain rfl : f = g := by omega
                                                    exact stays_any B hG f)
end Go.Proofs.YtpojalbpekbfdabDoor
