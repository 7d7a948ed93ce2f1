/- The reference for JSON: objects. -/
import Derived.Test.YtefaohokmhdplaaDoorJxS
import Derived.Test.YtefaohokmhdplaaDoorJxF
namespace Go.Proofs.YtefaohokmhdplaaDoor
open Go Go.RowKit
set_option linter.unusedSimpArgs false
set_option linter.unusedVariables false
set_option maxRecDepth 100000

def LRO (g : Nat) (s : ByteArray) (D M : Nat) (E : List (ByteArray × JV) → Nat → Out (ByteArray × JV)) (w : World) (R : Out (List (ByteArray × JV))) (W : World) : Prop :=
  ∃ (f : Nat) (a : List (ByteArray × JV)) (j : Nat), LQ s 125 E f a j = R ∧ s.size < f + 1 + j ∧ j ≤ s.size ∧ a.length ≤ j ∧ RB W g s j D false ∧ RIO M W a ∧ CgB g M w W
def vx (key : ByteArray) : Out JV → Out (ByteArray × JV)
  | .ok v j => .ok (key, v) j
  | .bad j => .bad j
  | .big j => .big j
theorem membr_34 {s : ByteArray} {V : Nat → Out JV} {a : List (ByteArray × JV)} {i : Nat} (h : gb s i = 34) : membr s V a i = if (tx s (i + 1) []).2 = true then (if a.any (fun m => m.1.data.toList == (sb (tx s (i + 1) []).1.1).data.toList) then .bad i else if gb s (sk s (tx s (i + 1) []).1.2) = 58 then vx (sb (tx s (i + 1) []).1.1) (V (sk s (sk s (tx s (i + 1) []).1.2 + 1))) else .bad (sk s (tx s (i + 1) []).1.2)) else .bad (tx s (i + 1) []).1.2 := by
  unfold membr
  rw [if_pos h]
  generalize V (sk s (sk s (tx s (i + 1) []).1.2 + 1)) = o
  cases o <;> rfl
theorem obj_tj {w Wx : World} {g M m D n : Nat} {y : Tv} {l : List (ByteArray × JV)} (hM : w.heap.size = M) (hg : g < M) (h : TJ (fun b => M + 2 ≤ b) Wx y (.obj l)) : TJ (fun b => w.heap.size ≤ b) (set5 (((Wx.drewN n).setCell ⟨g, 1, none⟩ (.int .i64 ((m : Int) + 1))).setCell ⟨g, 2, none⟩ (.int .i64 ((D : Int) - 1))) M y) y (.obj l) := by
  refine h.keep (fun b hb hlt => ⟨by have h1 : M + 2 ≤ b := hb; show _ ≤ _; omega, ?_⟩) (by rw [set5_size]; simp [World.setCell])
  have h1 : M + 2 ≤ b := hb
  rw [set5_other _ _ _ (by omega), Below.heap_setCell _ _ _ _ (by show b ≠ g; omega), Below.heap_setCell _ _ _ _ (by show b ≠ g; omega)]
  rfl
theorem rio_tj {M : Nat} {W : World} {a : List (ByteArray × JV)} {kv sv : Sv} {xs : List Tv} (h0 : W.ownsRow (M + 2) 9 1 kv.v a.length (keyc (a.map Prod.fst))) (h3 : W.ownsRow (M + 2) 26 5 sv.v a.length (tcs xs)) (h4 : TS (fun b => M + 2 ≤ b ∧ kv.v.ownBlock ≠ some b ∧ sv.v.ownBlock ≠ some b) W xs (a.map Prod.snd)) : TJ (fun b => M + 2 ≤ b) W ⟨5, false, ⟨#[]⟩, kv, sv⟩ (.obj a) := by
  refine .obj _ rfl (a.map Prod.fst) xs a (own_rv h0 (fun b e => (own_lt h0 b e).1)) (own_rv h3 (fun b e => (own_lt h3 b e).1)) (by simp) (by have := h4.1; simpa using this) ?_ ?_
  · intro i k j hk hj
    rw [List.getElem?_map, hj] at hk
    simp at hk; exact hk.symm
  · intro i y j hy hj
    exact (h4.2 i y j.2 hy (by rw [List.getElem?_map, hj]; rfl)).keep (fun b hb hlt => ⟨hb.1, rfl⟩) (Nat.le_refl _)
variable {w : World} {g : Nat} {s : ByteArray} {i d k : Nat}
set_option maxHeartbeats 32000000 in
theorem robject_any (h : RB w g s i d false) (hi : i < s.size) (hs : s.size ≤ 8192) (hd : d + 1 + k = 16) (HV : RVC g s k) :
    Calls Tryd.prog 48 #[.pointer (some ⟨g, 0, none⟩)] w fun e w' => RVP g s d w (wrapO (open' s 125 (membr s (val s k)) i)) e w' := by
  have HS : Hid (s.size ≤ 8192) := hs
  have HVC : Hid (RVC g s k) := HV
  have hg := h.lt
  obtain ⟨a1, a2, a3⟩ := lt0_at w 5
  obtain ⟨D, hD⟩ : ∃ D, d + 1 = D := ⟨_, rfl⟩
  obtain ⟨M, hM⟩ : ∃ M, w.heap.size = M := ⟨_, rfl⟩
  have HMM : Hid (w.heap.size = M) := hM
  have HP : Hid (RB (lt0 w 5) g s i d false) := h.keep (a3.block g hg)
  rw [hM] at a1 a2 a3
  have HB0 : Hid (Below M w (lt0 w 5)) := a3
  have HI0 : Hid (RIO M (lt0 w 5) []) := ⟨a1, SN, SN, [], a2, ⟨rfl, .inl ⟨rfl, rfl⟩⟩, ⟨rfl, .inl ⟨rfl, rfl⟩⟩, rfl, fun i x j hx => by simp at hx⟩
  obtain ⟨R, hR⟩ : ∃ R, open' s 125 (membr s (val s k)) i = R := ⟨_, rfl⟩
  have HR : Hid (LQ s 125 (membr s (val s k)) s.size [] (sk s (i + 1)) = R) := by
    show _ = _; rw [← hR]; unfold LQ open'
    simp
  rw [hR]
  have hgM : g < M := by omega
  have hopen := ropen_any HP.out hi hs (by omega : d < 16)
  rw [hD] at hopen
  have hj0 := sk_le (s := s) (i := i + 1) hi
  obtain ⟨j0, hj0e⟩ : ∃ j0, sk s (i + 1) = j0 := ⟨_, rfl⟩
  rw [hj0e] at hopen HR hj0
  clear h hR a1 a2 a3 hs HV hj0e
  go_enter Tryd.func48, Tryd.ntmps48
  go_wp2_with fail
  refine Calls.mono hopen ?_
  rintro e W2 ⟨rfl, p, c⟩
  have HL : Hid (LRO g s D M (membr s (val s k)) w R W2) := ⟨s.size, [], j0, HR.out, by omega, hj0, by simp, p, HI0.out.stay hgM c, CgB.step (Chg.ofBelow (by rw [HMM.out]; exact HB0.out)) c⟩
  clear p c hopen HP HI0 HB0 HR hj0
  go_wp2_with fail
  go_loopw [] (fun W => LRO g s D M (membr s (val s k)) w R W) (fun W => s.size + 1 - posOf W g)
  case atStart => exact HL.out
  case round =>
    obtain ⟨f, a, j, hr, hf, hjs, hal, hp, ⟨hi1, kv, sv, xs, hi2, hi0, hi3, hi4⟩, hc⟩ := hrel
    obtain ⟨w1, rfl⟩ : ∃ w1, w1 = wr := ⟨_, rfl⟩
    have HPS : Hid (posOf w1 g = j) := hp.pos
    have HP : Hid (RB w1 g s j D false) := hp
    have HC : Hid (CgB g M w w1) := hc
    have HTM : Hid (TC w1 M TN) := hi1
    have hlen := own_len hi3
    have hlk := own_len hi0
    obtain ⟨sa, sn, sc⟩ := sv
    obtain ⟨ka, kn, kc⟩ := kv
    have HTT : Hid (TC w1 (M + 1) ⟨5, false, ⟨#[]⟩, ⟨ka, kn, kc⟩, ⟨sa, sn, sc⟩⟩) := hi2
    have HRK : Hid (w1.ownsRow (M + 2) 9 1 (.slice ka kn kc) a.length (keyc (a.map Prod.fst))) := hi0
    have HRW : Hid (w1.ownsRow (M + 2) 26 5 (.slice sa sn sc) a.length (tcs xs)) := hi3
    have HTS : Hid (TS (fun b => M + 2 ≤ b ∧ (Value.slice ka kn kc).ownBlock ≠ some b ∧ (Value.slice sa sn sc).ownBlock ≠ some b) w1 xs (a.map Prod.snd)) := hi4
    have HTJ0 : Hid (TJ (fun b => M + 2 ≤ b) w1 ⟨5, false, ⟨#[]⟩, ⟨ka, kn, kc⟩, ⟨sa, sn, sc⟩⟩ (.obj a)) := rio_tj hi0 hi3 hi4
    simp only at hlen hlk
    obtain ⟨t0, t1, t2, t3, t4, tf⟩ := hi2.cells
    simp only at t0 t1 t2 t3 t4
    obtain ⟨m0, m1, m2, m3, m4, mf⟩ := hi1.cells
    have mf0 := mf 0; have mf1 := mf 1; have mf2 := mf 2; have mf3 := mf 3; have mf4 := mf 4
    simp only [TN, SN] at t3 m0 m1 m2 m3 m4
    obtain ⟨r0, r1, r2, r3⟩ := hp.cells
    have f1 := hp.froz 1
    have f2 := hp.froz 2
    have b1 : (j : Int) ≤ 8192 := by have := HS.out; omega
    have b2 : (0 : Int) ≤ (j : Int) := by omega
    have b3 : (D : Int) ≤ 16 := by omega
    have b4 : (1 : Int) ≤ (D : Int) := by omega
    clear hp hc hi1 hi2 hi0 hi3 hi4 HL tf mf
    by_cases he : a = [] ∧ gb s j = 125
    · obtain ⟨rfl, e125⟩ := he
      have HRR : Hid (R = .ok [] (j + 1)) := by show _ = _; rw [← hr]; unfold LQ; rw [if_pos ⟨rfl, e125⟩]
      obtain rfl : sn = 0 := hlen
      obtain rfl : kn = 0 := hlk
      have HF : Hid (∀ n, RB (set5 (((w1.drewN n).setCell ⟨g, 1, none⟩ (.int .i64 ((j : Int) + 1))).setCell ⟨g, 2, none⟩ (.int .i64 ((D : Int) - 1))) M ⟨5, false, ⟨#[]⟩, ⟨ka, 0, kc⟩, ⟨sa, 0, sc⟩⟩) g s (j + 1) d false ∧ TC (set5 (((w1.drewN n).setCell ⟨g, 1, none⟩ (.int .i64 ((j : Int) + 1))).setCell ⟨g, 2, none⟩ (.int .i64 ((D : Int) - 1))) M ⟨5, false, ⟨#[]⟩, ⟨ka, 0, kc⟩, ⟨sa, 0, sc⟩⟩) M ⟨5, false, ⟨#[]⟩, ⟨ka, 0, kc⟩, ⟨sa, 0, sc⟩⟩ ∧ CgB g M w1 (set5 (((w1.drewN n).setCell ⟨g, 1, none⟩ (.int .i64 ((j : Int) + 1))).setCell ⟨g, 2, none⟩ (.int .i64 ((D : Int) - 1))) M ⟨5, false, ⟨#[]⟩, ⟨ka, 0, kc⟩, ⟨sa, 0, sc⟩⟩)) := fun n => list_fin (HP.out.drew n) hD (show TC (w1.drewN n) M TN from HTM.out) hgM _ (Chg.drew (Chg.refl _ _) n)
      have HJ : Hid (∀ n, TJ (fun b => w.heap.size ≤ b) (set5 (((w1.drewN n).setCell ⟨g, 1, none⟩ (.int .i64 ((j : Int) + 1))).setCell ⟨g, 2, none⟩ (.int .i64 ((D : Int) - 1))) M ⟨5, false, ⟨#[]⟩, ⟨ka, 0, kc⟩, ⟨sa, 0, sc⟩⟩) ⟨5, false, ⟨#[]⟩, ⟨ka, 0, kc⟩, ⟨sa, 0, sc⟩⟩ (.obj [])) := fun n => obj_tj HMM.out hgM HTJ0.out
      go_wp2_with (go_at_call 46; refine (rhere_at HP.out (by rfl) hjs HS.out).mono ?_; rintro _ _ ⟨rfl, n, rfl⟩; rw [e125])
      refine tree_res Tryd.results48 (M := M) (x := ⟨5, false, ⟨#[]⟩, ⟨ka, 0, kc⟩, ⟨sa, 0, sc⟩⟩) (b := true) (HF.out n).2.1 rfl rfl ?_
      rw [HRR.out]
      exact ⟨_, rfl, (HF.out n).1, cgb_cg HMM.out (Chg.trans HC.out (HF.out n).2.2), HJ.out n⟩
    have HRQ0 : parts s 125 (membr s (val s k)) (f + 1) a j = R := by rw [← hr]; unfold LQ; rw [if_neg he]
    have HRQ : Hid (∀ o, membr s (val s k) a j = o → (match o with
        | .bad j => Out.bad j
        | .big j => Out.big j
        | .ok v j => if gb s (sk s j) = 125 then Out.ok (a ++ [v]) (sk s j + 1) else if gb s (sk s j) = 44 then parts s 125 (membr s (val s k)) f (a ++ [v]) (sk s (sk s j + 1)) else Out.bad (sk s j)) = R) := by
      intro o ho; rw [← HRQ0]; simp only [parts]; rw [ho]; cases o <;> rfl
    have HLEN : Hid (sn = a.length) := hlen
    have HLK : Hid (kn = a.length) := hlk
    clear hlen hr hlk HTJ0 HRQ0
    have hhead : (gb s j = 125 ∧ 0 < sn) ∨ ¬ gb s j = 125 := by
      by_cases e : gb s j = 125
      · left; refine ⟨e, ?_⟩
        rcases Nat.eq_zero_or_pos sn with z | z
        · exact absurd ⟨List.length_eq_zero_iff.1 (by have := HLEN.out; omega), e⟩ he
        · exact z
      · exact .inr e
    clear he
    rcases hhead with ⟨e125, hsn⟩ | e125
    case' inl =>
      have hsn' : (0 : Int) < (sn : Int) := by omega
      go_wp2_with (go_at_call 46; refine (rhere_at HP.out (by rfl) hjs HS.out).mono ?_; rintro _ _ ⟨rfl, n, rfl⟩; rw [e125])
      clear hsn' hsn e125
    case' inr =>
      go_wp2_with (go_at_call 46; refine (rhere_at HP.out (by rfl) hjs HS.out).mono ?_; rintro _ _ ⟨rfl, n, rfl⟩)
      clear e125
    all_goals (
      by_cases e34 : ¬ gb s j = 34
      · have HRR : Hid (R = .bad j) := by show _ = _; rw [← HRQ.out (.bad j) (by unfold membr; rw [if_neg e34])]
        refine (rtext_no (HP.out.drew n) hjs e34 HS.out).mono ?_
        rintro e W3 ⟨rfl, p, c⟩
        have c' : Cg g w1 W3 := Chg.trans (Chg.drew (Chg.refl _ _) n) c
        have hT3 : TC W3 (M + 1) ⟨5, false, ⟨#[]⟩, ⟨ka, kn, kc⟩, ⟨sa, sn, sc⟩⟩ := HTT.out.keep (c'.other (M + 1) HTT.out.lt (by omega))
        have hM3 : TC W3 M TN := HTM.out.keep (c'.other M HTM.out.lt (by omega))
        have HF : Hid (RB (set5 W3 M ⟨5, false, ⟨#[]⟩, ⟨ka, kn, kc⟩, ⟨sa, sn, sc⟩⟩) g s j D false ∧ TC (set5 W3 M ⟨5, false, ⟨#[]⟩, ⟨ka, kn, kc⟩, ⟨sa, sn, sc⟩⟩) M ⟨5, false, ⟨#[]⟩, ⟨ka, kn, kc⟩, ⟨sa, sn, sc⟩⟩ ∧ CgB g M w (set5 W3 M ⟨5, false, ⟨#[]⟩, ⟨ka, kn, kc⟩, ⟨sa, sn, sc⟩⟩)) := list_no (p) (show TC W3 M TN from hM3) hgM _ (Chg.trans HC.out (Cg.toB c'))
        obtain ⟨z0, z1, z2, z3, z4, zf⟩ := hT3.cells
        obtain ⟨y0, y1, y2, y3, y4, yf⟩ := hM3.cells
        have yf0 := yf 0; have yf1 := yf 1; have yf2 := yf 2; have yf3 := yf 3; have yf4 := yf 4
        simp only [TN, SN] at z0 z1 z2 z3 z4 y0 y1 y2 y3 y4
        clear hT3 hM3 zf yf
        try clear m0 m1 m2 m3 m4 mf0 mf1 mf2 mf3 mf4 t0 t1 t2 t3 t4
        try clear r0 r1 r2 r3 f1 f2
        clear HRQ p c c'
        go_wp2
        refine tree_res Tryd.results48 (M := M) (x := ⟨5, false, ⟨#[]⟩, ⟨ka, kn, kc⟩, ⟨sa, sn, sc⟩⟩) (b := false) HF.out.2.1 rfl rfl ?_
        rw [HRR.out]
        have hf := HF.out
        simp only [set5, SN] at hf
        exact ⟨_, rfl, ⟨D, hf.1⟩, cgb_cg HMM.out hf.2.2⟩
      have e34 : gb s j = 34 := Classical.not_not.1 e34
      have hjlt := gb_lt (s := s) (i := j) (by omega)
      have hT := tx_in (s := s) (i := j + 1) [] hjlt
      refine (rtext_any (HP.out.drew n) hjlt e34 HS.out).mono ?_
      rintro e W3 ⟨rfl, p, c⟩
      have HQ0 : Hid (∀ o, (if (tx s (j + 1) []).2 = true then
      (if a.any (fun m => m.1.data.toList == (sb (tx s (j + 1) []).1.1).data.toList) then Out.bad j
       else if gb s (sk s (tx s (j + 1) []).1.2) = 58 then
        vx (sb (tx s (j + 1) []).1.1) (val s k (sk s (sk s (tx s (j + 1) []).1.2 + 1)))
       else .bad (sk s (tx s (j + 1) []).1.2))
     else .bad (tx s (j + 1) []).1.2) = o → membr s (val s k) a j = o) := by
        intro o ho; rw [← ho]; exact membr_34 e34
      obtain ⟨⟨⟨ys, q⟩, ok⟩, hTX⟩ : ∃ T, tx s (j + 1) [] = T := ⟨_, rfl⟩
      rw [hTX] at hT p HQ0 ⊢
      simp only at hT p HQ0
      have HG3 : Hid (Cg g w1 W3) := Chg.trans (Chg.drew (Chg.refl _ _) n) c
      have HP3 : Hid (RB W3 g s q D false) := p
      clear hTX c p
      obtain ⟨hq1, hq2⟩ := hT
      have b5 : (q : Int) ≤ 8192 := by have := HS.out; omega
      have b6 : (0 : Int) ≤ (q : Int) := by omega
      cases ok with
      | false =>
        have HRR : Hid (R = .bad q) := by show _ = _; rw [← HRQ.out (.bad q) (HQ0.out _ rfl)]
        simp only [rtV]
        have hT3 : TC W3 (M + 1) ⟨5, false, ⟨#[]⟩, ⟨ka, kn, kc⟩, ⟨sa, sn, sc⟩⟩ := HTT.out.keep (HG3.out.other (M + 1) HTT.out.lt (by omega))
        have hM3 : TC W3 M TN := HTM.out.keep (HG3.out.other M HTM.out.lt (by omega))
        have HF : Hid (RB (set5 W3 M ⟨5, false, ⟨#[]⟩, ⟨ka, kn, kc⟩, ⟨sa, sn, sc⟩⟩) g s q D false ∧ TC (set5 W3 M ⟨5, false, ⟨#[]⟩, ⟨ka, kn, kc⟩, ⟨sa, sn, sc⟩⟩) M ⟨5, false, ⟨#[]⟩, ⟨ka, kn, kc⟩, ⟨sa, sn, sc⟩⟩ ∧ CgB g M w (set5 W3 M ⟨5, false, ⟨#[]⟩, ⟨ka, kn, kc⟩, ⟨sa, sn, sc⟩⟩)) := list_no (HP3.out) (show TC W3 M TN from hM3) hgM _ (Chg.trans HC.out (Cg.toB HG3.out))
        obtain ⟨z0, z1, z2, z3, z4, zf⟩ := hT3.cells
        obtain ⟨y0, y1, y2, y3, y4, yf⟩ := hM3.cells
        have yf0 := yf 0; have yf1 := yf 1; have yf2 := yf 2; have yf3 := yf 3; have yf4 := yf 4
        simp only [TN, SN] at z0 z1 z2 z3 z4 y0 y1 y2 y3 y4
        clear hT3 hM3 zf yf
        try clear m0 m1 m2 m3 m4 mf0 mf1 mf2 mf3 mf4 t0 t1 t2 t3 t4
        try clear r0 r1 r2 r3 f1 f2
        clear HRQ HQ0
        go_wp2
        refine tree_res Tryd.results48 (M := M) (x := ⟨5, false, ⟨#[]⟩, ⟨ka, kn, kc⟩, ⟨sa, sn, sc⟩⟩) (b := false) HF.out.2.1 rfl rfl ?_
        rw [HRR.out]
        have hf := HF.out
        simp only [set5, SN] at hf
        exact ⟨_, rfl, ⟨D, hf.1⟩, cgb_cg HMM.out hf.2.2⟩
      | true =>
        simp only [rtV]
        obtain ⟨key, hkey⟩ : ∃ key, sb ys = key := ⟨_, rfl⟩
        rw [hkey] at HQ0 ⊢
        clear hkey
        have HQ1 : Hid (∀ o, (if a.any (fun m => m.1.data.toList == key.data.toList) then Out.bad j
       else if gb s (sk s q) = 58 then
        vx key (val s k (sk s (sk s q + 1)))
       else .bad (sk s q)) = o → membr s (val s k) a j = o) := by
          intro o ho; exact HQ0.out o (by rw [if_pos rfl]; exact ho)
        clear HQ0
        have hRK3 := own_keep HRK.out (fun b e => HG3.out.other b (own_lt HRK.out b e).2 (by have := (own_lt HRK.out b e).1; omega))
        obtain ⟨ad, n', cap, hkv, hcl, hcc, hx⟩ := own_rv hRK3 (A := fun _ => True) (fun _ _ => trivial)
        cases hkv
        have HKX : Hid (kn = 0 ∨ ∃ b o, ka = some ⟨b, o, none⟩ ∧ True ∧ b < W3.heap.size ∧ W3.rangeAt b o (keyc (a.map Prod.fst))) := hx
        have hkn : (kn : Int) ≤ 8192 := by have := HLK.out; have := HS.out; omega
        clear hRK3 hcl hcc hx
        have hT3 : TC W3 (M + 1) ⟨5, false, ⟨#[]⟩, ⟨ka, kn, kc⟩, ⟨sa, sn, sc⟩⟩ := HTT.out.keep (HG3.out.other (M + 1) HTT.out.lt (by omega))
        have hM3 : TC W3 M TN := HTM.out.keep (HG3.out.other M HTM.out.lt (by omega))
        obtain ⟨z0, z1, z2, z3, z4, zf⟩ := hT3.cells
        obtain ⟨y0, y1, y2, y3, y4, yf⟩ := hM3.cells
        have yf0 := yf 0; have yf1 := yf 1; have yf2 := yf 2; have yf3 := yf 3; have yf4 := yf 4
        simp only [TN, SN] at z0 z1 z2 z3 z4 y0 y1 y2 y3 y4
        try clear m0 m1 m2 m3 m4 mf0 mf1 mf2 mf3 mf4 t0 t1 t2 t3 t4
        try clear r0 r1 r2 r3 f1 f2
        have zf3 := zf 3
        clear hT3 hM3 zf yf
        obtain ⟨r0, r1, r2, r3⟩ := HP3.out.cells
        have f1 := HP3.out.froz 1
        go_wp2_with fail
        go_loopw [39] (fun v W => ∃ kx : Nat, kx ≤ kn ∧ v = .int .i64 (kx : Int) ∧ (∀ (jj : Nat) (m : ByteArray × JV), jj < kx → a[jj]? = some m → (m.1.data.toList == key.data.toList) = false) ∧ W3 = W) (fun v _ => kn - (intOf v).toNat)
        case atStart => exact ⟨0, Nat.zero_le _, rfl, fun _ _ h => by omega, rfl⟩
        case round =>
          obtain ⟨kx, hkx, rfl, hall, hw⟩ := hrel
          subst hw
          have HA : Hid (∀ (jj : Nat) (m : ByteArray × JV), jj < kx → a[jj]? = some m → (m.1.data.toList == key.data.toList) = false) := hall
          clear hall
          by_cases hlt : kx < kn
          · rcases HKX.out with h0 | ⟨b, o, rfl, -, hlb, hm⟩
            · omega
            obtain ⟨⟨kk, mv⟩, hx⟩ : ∃ x, a[kx]? = some x := ⟨a[kx]'(by have := HLK.out; omega), List.getElem?_eq_getElem _⟩
            have HXK : Hid (a[kx]? = some (kk, mv)) := hx
            have c0 : W3.cell? ⟨b, o + kx, none⟩ = some (.string kk) := hm _ _ (by simp [keyc, List.getElem?_map, hx])
            clear hm hlb hx
            obtain ⟨r, hb, hb2⟩ : ∃ r, (kk.data.toList == key.data.toList) = r ∧ (kk.toList == key.toList) = r := ⟨_, rfl, by rw [ByteArray.toList_eq, ByteArray.toList_eq]⟩
            cases r with
            | false =>
              go_wp2_with fail
              go_roundw
              case rel =>
                refine ⟨kx + 1, by omega, by go_num, fun jj z hj hz => ?_, trivial⟩
                rcases Nat.lt_succ_iff_lt_or_eq.1 hj with q | rfl
                · exact HA.out jj z q hz
                · rw [HXK.out] at hz; cases hz; exact hb
              case measure => simp [intOf]; omega
            | true =>
              have HRR : Hid (R = .bad j) := by
                show _ = _
                rw [← HRQ.out (.bad j) (HQ1.out _ (by rw [if_pos (List.any_eq_true.2 ⟨_, List.mem_of_getElem? HXK.out, hb⟩)]))]
              have HF : Hid (RB (set5 (W3.setCell ⟨g, 1, none⟩ (.int .i64 (j : Int))) M ⟨5, false, ⟨#[]⟩, ⟨some ⟨b, o, none⟩, kn, kc⟩, ⟨sa, sn, sc⟩⟩) g s j D false ∧ TC (set5 (W3.setCell ⟨g, 1, none⟩ (.int .i64 (j : Int))) M ⟨5, false, ⟨#[]⟩, ⟨some ⟨b, o, none⟩, kn, kc⟩, ⟨sa, sn, sc⟩⟩) M ⟨5, false, ⟨#[]⟩, ⟨some ⟨b, o, none⟩, kn, kc⟩, ⟨sa, sn, sc⟩⟩ ∧ CgB g M w (set5 (W3.setCell ⟨g, 1, none⟩ (.int .i64 (j : Int))) M ⟨5, false, ⟨#[]⟩, ⟨some ⟨b, o, none⟩, kn, kc⟩, ⟨sa, sn, sc⟩⟩)) := list_no (HP3.out.set1 j) (show TC (W3.setCell ⟨g, 1, none⟩ (.int .i64 (j : Int))) M TN from (HTM.out.keep (HG3.out.other M HTM.out.lt (by omega))).keep (Below.heap_setCell _ _ _ _ (by show M ≠ g; omega))) hgM _ (Chg.trans HC.out (Cg.toB (Chg.setCell (F := fun b => b = g) HG3.out rfl)))
              clear HRQ HQ1
              go_wp2
              refine tree_res Tryd.results48 (M := M) (x := ⟨5, false, ⟨#[]⟩, ⟨some ⟨b, o, none⟩, kn, kc⟩, ⟨sa, sn, sc⟩⟩) (b := false) HF.out.2.1 rfl rfl ?_
              rw [HRR.out]
              have hf := HF.out
              simp only [set5, SN] at hf
              exact ⟨_, rfl, ⟨D, hf.1⟩, cgb_cg HMM.out hf.2.2⟩
          · have hany : a.any (fun m => m.1.data.toList == key.data.toList) = false := by
              rw [List.any_eq_false]; intro m hm; obtain ⟨i, hi, rfl⟩ := List.getElem_of_mem hm
              have := HA.out i _ (by have := HLK.out; omega) (List.getElem?_eq_getElem hi)
              rw [this]; decide
            have HQ2 : Hid (∀ o, (if gb s (sk s q) = 58 then
              vx key (val s k (sk s (sk s q + 1)))
             else .bad (sk s q)) = o → membr s (val s k) a j = o) := by
              intro o ho; exact HQ1.out o (by rw [if_neg (by rw [hany]; decide)]; exact ho)
            clear HQ1 hany HA HKX
            go_wp2_with fail
            refine (rblanks_any HP3.out hq2 HS.out).mono ?_
            rintro e W4 ⟨rfl, p, c⟩
            have hm1 := sk_le hq2
            obtain ⟨m1, hmm⟩ : ∃ m, sk s q = m := ⟨_, rfl⟩
            have hmq := sk_ge s q
            rw [hmm] at p hm1 hmq HQ2
            have HP4 : Hid (RB W4 g s m1 D false) := p
            have HG4 : Hid (Cg g w1 W4) := Chg.trans HG3.out c
            have b7 : (m1 : Int) ≤ 8192 := by have := HS.out; omega
            have b8 : (0 : Int) ≤ (m1 : Int) := by omega
            clear hmm p c r0 r1 r2 r3 f1 z0 z1 z2 z3 z4 y0 y1 y2 y3 y4 yf0 yf1 yf2 yf3 yf4 zf3
            obtain ⟨r0, r1, r2, r3⟩ := HP4.out.cells
            have f1 := HP4.out.froz 1
            go_wp2_with fail
            refine (rhere_at HP4.out (by rfl) hm1 HS.out).mono ?_
            rintro _ _ ⟨rfl, n2, rfl⟩
            by_cases e58 : ¬ gb s m1 = 58
            · have HRR : Hid (R = .bad m1) := by show _ = _; rw [← HRQ.out (.bad m1) (HQ2.out _ (by rw [if_neg e58]))]
              have hT3 : TC W4 (M + 1) ⟨5, false, ⟨#[]⟩, ⟨ka, kn, kc⟩, ⟨sa, sn, sc⟩⟩ := HTT.out.keep (HG4.out.other (M + 1) HTT.out.lt (by omega))
              have hM3 : TC W4 M TN := HTM.out.keep (HG4.out.other M HTM.out.lt (by omega))
              have HF : Hid (RB (set5 (W4.drewN n2) M ⟨5, false, ⟨#[]⟩, ⟨ka, kn, kc⟩, ⟨sa, sn, sc⟩⟩) g s m1 D false ∧ TC (set5 (W4.drewN n2) M ⟨5, false, ⟨#[]⟩, ⟨ka, kn, kc⟩, ⟨sa, sn, sc⟩⟩) M ⟨5, false, ⟨#[]⟩, ⟨ka, kn, kc⟩, ⟨sa, sn, sc⟩⟩ ∧ CgB g M w (set5 (W4.drewN n2) M ⟨5, false, ⟨#[]⟩, ⟨ka, kn, kc⟩, ⟨sa, sn, sc⟩⟩)) := list_no (HP4.out.drew n2) (show TC (W4.drewN n2) M TN from hM3) hgM _ (Chg.drew (Chg.trans HC.out (Cg.toB HG4.out)) n2)
              obtain ⟨z0, z1, z2, z3, z4, zf⟩ := hT3.cells
              obtain ⟨y0, y1, y2, y3, y4, yf⟩ := hM3.cells
              have yf0 := yf 0; have yf1 := yf 1; have yf2 := yf 2; have yf3 := yf 3; have yf4 := yf 4
              simp only [TN, SN] at z0 z1 z2 z3 z4 y0 y1 y2 y3 y4
              clear hT3 hM3 zf yf
              try clear m0 m1 m2 m3 m4 mf0 mf1 mf2 mf3 mf4 t0 t1 t2 t3 t4
              try clear r0 r1 r2 r3 f1 f2
              clear HRQ HQ2
              go_wp2
              refine tree_res Tryd.results48 (M := M) (x := ⟨5, false, ⟨#[]⟩, ⟨ka, kn, kc⟩, ⟨sa, sn, sc⟩⟩) (b := false) HF.out.2.1 rfl rfl ?_
              rw [HRR.out]
              have hf := HF.out
              simp only [set5, SN] at hf
              exact ⟨_, rfl, ⟨D, hf.1⟩, cgb_cg HMM.out hf.2.2⟩
            have e58 : gb s m1 = 58 := Classical.not_not.1 e58
            have hm1l := gb_lt (s := s) (i := m1) (by omega)
            have HQ3 : Hid (∀ o, vx key (val s k (sk s (m1 + 1))) = o → membr s (val s k) a j = o) := by
              intro o ho; exact HQ2.out o (by rw [if_pos e58]; exact ho)
            have HF5 : Hid (∀ n, RB ((W4.drewN n).setCell ⟨g, 1, none⟩ (.int .i64 ((m1 : Int) + 1))) g s (m1 + 1) D false ∧ Cg g w1 ((W4.drewN n).setCell ⟨g, 1, none⟩ (.int .i64 ((m1 : Int) + 1)))) := fun n => ⟨(HP4.out.drew n).set1 (m1 + 1), Chg.setCell (F := fun b => b = g) (Chg.drew HG4.out n) rfl⟩
            clear HQ2
            go_wp2_with fail
            refine (rblanks_any (HF5.out _).1 hm1l HS.out).mono ?_
            rintro e W5 ⟨rfl, p, c⟩
            have hm2 := sk_le (s := s) (i := m1 + 1) hm1l
            have hmq2 := sk_ge s (m1 + 1)
            obtain ⟨m2, hmm⟩ : ∃ m, sk s (m1 + 1) = m := ⟨_, rfl⟩
            rw [hmm] at p hm2 hmq2 HQ3
            have HP5 : Hid (RB W5 g s m2 D false) := p
            have HG5 : Hid (Cg g w1 W5) := Chg.trans (HF5.out _).2 c
            clear hmm p c r0 r1 r2 r3 f1 HF5
            have HIN : Hid _ := val_in s k m2 hm2
            go_wp2_with fail
            refine (HVC.out W5 m2 D HP5.out hm2 (by omega)).mono ?_
            intro e W6 hvp
            cases ho : val s k m2 with
            | bad q6 =>
              rw [ho] at hvp
              obtain ⟨x, rfl, ⟨d', p⟩, c⟩ := hvp
              have HRR : Hid (R = .bad q6) := by show _ = _; rw [← HRQ.out (.bad q6) (HQ3.out _ (by rw [ho]; rfl))]
              obtain ⟨xk, xb, xt, ⟨xka, xkn, xkc⟩, ⟨xpa, xpn, xpc⟩⟩ := x
              rw [show Tv.val ⟨xk, xb, xt, ⟨xka, xkn, xkc⟩, ⟨xpa, xpn, xpc⟩⟩ = .agg #[.int .i64 xk, .bool xb, .string xt, .slice xka xkn xkc, .slice xpa xpn xpc] from rfl]
              have hG6 : Cg g w1 W6 := Chg.trans HG5.out c
              have hT3 : TC (W6.alloc (.cells #[.int .i64 xk, .bool xb, .string xt, .slice xka xkn xkc, .slice xpa xpn xpc] 26)) (M + 1) ⟨5, false, ⟨#[]⟩, ⟨ka, kn, kc⟩, ⟨sa, sn, sc⟩⟩ := (HTT.out.keep (hG6.other (M + 1) HTT.out.lt (by omega))).keep (heap_alloc_old _ _ (Nat.lt_of_lt_of_le HTT.out.lt hG6.size))
              have hM3 : TC (W6.alloc (.cells #[.int .i64 xk, .bool xb, .string xt, .slice xka xkn xkc, .slice xpa xpn xpc] 26)) M TN := (HTM.out.keep (hG6.other M HTM.out.lt (by omega))).keep (heap_alloc_old _ _ (Nat.lt_of_lt_of_le HTM.out.lt hG6.size))
              have HF : Hid _ := list_no (p.keep (heap_alloc_old W6 (.cells #[.int .i64 xk, .bool xb, .string xt, .slice xka xkn xkc, .slice xpa xpn xpc] 26) p.lt)) hM3 hgM ⟨5, false, ⟨#[]⟩, ⟨ka, kn, kc⟩, ⟨sa, sn, sc⟩⟩ ((Chg.trans HC.out (Cg.toB hG6)).alloc _)
              obtain ⟨z0, z1, z2, z3, z4, zf⟩ := hT3.cells
              obtain ⟨y0, y1, y2, y3, y4, yf⟩ := hM3.cells
              have yf0 := yf 0; have yf1 := yf 1; have yf2 := yf 2; have yf3 := yf 3; have yf4 := yf 4
              simp only [TN, SN] at z0 z1 z2 z3 z4 y0 y1 y2 y3 y4
              clear p c hT3 hM3 zf yf ho HRQ HQ3 HIN hG6
              go_wp2
              refine tree_res Tryd.results48 (M := M) (x := ⟨5, false, ⟨#[]⟩, ⟨ka, kn, kc⟩, ⟨sa, sn, sc⟩⟩) (b := false) HF.out.2.1 rfl rfl ?_
              rw [HRR.out]
              have hf := HF.out
              simp only [set5, SN] at hf
              exact ⟨_, rfl, ⟨d', hf.1⟩, cgb_cg HMM.out hf.2.2⟩
            | big q6 =>
              rw [ho] at hvp
              obtain ⟨x, rfl, ⟨d', p⟩, c⟩ := hvp
              have HRR : Hid (R = .big q6) := by show _ = _; rw [← HRQ.out (.big q6) (HQ3.out _ (by rw [ho]; rfl))]
              obtain ⟨xk, xb, xt, ⟨xka, xkn, xkc⟩, ⟨xpa, xpn, xpc⟩⟩ := x
              rw [show Tv.val ⟨xk, xb, xt, ⟨xka, xkn, xkc⟩, ⟨xpa, xpn, xpc⟩⟩ = .agg #[.int .i64 xk, .bool xb, .string xt, .slice xka xkn xkc, .slice xpa xpn xpc] from rfl]
              have hG6 : Cg g w1 W6 := Chg.trans HG5.out c
              have hT3 : TC (W6.alloc (.cells #[.int .i64 xk, .bool xb, .string xt, .slice xka xkn xkc, .slice xpa xpn xpc] 26)) (M + 1) ⟨5, false, ⟨#[]⟩, ⟨ka, kn, kc⟩, ⟨sa, sn, sc⟩⟩ := (HTT.out.keep (hG6.other (M + 1) HTT.out.lt (by omega))).keep (heap_alloc_old _ _ (Nat.lt_of_lt_of_le HTT.out.lt hG6.size))
              have hM3 : TC (W6.alloc (.cells #[.int .i64 xk, .bool xb, .string xt, .slice xka xkn xkc, .slice xpa xpn xpc] 26)) M TN := (HTM.out.keep (hG6.other M HTM.out.lt (by omega))).keep (heap_alloc_old _ _ (Nat.lt_of_lt_of_le HTM.out.lt hG6.size))
              have HF : Hid _ := list_no (p.keep (heap_alloc_old W6 (.cells #[.int .i64 xk, .bool xb, .string xt, .slice xka xkn xkc, .slice xpa xpn xpc] 26) p.lt)) hM3 hgM ⟨5, false, ⟨#[]⟩, ⟨ka, kn, kc⟩, ⟨sa, sn, sc⟩⟩ ((Chg.trans HC.out (Cg.toB hG6)).alloc _)
              obtain ⟨z0, z1, z2, z3, z4, zf⟩ := hT3.cells
              obtain ⟨y0, y1, y2, y3, y4, yf⟩ := hM3.cells
              have yf0 := yf 0; have yf1 := yf 1; have yf2 := yf 2; have yf3 := yf 3; have yf4 := yf 4
              simp only [TN, SN] at z0 z1 z2 z3 z4 y0 y1 y2 y3 y4
              clear p c hT3 hM3 zf yf ho HRQ HQ3 HIN hG6
              go_wp2
              refine tree_res Tryd.results48 (M := M) (x := ⟨5, false, ⟨#[]⟩, ⟨ka, kn, kc⟩, ⟨sa, sn, sc⟩⟩) (b := false) HF.out.2.1 rfl rfl ?_
              rw [HRR.out]
              have hf := HF.out
              simp only [set5, SN] at hf
              exact ⟨_, rfl, ⟨d', hf.1⟩, cgb_cg HMM.out hf.2.2⟩
            | ok jv q6 =>
              rw [ho] at hvp
              obtain ⟨x, rfl, p, c, htj⟩ := hvp
              have hq := HIN.out
              rw [ho] at hq
              obtain ⟨hq1', hq2'⟩ := hq
              have HR1 : Hid ((if gb s (sk s q6) = 125 then Out.ok (a ++ [(key, jv)]) (sk s q6 + 1) else if gb s (sk s q6) = 44 then parts s 125 (membr s (val s k)) f (a ++ [(key, jv)]) (sk s (sk s q6 + 1)) else Out.bad (sk s q6)) = R) := by show _ = _; rw [← HRQ.out (.ok (key, jv) q6) (HQ3.out _ (by rw [ho]; rfl))]
              obtain ⟨xk, xb, xt, ⟨xka, xkn, xkc⟩, ⟨xpa, xpn, xpc⟩⟩ := x
              rw [show Tv.val ⟨xk, xb, xt, ⟨xka, xkn, xkc⟩, ⟨xpa, xpn, xpc⟩⟩ = .agg #[.int .i64 xk, .bool xb, .string xt, .slice xka xkn xkc, .slice xpa xpn xpc] from rfl]
              have HP6 : Hid (RB W6 g s q6 D false) := p
              have HG6 : Hid (Cg g w1 W6) := Chg.trans HG5.out c
              have HTJ : Hid (TJ (fun b => w1.heap.size ≤ b) W6 ⟨xk, xb, xt, ⟨xka, xkn, xkc⟩, ⟨xpa, xpn, xpc⟩⟩ jv) := htj.keep (fun b hb hlt => ⟨Nat.le_trans HG5.out.size hb, rfl⟩) (Nat.le_refl _)
              obtain ⟨W7, hW7⟩ : ∃ W7, W6.alloc (.cells #[.int .i64 xk, .bool xb, .string xt, .slice xka xkn xkc, .slice xpa xpn xpc] 26) = W7 := ⟨_, rfl⟩
              have HW7 : Hid (W6.alloc (.cells #[.int .i64 xk, .bool xb, .string xt, .slice xka xkn xkc, .slice xpa xpn xpc] 26) = W7) := hW7
              have hold : ∀ b, b < W6.heap.size → W7.heap[b]? = W6.heap[b]? := fun b hb => by rw [← hW7]; exact heap_alloc_old _ _ hb
              have HT7 : Hid (TC W7 (M + 1) ⟨5, false, ⟨#[]⟩, ⟨ka, kn, kc⟩, ⟨sa, sn, sc⟩⟩) := (HTT.out.keep (HG6.out.other (M + 1) HTT.out.lt (by omega))).keep (hold _ (Nat.lt_of_lt_of_le HTT.out.lt HG6.out.size))
              have HK7 : Hid (W7.ownsRow (M + 2) 9 1 (.slice ka kn kc) a.length (keyc (a.map Prod.fst))) := own_keep HRK.out (fun b e => (hold b (Nat.lt_of_lt_of_le (own_lt HRK.out b e).2 HG6.out.size)).trans (HG6.out.other b (own_lt HRK.out b e).2 (by have := (own_lt HRK.out b e).1; omega)))
              have HR7 : Hid (W7.ownsRow (M + 2) 26 5 (.slice sa sn sc) a.length (tcs xs)) := own_keep HRW.out (fun b e => (hold b (Nat.lt_of_lt_of_le (own_lt HRW.out b e).2 HG6.out.size)).trans (HG6.out.other b (own_lt HRW.out b e).2 (by have := (own_lt HRW.out b e).1; omega)))
              have HV7 : Hid (TC W7 W6.heap.size ⟨xk, xb, xt, ⟨xka, xkn, xkc⟩, ⟨xpa, xpn, xpc⟩⟩) := by show TC _ _ _; rw [← hW7]; exact heap_alloc_new _ _
              have HV8 : Hid (W6.heap.size ≠ M + 1 ∧ (Value.slice ka kn kc).ownBlock ≠ some W6.heap.size ∧ (Value.slice sa sn sc).ownBlock ≠ some W6.heap.size ∧ M + 2 ≤ W7.heap.size) := by
                have h1 := HTT.out.lt; have h2 := HG6.out.size
                refine ⟨by omega, fun e => by have := (own_lt HRK.out _ e).2; omega, fun e => by have := (own_lt HRW.out _ e).2; omega, ?_⟩
                rw [← hW7]; simp; omega
              have HAL : Hid (a.length ≤ 1000000000) := by show _ ≤ _; have := HS.out; omega
              clear ho htj p c hold hW7 HRQ HQ3 HIN HP5 HG5 HP4 HG4 HP3 HG3
              go_wp2_with fail
              rw [HW7.out]
              refine RG.wp_rgn' (OI W7 M a.length ⟨ka, kn, kc⟩ ⟨sa, sn, sc⟩ (keyc (a.map Prod.fst)) (tcs xs) key ⟨xk, xb, xt, ⟨xka, xkn, xkc⟩, ⟨xpa, xpn, xpc⟩⟩) (by kernel_rfl) (by kernel_rfl) (OI.start HT7.out HK7.out HR7.out rfl) ?_ ?_
              · refine ⟨?_, ?_, ?_, ?_, ?_, ?_, ?_, ?_, ?_, ?_, ?_, ?_, ?_, ?_, trivial⟩
                · intro a9 W d9 V hI hd hpx hbk hf hp
                  obtain ⟨p4, p9, hJ⟩ := hI
                  refine RU.ob_val (v := .pointer (some ⟨M + 1, 3, none⟩)) rfl (RU.wanted_none rfl) (fun ev he hc => ?_) ⟨_, rfl, hJ.pure 0 (by decide) (by decide) (by decide) (by decide) (by decide) (by decide)⟩
                  have q : ev (.tmp 4) = .pointer (some ⟨M + 1, 0, none⟩) := (he (.tmp 4)).trans (hf 4 rfl)
                  simp only [List.getElem_toArray, List.getElem_cons_succ, List.getElem_cons_zero, execOp, Option.map_some, Option.map_none]; rw [q]
                  first | (go_simp; done) | (go_simp; rfl) | rfl
                · intro a9 W d9 V hI hd hpx hbk hf hp
                  obtain ⟨p4, p9, hJ⟩ := hI
                  have e11 : d9 11 = false := hbk 11 rfl
                  have e13 : d9 13 = false := hbk 13 rfl
                  have tc := hJ.tc
                  simp only [e11, e13, Bool.false_eq_true, if_false] at tc
                  have hcell : W.cell? ⟨M + 1, 3, none⟩ = some (.slice ka kn kc) := tc.cells.2.2.2.1
                  refine RU.ob_val (v := .slice ka kn kc) rfl (RU.wanted_none rfl) (fun ev he hc => ?_) ⟨_, rfl, hJ.pure 1 (by decide) (by decide) (by decide) (by decide) (by decide) (by decide)⟩
                  have q : ev (.tmp 78) = .pointer (some ⟨M + 1, 3, none⟩) := (he (.tmp 78)).trans ((hp 0 78 rfl).trans (hJ.vals 0 (by decide) (by decide) (by decide) (by decide) (by decide) (by decide) (hpx 0 rfl)))
                  simp only [List.getElem_toArray, List.getElem_cons_succ, List.getElem_cons_zero, execOp, Option.map_some, Option.map_none]; rw [q]
                  first | (go_simp; done) | (go_simp; rfl) | rfl
                · intro a9 W d9 V hI hd hpx hbk hf hp
                  obtain ⟨p4, p9, hJ⟩ := hI
                  refine RU.ob_val (v := .string key) rfl (RU.wanted_none rfl) (fun ev he hc => ?_) ⟨_, rfl, hJ.pure 2 (by decide) (by decide) (by decide) (by decide) (by decide) (by decide)⟩
                  have q : ev (.tmp 6) = .string key := (he (.tmp 6)).trans (hf 6 rfl)
                  simp only [List.getElem_toArray, List.getElem_cons_succ, List.getElem_cons_zero, execOp, Option.map_some, Option.map_none]; rw [q]
                  first | (go_simp; done) | (go_simp; rfl) | rfl
                · intro a9 W d9 V hI hd hpx hbk hf hp
                  obtain ⟨p4, p9, hJ⟩ := hI
                  have hr := run_onestr W key
                  refine RU.ob_run (v := .slice (some ⟨W.heap.size, 0, none⟩) 1 1) (w' := W.alloc (.cells #[.string key] 9)) rfl (RU.wanted_none rfl) (fun ev he hc => ?_) ⟨_, rfl, hJ.al3⟩
                  have q : ev (.tmp 80) = .string key := (he (.tmp 80)).trans ((hp 2 80 rfl).trans (hJ.vals 2 (by decide) (by decide) (by decide) (by decide) (by decide) (by decide) (hpx 2 rfl)))
                  simp only [List.getElem_toArray, List.getElem_cons_succ, List.getElem_cons_zero, execOp, Option.map_some, Option.map_none, List.map_toArray, List.map_cons, List.map_nil, q, Sem.run_bind, hr, Result.andThen_ok, Sem.run_pure]
                · intro a9 W d9 V hI hd hpx hbk hf hp
                  obtain ⟨p4, p9, hJ⟩ := hI
                  have e4 : d9 4 = false := hd
                  have e9 : d9 9 = false := hbk 9 rfl
                  have e11 : d9 11 = false := hbk 11 rfl
                  have e13 : d9 13 = false := hbk 13 rfl
                  have rk := hJ.rk
                  simp only [e4, Bool.false_eq_true, if_false] at rk
                  obtain ⟨b3, hV3, hh3⟩ := hJ.b3 (hpx 3 rfl) hd
                  have q79 : a9.eval (.tmp 79) = .slice ka kn kc := (hp 1 79 rfl).trans (hJ.vals 1 (by decide) (by decide) (by decide) (by decide) (by decide) (by decide) (hpx 1 rfl))
                  have q81 : a9.eval (.tmp 81) = .slice (some ⟨b3, 0, none⟩) 1 1 := (hp 3 81 rfl).trans hV3
                  refine RD.ob_list rfl (RU.wanted_none rfl) ?_
                  refine app_txt1 rfl (.tmp 79) (.tmp 81) rfl (.slice ka kn kc) a.length (keyc (a.map Prod.fst)) q79 rk b3 key q81 (by simp [World.cell?, hh3]) HAL.out (Nat.le_trans HV8.out.2.2.2 hJ.ch.size) ?_
                  intro v' W9 o1 o2 o3
                  obtain ⟨ad', nn, cc, hsl⟩ := own_slice o1
                  subst hsl
                  exact ⟨_, rfl, hJ.ap4 (p := ⟨ad', nn, cc⟩) e4 e9 e11 e13 o1 o2 o3⟩
                · intro a9 W d9 V hI hd hpx hbk hf hp
                  obtain ⟨p4, p9, hJ⟩ := hI
                  refine RU.ob_val (v := .pointer (some ⟨M + 1, 4, none⟩)) rfl (RU.wanted_none rfl) (fun ev he hc => ?_) ⟨_, rfl, hJ.pure 5 (by decide) (by decide) (by decide) (by decide) (by decide) (by decide)⟩
                  have q : ev (.tmp 4) = .pointer (some ⟨M + 1, 0, none⟩) := (he (.tmp 4)).trans (hf 4 rfl)
                  simp only [List.getElem_toArray, List.getElem_cons_succ, List.getElem_cons_zero, execOp, Option.map_some, Option.map_none]; rw [q]
                  first | (go_simp; done) | (go_simp; rfl) | rfl
                · intro a9 W d9 V hI hd hpx hbk hf hp
                  obtain ⟨p4, p9, hJ⟩ := hI
                  have e11 : d9 11 = false := hbk 11 rfl
                  have e13 : d9 13 = false := hbk 13 rfl
                  have tc := hJ.tc
                  simp only [e11, e13, Bool.false_eq_true, if_false] at tc
                  have hcell : W.cell? ⟨M + 1, 4, none⟩ = some (.slice sa sn sc) := tc.cells.2.2.2.2.1
                  refine RU.ob_val (v := .slice sa sn sc) rfl (RU.wanted_none rfl) (fun ev he hc => ?_) ⟨_, rfl, hJ.pure 6 (by decide) (by decide) (by decide) (by decide) (by decide) (by decide)⟩
                  have q : ev (.tmp 83) = .pointer (some ⟨M + 1, 4, none⟩) := (he (.tmp 83)).trans ((hp 5 83 rfl).trans (hJ.vals 5 (by decide) (by decide) (by decide) (by decide) (by decide) (by decide) (hpx 5 rfl)))
                  simp only [List.getElem_toArray, List.getElem_cons_succ, List.getElem_cons_zero, execOp, Option.map_some, Option.map_none]; rw [q]
                  first | (go_simp; done) | (go_simp; rfl) | rfl
                · intro a9 W d9 V hI hd hpx hbk hf hp
                  obtain ⟨p4, p9, hJ⟩ := hI
                  have q9 : a9.eval (.tmp 9) = .pointer (some ⟨W6.heap.size, 0, none⟩) := hf 9 rfl
                  have hV : TC W W6.heap.size ⟨xk, xb, xt, ⟨xka, xkn, xkc⟩, ⟨xpa, xpn, xpc⟩⟩ := HV7.out.keep (hJ.ch.other _ HV7.out.lt (fun q => q.elim (fun e => HV8.out.1 e) (fun q => q.elim (fun e => HV8.out.2.1 e) (fun e => HV8.out.2.2.1 e))))
                  exact RU.ob_op rfl (RU.wanted_none rfl) (wp_load_mid 26 (.tmp 9) rfl W6.heap.size 0 q9 (tcv ⟨xk, xb, xt, ⟨xka, xkn, xkc⟩, ⟨xpa, xpn, xpc⟩⟩) _ hV.range Tryd.underlying26 rfl (by kernel_rfl) ⟨_, rfl, hJ.pure 7 (by decide) (by decide) (by decide) (by decide) (by decide) (by decide)⟩)
                · intro a9 W d9 V hI hd hpx hbk hf hp
                  obtain ⟨p4, p9, hJ⟩ := hI
                  have hr := run_onetree W ⟨xk, xb, xt, ⟨xka, xkn, xkc⟩, ⟨xpa, xpn, xpc⟩⟩
                  refine RU.ob_run (v := .slice (some ⟨W.heap.size, 0, none⟩) 1 1) (w' := W.alloc (.cells (tcv ⟨xk, xb, xt, ⟨xka, xkn, xkc⟩, ⟨xpa, xpn, xpc⟩⟩).toArray 26)) rfl (RU.wanted_none rfl) (fun ev he hc => ?_) ⟨_, rfl, hJ.al8⟩
                  have q : ev (.tmp 85) = Tv.val ⟨xk, xb, xt, ⟨xka, xkn, xkc⟩, ⟨xpa, xpn, xpc⟩⟩ := (he (.tmp 85)).trans ((hp 7 85 rfl).trans (hJ.vals 7 (by decide) (by decide) (by decide) (by decide) (by decide) (by decide) (hpx 7 rfl)))
                  simp only [List.getElem_toArray, List.getElem_cons_succ, List.getElem_cons_zero, execOp, Option.map_some, Option.map_none, List.map_toArray, List.map_cons, List.map_nil, q, Sem.run_bind, hr, Result.andThen_ok, Sem.run_pure]
                · intro a9 W d9 V hI hd hpx hbk hf hp
                  obtain ⟨p4, p9, hJ⟩ := hI
                  have e4 : d9 4 = true := hpx 4 rfl
                  have e9 : d9 9 = false := hd
                  have e11 : d9 11 = false := hbk 11 rfl
                  have e13 : d9 13 = false := hbk 13 rfl
                  have rp := hJ.rp
                  simp only [e9, Bool.false_eq_true, if_false] at rp
                  obtain ⟨b3, hV3, -, hh3⟩ := hJ.b8 (hpx 8 rfl) hd
                  have q84 : a9.eval (.tmp 84) = .slice sa sn sc := (hp 6 84 rfl).trans (hJ.vals 6 (by decide) (by decide) (by decide) (by decide) (by decide) (by decide) (hpx 6 rfl))
                  have q86 : a9.eval (.tmp 86) = .slice (some ⟨b3, 0, none⟩) 1 1 := (hp 8 86 rfl).trans hV3
                  refine RD.ob_list rfl (RU.wanted_none rfl) ?_
                  refine app_tree rfl (.tmp 84) (.tmp 86) rfl (.slice sa sn sc) a.length (tcs xs) q84 rp b3 ⟨xk, xb, xt, ⟨xka, xkn, xkc⟩, ⟨xpa, xpn, xpc⟩⟩ q86 (TC.range (x := ⟨xk, xb, xt, ⟨xka, xkn, xkc⟩, ⟨xpa, xpn, xpc⟩⟩) hh3) HAL.out (Nat.le_trans HV8.out.2.2.2 hJ.ch.size) ?_
                  intro v' W9 o1 o2 o3
                  obtain ⟨ad', nn, cc, hsl⟩ := own_slice o1
                  subst hsl
                  exact ⟨_, rfl, hJ.ap9 (p := ⟨ad', nn, cc⟩) e4 e9 e11 e13 o1 o2 o3⟩
                · intro a9 W d9 V hI hd hpx hbk hf hp
                  obtain ⟨p4, p9, hJ⟩ := hI
                  refine RU.ob_val (v := .pointer (some ⟨M + 1, 3, none⟩)) rfl (RU.wanted_none rfl) (fun ev he hc => ?_) ⟨_, rfl, hJ.pure 10 (by decide) (by decide) (by decide) (by decide) (by decide) (by decide)⟩
                  have q : ev (.tmp 4) = .pointer (some ⟨M + 1, 0, none⟩) := (he (.tmp 4)).trans (hf 4 rfl)
                  simp only [List.getElem_toArray, List.getElem_cons_succ, List.getElem_cons_zero, execOp, Option.map_some, Option.map_none]; rw [q]
                  first | (go_simp; done) | (go_simp; rfl) | rfl
                · intro a9 W d9 V hI hd hpx hbk hf hp
                  obtain ⟨p4, p9, hJ⟩ := hI
                  have e4 : d9 4 = true := hpx 4 rfl
                  have e9 : d9 9 = true := hpx 9 rfl
                  have e11 : d9 11 = false := hd
                  have e13 : d9 13 = false := hbk 13 rfl
                  have q1 : a9.eval (.tmp 88) = .pointer (some ⟨M + 1, 3, none⟩) := (hp 10 88 rfl).trans (hJ.vals 10 (by decide) (by decide) (by decide) (by decide) (by decide) (by decide) (hpx 10 rfl))
                  have q2 : a9.eval (.tmp 82) = p4.v := (hp 4 82 rfl).trans (hJ.v4 e4)
                  have tc := hJ.tc
                  have hcell := tc.cells.2.2.2.1
                  have hfr := tc.cells.2.2.2.2.2 3
                  refine RU.ob_skip (w' := W.setCell ⟨M + 1, 3, none⟩ p4.v) rfl (RU.wanted_none rfl) (fun ev he hc => ?_) ⟨_, rfl, hJ.st11 e4 e9 e11 e13 undef⟩
                  have h1 := (he (.tmp 88)).trans q1
                  have h2 := (he (.tmp 82)).trans q2
                  obtain ⟨za, zn, zc⟩ := p4
                  simp only [List.getElem_toArray, List.getElem_cons_succ, List.getElem_cons_zero, execOp, Option.map_some, Option.map_none]; rw [h1, h2]
                  simp only [Sv.v]
                  first | (go_simp; done) | (go_simp; rfl) | rfl
                · intro a9 W d9 V hI hd hpx hbk hf hp
                  obtain ⟨p4, p9, hJ⟩ := hI
                  refine RU.ob_val (v := .pointer (some ⟨M + 1, 4, none⟩)) rfl (RU.wanted_none rfl) (fun ev he hc => ?_) ⟨_, rfl, hJ.pure 12 (by decide) (by decide) (by decide) (by decide) (by decide) (by decide)⟩
                  have q : ev (.tmp 4) = .pointer (some ⟨M + 1, 0, none⟩) := (he (.tmp 4)).trans (hf 4 rfl)
                  simp only [List.getElem_toArray, List.getElem_cons_succ, List.getElem_cons_zero, execOp, Option.map_some, Option.map_none]; rw [q]
                  first | (go_simp; done) | (go_simp; rfl) | rfl
                · intro a9 W d9 V hI hd hpx hbk hf hp
                  obtain ⟨p4, p9, hJ⟩ := hI
                  have e4 : d9 4 = true := hpx 4 rfl
                  have e9 : d9 9 = true := hpx 9 rfl
                  have e11 : d9 11 = true := hpx 11 rfl
                  have e13 : d9 13 = false := hd
                  have q1 : a9.eval (.tmp 89) = .pointer (some ⟨M + 1, 4, none⟩) := (hp 12 89 rfl).trans (hJ.vals 12 (by decide) (by decide) (by decide) (by decide) (by decide) (by decide) (hpx 12 rfl))
                  have q2 : a9.eval (.tmp 87) = p9.v := (hp 9 87 rfl).trans (hJ.v9 e9)
                  have tc := hJ.tc
                  have hcell := tc.cells.2.2.2.2.1
                  have hfr := tc.cells.2.2.2.2.2 4
                  refine RU.ob_skip (w' := W.setCell ⟨M + 1, 4, none⟩ p9.v) rfl (RU.wanted_none rfl) (fun ev he hc => ?_) ⟨_, rfl, hJ.st13 e4 e9 e11 e13 undef⟩
                  have h1 := (he (.tmp 89)).trans q1
                  have h2 := (he (.tmp 87)).trans q2
                  obtain ⟨za, zn, zc⟩ := p9
                  simp only [List.getElem_toArray, List.getElem_cons_succ, List.getElem_cons_zero, execOp, Option.map_some, Option.map_none]; rw [h1, h2]
                  simp only [Sv.v]
                  first | (go_simp; done) | (go_simp; rfl) | rfl
              intro W8 dd VV hal hO
              have HPU : Hid (RIO M W8 (a ++ [(key, jv)]) ∧ RB W8 g s q6 D false ∧ CgB g M w1 W8) := by
                obtain ⟨p4, p9, hJ⟩ := hO
                exact obj_push hgM HTM.out HTT.out HRK.out HRW.out HTS.out HG6.out HTJ.out HP6.out HW7.out hJ (hal 4 (by decide)) (hal 9 (by decide)) (hal 11 (by decide)) (hal 13 (by decide))
              obtain ⟨v78, hv78⟩ : ∃ v, VV 0 = v := ⟨_, rfl⟩
              obtain ⟨v79, hv79⟩ : ∃ v, VV 1 = v := ⟨_, rfl⟩
              obtain ⟨v80, hv80⟩ : ∃ v, VV 2 = v := ⟨_, rfl⟩
              obtain ⟨v81, hv81⟩ : ∃ v, VV 3 = v := ⟨_, rfl⟩
              obtain ⟨v82, hv82⟩ : ∃ v, VV 4 = v := ⟨_, rfl⟩
              obtain ⟨v83, hv83⟩ : ∃ v, VV 5 = v := ⟨_, rfl⟩
              obtain ⟨v84, hv84⟩ : ∃ v, VV 6 = v := ⟨_, rfl⟩
              obtain ⟨v85, hv85⟩ : ∃ v, VV 7 = v := ⟨_, rfl⟩
              obtain ⟨v86, hv86⟩ : ∃ v, VV 8 = v := ⟨_, rfl⟩
              obtain ⟨v87, hv87⟩ : ∃ v, VV 9 = v := ⟨_, rfl⟩
              obtain ⟨v88, hv88⟩ : ∃ v, VV 10 = v := ⟨_, rfl⟩
              obtain ⟨v89, hv89⟩ : ∃ v, VV 12 = v := ⟨_, rfl⟩
              simp only [RU.lay, Act.put, hv78, hv79, hv80, hv81, hv82, hv83, hv84, hv85, hv86, hv87, hv88, hv89]
              simp only [List.setIfInBounds_toArray, List.set_cons_succ, List.set_cons_zero]
              clear hal hO hv78 hv79 hv80 hv81 hv82 hv83 hv84 hv85 hv86 hv87 hv88 hv89
              obtain ⟨W7', hW7'⟩ : ∃ W9, W8 = W9 := ⟨_, rfl⟩
              have HRI : Hid (RIO M W8 (a ++ [(key, jv)])) := HPU.out.1
              have HP7 : Hid (RB W8 g s q6 D false) := HPU.out.2.1
              have HC7 : Hid (CgB g M w W8) := Chg.trans HC.out HPU.out.2.2
              clear hW7' HPU HP6 HG6 HTJ HT7 HK7 HR7 HV7 HV8 HW7 HTM HTT HRK HRW HTS HC HP HLEN HLK
              go_wp2_with fail
              refine (rblanks_any HP7.out hq2' HS.out).mono ?_
              rintro e W8 ⟨rfl, p, c⟩
              have hm := sk_le hq2'
              have hmq := sk_ge s q6
              obtain ⟨m, hmm⟩ : ∃ m, sk s q6 = m := ⟨_, rfl⟩
              rw [hmm] at p hm hmq HR1
              have HP8 : Hid (RB W8 g s m D false) := p
              have HC8 : Hid (CgB g M w W8) := CgB.step HC7.out c
              have hri := HRI.out.stay hgM c
              have HRI8 : Hid (RIO M W8 (a ++ [(key, jv)])) := hri
              obtain ⟨tm, kv', sv', xs', tt, hrk', hrw', hts'⟩ := hri
              obtain ⟨va, vn, vc⟩ := sv'
              obtain ⟨la, ln, lc⟩ := kv'
              have HTM8 : Hid (TC W8 M TN) := tm
              have HTT8 : Hid (TC W8 (M + 1) ⟨5, false, ⟨#[]⟩, ⟨la, ln, lc⟩, ⟨va, vn, vc⟩⟩) := tt
              have HJ8 : Hid (TJ (fun b => M + 2 ≤ b) W8 ⟨5, false, ⟨#[]⟩, ⟨la, ln, lc⟩, ⟨va, vn, vc⟩⟩ (.obj (a ++ [(key, jv)]))) := rio_tj hrk' hrw' hts'
              obtain ⟨z0, z1, z2, z3, z4, zf⟩ := tt.cells
              obtain ⟨y0, y1, y2, y3, y4, yf⟩ := tm.cells
              have yf0 := yf 0; have yf1 := yf 1; have yf2 := yf 2; have yf3 := yf 3; have yf4 := yf 4
              obtain ⟨r0, r1, r2, r3⟩ := p.cells
              have f1 := p.froz 1
              have f2 := p.froz 2
              simp only [TN, SN] at z0 z1 z2 z3 z4 y0 y1 y2 y3 y4
              have c1 : (m : Int) ≤ 8192 := by have := HS.out; omega
              have c2 : (0 : Int) ≤ (m : Int) := by omega
              clear p c tm tt hrk' hrw' hts' zf yf hmm HP7 HC7 HRI
              go_wp2_with fail
              by_cases e125 : gb s m = 125
              · have HRR : Hid (R = .ok (a ++ [(key, jv)]) (m + 1)) := by show _ = _; rw [← HR1.out, if_pos e125]
                have HF : Hid (∀ n, RB (set5 (((W8.drewN n).setCell ⟨g, 1, none⟩ (.int .i64 ((m : Int) + 1))).setCell ⟨g, 2, none⟩ (.int .i64 ((D : Int) - 1))) M ⟨5, false, ⟨#[]⟩, ⟨la, ln, lc⟩, ⟨va, vn, vc⟩⟩) g s (m + 1) d false ∧ TC (set5 (((W8.drewN n).setCell ⟨g, 1, none⟩ (.int .i64 ((m : Int) + 1))).setCell ⟨g, 2, none⟩ (.int .i64 ((D : Int) - 1))) M ⟨5, false, ⟨#[]⟩, ⟨la, ln, lc⟩, ⟨va, vn, vc⟩⟩) M ⟨5, false, ⟨#[]⟩, ⟨la, ln, lc⟩, ⟨va, vn, vc⟩⟩ ∧ CgB g M w (set5 (((W8.drewN n).setCell ⟨g, 1, none⟩ (.int .i64 ((m : Int) + 1))).setCell ⟨g, 2, none⟩ (.int .i64 ((D : Int) - 1))) M ⟨5, false, ⟨#[]⟩, ⟨la, ln, lc⟩, ⟨va, vn, vc⟩⟩)) := fun n => list_fin (HP8.out.drew n) hD (show TC (W8.drewN n) M TN from HTM8.out) hgM _ (Chg.drew HC8.out n)
                have HJ : Hid (∀ n, TJ (fun b => w.heap.size ≤ b) (set5 (((W8.drewN n).setCell ⟨g, 1, none⟩ (.int .i64 ((m : Int) + 1))).setCell ⟨g, 2, none⟩ (.int .i64 ((D : Int) - 1))) M ⟨5, false, ⟨#[]⟩, ⟨la, ln, lc⟩, ⟨va, vn, vc⟩⟩) ⟨5, false, ⟨#[]⟩, ⟨la, ln, lc⟩, ⟨va, vn, vc⟩⟩ (.obj (a ++ [(key, jv)]))) := fun n => obj_tj HMM.out hgM HJ8.out
                refine (rhere_at HP8.out (by rfl) hm HS.out).mono ?_
                rintro _ _ ⟨rfl, n2, rfl⟩
                rw [e125]
                go_wp2
                refine tree_res Tryd.results48 (M := M) (x := ⟨5, false, ⟨#[]⟩, ⟨la, ln, lc⟩, ⟨va, vn, vc⟩⟩) (b := true) (HF.out n2).2.1 rfl rfl ?_
                rw [HRR.out]
                exact ⟨_, rfl, (HF.out n2).1, cgb_cg HMM.out (HF.out n2).2.2, HJ.out n2⟩
              · refine (rhere_at HP8.out (by rfl) hm HS.out).mono ?_
                rintro _ _ ⟨rfl, n2, rfl⟩
                go_wp2_with fail
                refine (rhere_at HP8.out (by rfl) hm HS.out).mono ?_
                rintro _ _ ⟨rfl, n3, rfl⟩
                by_cases e44 : gb s m = 44
                · have hlt := gb_lt (s := s) (i := m) (by omega)
                  have HRR : Hid (parts s 125 (membr s (val s k)) f (a ++ [(key, jv)]) (sk s (m + 1)) = R) := by show _ = _; rw [← HR1.out, if_neg e125, if_pos e44]
                  have HF : Hid (∀ n, RB ((W8.drewN n).setCell ⟨g, 1, none⟩ (.int .i64 ((m : Int) + 1))) g s (m + 1) D false ∧ Cg g W8 ((W8.drewN n).setCell ⟨g, 1, none⟩ (.int .i64 ((m : Int) + 1)))) := fun n => ⟨(HP8.out.drew n).set1 (m + 1), Chg.setCell (F := fun b => b = g) (Chg.drew (Chg.refl _ _) n) rfl⟩
                  go_wp2_with fail
                  try simp only [World.drewN_drewN]
                  refine (rblanks_any (HF.out _).1 hlt HS.out).mono ?_
                  rintro e W10 ⟨rfl, p, c⟩
                  have hx1 := sk_ge s (m + 1)
                  have hx2 := sk_le (s := s) (i := m + 1) hlt
                  obtain ⟨x, hx⟩ : ∃ x, sk s (m + 1) = x := ⟨_, rfl⟩
                  rw [hx] at p hx1 hx2 HRR
                  obtain ⟨f', rfl⟩ : ∃ f', f = f' + 1 := ⟨f - 1, by omega⟩
                  have HL : Hid (LRO g s D M (membr s (val s k)) w R W10) := ⟨f', a ++ [(key, jv)], x, by unfold LQ; rw [if_neg (fun h => by simp at h)]; exact HRR.out, by omega, hx2, by rw [List.length_append]; show _ + 1 ≤ _; omega, p, HRI8.out.stay hgM (Chg.trans (HF.out _).2 c), CgB.step HC8.out (Chg.trans (HF.out _).2 c)⟩
                  have HPX : Hid (posOf W10 g = x) := p.pos
                  clear p c HRR HF HP8 HC8 HRI8 HTM8 HTT8 HJ8 z0 z1 z2 z3 z4 y0 y1 y2 y3 y4 yf0 yf1 yf2 yf3 yf4 r0 r1 r2 r3 hx
                  go_wp2
                  go_roundw
                  case rel => exact HL.out
                  case measure => rw [HPX.out, HPS.out]; omega
                · have HRR : Hid (R = .bad m) := by show _ = _; rw [← HR1.out, if_neg e125, if_neg e44]
                  have HF : Hid (∀ n, RB (set5 (W8.drewN n) M ⟨5, false, ⟨#[]⟩, ⟨la, ln, lc⟩, ⟨va, vn, vc⟩⟩) g s m D false ∧ TC (set5 (W8.drewN n) M ⟨5, false, ⟨#[]⟩, ⟨la, ln, lc⟩, ⟨va, vn, vc⟩⟩) M ⟨5, false, ⟨#[]⟩, ⟨la, ln, lc⟩, ⟨va, vn, vc⟩⟩ ∧ CgB g M w (set5 (W8.drewN n) M ⟨5, false, ⟨#[]⟩, ⟨la, ln, lc⟩, ⟨va, vn, vc⟩⟩)) := fun n => list_no (HP8.out.drew n) (show TC (W8.drewN n) M TN from HTM8.out) hgM _ (Chg.drew HC8.out n)
                  try simp only [World.drewN_drewN]
                  go_wp2
                  refine tree_res Tryd.results48 (M := M) (x := ⟨5, false, ⟨#[]⟩, ⟨la, ln, lc⟩, ⟨va, vn, vc⟩⟩) (b := false) (HF.out _).2.1 rfl rfl ?_
                  rw [HRR.out]
                  have hf := HF.out (n2 + n3)
                  simp only [set5, SN] at hf
                  exact ⟨_, rfl, ⟨D, hf.1⟩, cgb_cg HMM.out hf.2.2⟩
      )
end Go.Proofs.YtefaohokmhdplaaDoor
