/- load, whatever the halves hold. -/
import Derived.Test.YthfpakjfdncphaaDoorWalR
namespace Go.Proofs.YthfpakjfdncphaaDoor
open Go Go.RowKit
set_option linter.unusedSimpArgs false
set_option linter.unusedVariables false
set_option maxRecDepth 100000

theorem split_short (xs : List Int) (ad : Option Addr) (cap : Nat) (w : World) (hs : Sl w (.slice ad xs.length cap) xs) (hl : xs.length < 8) :
    Calls Tryd.prog 40 #[.slice ad xs.length cap] w fun e w' => e = .returned (.tuple #[.int .u64 0, .slice none 0 0, .bool false]) ∧ w' = w := by
  have HS : Hid (Sl w (.slice ad xs.length cap) xs) := hs
  clear hs
  go_enter Tryd.func40, Tryd.ntmps40
  go_wp2_with fail
  refine (cutNumber_no xs _ w HS.out hl).mono ?_
  rintro e w' ⟨rfl, rfl⟩
  go_wp2_with fail
  go_loopw [2, 3, 4] (fun a b c wr => a = .int .u64 0 ∧ b = .slice none 0 0 ∧ c = .bool false ∧ wr = w') (fun _ _ _ _ => 0)
  case atStart => exact ⟨rfl, rfl, rfl, rfl⟩
  case round =>
    obtain ⟨rfl, rfl, rfl, rfl⟩ := hrel
    go_wp2
    go_ret3
    exact ⟨rfl, rfl⟩
/-- What the two halves hold: no beginning, or one of a turn. -/
structure Hv (s : Dk) (q : Nat → Option (Nat × List (List Int))) : Prop where
  no : ∀ i, i < 2 → q i = none → tk s (hfF s.n i) (hfT s.n i) = none ∨ tk s (hfF s.n i) (hfT s.n i) = some []
  yes : ∀ i T xs, i < 2 → q i = some (T, xs) → tk s (hfF s.n i) (hfT s.n i) = some (JN (T : Int) xs) ∧ T % 2 = i ∧ 0 < T ∧ T < 18446744073709551616 ∧ Rok xs
def ldS (L : Lo) (a : Nat) : Option (Nat × List (List Int)) → Lo
  | none => L
  | some (T, xs) => if L.t < T then { L with t := T, rs := xs, en := a + fl (JN (T : Int) xs).length } else L
def ldk (g : Nat) (s : Dk) (q : Nat → Option (Nat × List (List Int))) : Nat → Lo
  | 0 => l0 g
  | k + 1 => ldS (setF (ldk g s q k) k (rdV s (hfF s.n k : Int))) (hfF s.n k) (q k)
theorem ldk_succ (g : Nat) (s : Dk) (q : Nat → Option (Nat × List (List Int))) (k : Nat) : ldk g s q (k + 1) = ldS (setF (ldk g s q k) k (rdV s (hfF s.n k : Int))) (hfF s.n k) (q k) := rfl
/-- What follow leaves. -/
def LdR (s : Dk) (L L' : Lo) : Prop := (L.t = 0 ∧ L' = L) ∨ (L.t ≠ 0 ∧ ∃ ns e', Frs s (hfT s.n L.t) L.en ns e' ∧ tk s e' (hfT s.n L.t) = none ∧ L' = { L with rs := L.rs ++ ns, en := e' })
theorem js_many' (xs : List (List Int)) : ∀ k, 8 + 8 * k ≤ js xs k
  | 0 => by simp [js]
  | k + 1 => by have := js_many' xs k; simp only [js]; omega
theorem js_many (xs : List (List Int)) : 8 + 8 * xs.length ≤ JS xs := js_many' xs _
def Lok (L : Lo) : Prop := L.t < 18446744073709551616 ∧ L.en ≤ 65536 ∧ L.rs.length ≤ 999999999
set_option maxHeartbeats 2000000 in
theorem load_any {S : Nat → Prop} {w : World} {g : Nat} {s : Dk} {lg : Nat} {l : Lo} (h : WL S w g s lg l) (q : Nat → Option (Nat × List (List Int))) (hq : Hv s q) :
    Calls Tryd.prog 35 #[.pointer (some ⟨lg, 0, none⟩)] w fun e w' => e = .returned (.tuple #[]) ∧ ∃ L', LdR s (ldk g s q 2) L' ∧ AftL S w w' g s lg L' := by
  obtain ⟨F, H, rv, us, hx⟩ := h
  have HX : Hid (WX S F H w g s lg l rv us) := hx
  have HQ : Hid (Hv s q) := hq
  obtain ⟨c0, -⟩ := hx.lw.lb.cells hx.lw.f0 hx.lw.f1
  rw [hx.dk] at c0
  have HTH : Hid (w.there lg 0 (lc (l0 g) (.slice none 0 0)).toArray.size) := there_of_row' hx.lw.lb 0 _ (by rw [List.size_toArray, List.size_toArray, lc_length hx.lw.f0 hx.lw.f1, lc_length z64_length z64_length]; omega)
  have HBT : Hid (Tryd.prog.built 63 [(0, .pointer (some ⟨g, 0, none⟩))] = some (lc (l0 g) (.slice none 0 0)).toArray) := by show _ = _; kernel_rfl
  have hn2 := hx.pd.n2
  clear hx hq
  go_enter Tryd.func35, Tryd.ntmps35
  go_wp2_with (first
    | (refine wpList_buildTo rfl 63 _ rfl (some 15) rfl (lc (l0 g) (.slice none 0 0)).toArray (by simp only [List.map_toArray, List.map_cons, List.map_nil]; exact HBT.out) ?_)
    | (refine Sh.wpList_store_midL rfl 63 _ _ rfl lg 0 (lc (l0 g) (.slice none 0 0)).toArray rfl rfl HTH.out (size_l0 g) (lc_one' _ _ rfl) ?_; intro w1 hw1; have X1 : Hid (WX S F H w1 g s lg (l0 g) (.slice none 0 0) [] ∧ Chg S w w1) := emp_of HX.out hw1; clear hw1))
  have D1 : Hid (Chg S w w1) := X1.out.2
  go_loopw [17] (fun i wr => ∃ k : Nat, k ≤ 2 ∧ i = .int .i64 (k : Int) ∧ Lok (ldk g s q k) ∧ AftL S w wr g s lg (ldk g s q k)) (fun i _ => 2 - (intOf i).toNat)
  case atStart => exact ⟨0, by omega, rfl, ⟨by show 0 < _; omega, by show 0 ≤ _; omega, by show 0 ≤ _; omega⟩, ⟨S, ⟨F, H, _, _, X1.out.1⟩, D1.out, fun b hb => .inl hb⟩⟩
  case round =>
    obtain ⟨k, hk, rfl, hlok, S1, ⟨F1, H1, rv1, us1, hx1⟩, hc1, hd1⟩ := hrel
    have X2 : Hid (WX S1 F1 H1 wr g s lg (ldk g s q k) rv1 us1) := hx1
    have C2 : Hid (Chg S w wr) := hc1
    have D2 : Hid (∀ b, S1 b → S b ∨ w.heap.size ≤ b) := hd1
    have HLOK : Hid (Lok (ldk g s q k)) := hlok
    clear hx1 hc1 hd1 X1 D1 c0 hlok
    by_cases hlt : k < 2
    · have hk2 : (k : Int) < 2 := by omega
      obtain ⟨c0, -⟩ := X2.out.lw.lb.cells X2.out.lw.f0 X2.out.lw.f1
      rw [X2.out.dk] at c0
      go_wp2_with fail
      refine (half_any X2.out.pd c0 (by omega) k (by omega)).mono ?_
      rintro e w3 ⟨rfl, rfl⟩
      have HLKS := ldk_succ g s q k
      obtain ⟨A, hA⟩ : ∃ A, hfF s.n k = A := ⟨_, rfl⟩
      obtain ⟨T, hT⟩ : ∃ T, hfT s.n k = T := ⟨_, rfl⟩
      have hAT : A ≤ 65536 ∧ T ≤ 65536 := by
        rw [← hA, ← hT]; unfold hfF hfT
        have : k % 2 = 0 ∨ k % 2 = 1 := by omega
        rcases this with h | h <;> rw [h] <;> omega
      have HLK : Hid (ldk g s q (k + 1) = ldS (setF (ldk g s q k) k (rdV s (A : Int))) A (q k)) := by rw [← hA]; exact HLKS
      have HAT : Hid (hfF s.n k = A ∧ hfT s.n k = T) := ⟨hA, hT⟩
      clear HLKS
      obtain ⟨x, hx⟩ : ∃ x, x = rdV s (A : Int) := ⟨_, rfl⟩
      have HXX : Hid (x = rdV s (A : Int)) := hx
      have HXL : Hid (x.length = 64) := by rw [hx]; exact (X2.out.by' _).2
      rw [hA, hT]
      clear hx hA hT c0
      obtain ⟨L, hL⟩ : ∃ L, ldk g s q k = L := ⟨_, rfl⟩
      rw [hL] at X2 HLK HLOK
      rw [← HXX.out] at HLK
      clear hL
      have Q3 : Hid (mΩ S1 F1 H1 w3 g s lg L rv1 us1 k x 0 (fun _ => undef) { w3 with drawn := w3.drawn + 1 }) := ⟨X2.out.below (Below.refl _ _).drew, chg_of_below (Below.refl _ _).drew⟩
      go_wp2_with fail
      refine RU.wp_rgn' [11] (mf lg g A k x) hK0 (mΩ S1 F1 H1 w3 g s lg L rv1 us1 k x) (by kernel_rfl) (by kernel_rfl) Q3.out ?_ ?_
      · refine ⟨?_, ?_, ?_, ?_, ?_, ?_, ?_, ?_, ?_, ?_, ?_, ?_, trivial⟩
        · refine RU.ObT.pure rfl rfl rfl (fun a V hf hp ev he hc W => ?_)
          have q0 : ev (.tmp 0) = .pointer (some ⟨lg, 0, none⟩) := (he (.tmp 0)).trans (hf 0 rfl)
          simp only [List.getElem_toArray, List.getElem_cons_succ, List.getElem_cons_zero, execOp, Option.map_some, Option.map_none]; rw [q0]
          first | (go_simp; done) | (go_simp; rfl)
        · refine RU.ObT.pure rfl rfl rfl (fun a V hf hp ev he hc W => ?_)
          have q2 : ev (.tmp 2) = .int .i64 (k : Int) := (he (.tmp 2)).trans (hf 2 rfl)
          simp only [List.getElem_toArray, List.getElem_cons_succ, List.getElem_cons_zero, execOp, Option.map_some, Option.map_none]; rw [q2]
          first | (go_simp; done) | (go_simp; rfl)
        · refine RU.ObT.pure rfl rfl rfl (fun a V hf hp ev he hc W => ?_)
          have q0 : ev (.tmp 0) = .pointer (some ⟨lg, 0, none⟩) := (he (.tmp 0)).trans (hf 0 rfl)
          simp only [List.getElem_toArray, List.getElem_cons_succ, List.getElem_cons_zero, execOp, Option.map_some, Option.map_none]; rw [q0]
          first | (go_simp; done) | (go_simp; rfl)
        · refine RU.ObT.pure rfl rfl rfl (fun a V hf hp ev he hc W => ?_)
          have q29 : ev (.tmp 29) = .pointer (some ⟨lg, 0, none⟩) := (he (.tmp 29)).trans (hp 2 29 rfl)
          simp only [List.getElem_toArray, List.getElem_cons_succ, List.getElem_cons_zero, execOp, Option.map_some, Option.map_none]; rw [q29]
          first | (go_simp; done) | (go_simp; rfl)
        · refine RU.ObT.pure rfl rfl rfl (fun a V hf hp ev he hc W => ?_)
          have q30 : ev (.tmp 30) = .pointer (some ⟨lg, 0, none⟩) := (he (.tmp 30)).trans (hp 3 30 rfl)
          simp only [List.getElem_toArray, List.getElem_cons_succ, List.getElem_cons_zero, execOp, Option.map_some, Option.map_none]; rw [q30]
          first | (go_simp; done) | (go_simp; rfl)
        · refine RU.ObT.silent rfl (fun a W k0 V hO hf hp hk => ?_)
          obtain rfl : k0 = 0 := Nat.le_zero.1 hk
          refine RU.ob_val rfl (RU.wanted_none rfl) (fun ev he hc => ?_) ⟨rfl, hO⟩
          have q31 : ev (.tmp 31) = .pointer (some ⟨lg, 0, none⟩) := (he (.tmp 31)).trans (hp 4 31 rfl)
          have hcell := (hO.1.lw.lb.cells hO.1.lw.f0 hO.1.lw.f1).1
          rw [hO.1.dk] at hcell
          simp only [List.getElem_toArray, List.getElem_cons_succ, List.getElem_cons_zero, execOp]; rw [q31]
          first | (go_simp; done) | (go_simp; rfl)
        · refine RU.ObT.pure rfl rfl rfl (fun a V hf hp ev he hc W => ?_)
          have q3 : ev (.tmp 3) = .int .i64 (A : Int) := (he (.tmp 3)).trans (hf 3 rfl)
          simp only [List.getElem_toArray, List.getElem_cons_succ, List.getElem_cons_zero, execOp, Option.map_some, Option.map_none]; rw [q3]
          first | (go_simp; done) | (go_simp; rfl)
        · refine RU.ObT.silent rfl (fun a W k0 V hO hf hp hk => ?_)
          obtain rfl : k0 = 0 := Nat.le_zero.1 hk
          have e1 : a.eval (.tmp 32) = .pointer (some ⟨g, 0, none⟩) := hp 5 32 rfl
          have e2 : a.eval (.tmp 33) = .int .i64 (A : Int) := hp 6 33 rfl
          refine RU.ob_call (g := 36) (args := #[.pointer (some ⟨g, 0, none⟩), .int .i64 (A : Int)]) rfl (RU.wanted_none rfl) (fun ev he hc => ?_) ((wread_any hO.1.pd (A : Int)).mono ?_)
          · have h1 := (he (.tmp 32)).trans e1
            have h2 := (he (.tmp 33)).trans e2
            have hfn := he (.func 36)
            simp only [List.getElem_toArray, List.getElem_cons_succ, List.getElem_cons_zero, execOp]
            simp only [resolve, invoke, Sem.run_bind, Sem.run_pure, Result.andThen_ok, List.map_toArray, List.map_cons, List.map_nil, h1, h2, hfn, Act.eval]
            rfl
          · rintro e' W2 ⟨rfl, hb2⟩
            exact ⟨_, rfl, by rw [← HXX.out]; rfl, hO.1.below hb2, hO.2.trans (chg_of_below hb2)⟩
        · refine RU.ObT.pure rfl rfl rfl (fun a V hf hp ev he hc W => ?_)
          have q27 : ev (.tmp 27) = .pointer (some ⟨lg, 0, none⟩) := (he (.tmp 27)).trans (hp 0 27 rfl)
          simp only [List.getElem_toArray, List.getElem_cons_succ, List.getElem_cons_zero, execOp, Option.map_some, Option.map_none]; rw [q27]
          first | (go_simp; done) | (go_simp; rfl)
        · refine RU.ObT.pure rfl rfl rfl (fun a V hf hp ev he hc W => ?_)
          have q35 : ev (.tmp 35) = .pointer (some ⟨lg, 0, none⟩) := (he (.tmp 35)).trans (hp 8 35 rfl)
          simp only [List.getElem_toArray, List.getElem_cons_succ, List.getElem_cons_zero, execOp, Option.map_some, Option.map_none]; rw [q35]
          first | (go_simp; done) | (go_simp; rfl)
        · refine RU.ObT.pure rfl rfl rfl (fun a V hf hp ev he hc W => ?_)
          have q36 : ev (.tmp 36) = .pointer (some ⟨lg, 2, none⟩) := (he (.tmp 36)).trans (hp 9 36 rfl)
          have q28 : ev (.tmp 28) = .int .i64 (k : Int) := (he (.tmp 28)).trans (hp 1 28 rfl)
          simp only [List.getElem_toArray, List.getElem_cons_succ, List.getElem_cons_zero, execOp, Option.map_some, Option.map_none]; rw [q36, q28]
          first | (go_simp; done) | (go_simp; rfl)
        · refine RU.ObT.loud (j := 0) rfl (fun a W V hO hf hp => ?_)
          have q68 : a.eval (.tmp 37) = .pointer (some ⟨lg, 2 + k * 64, none⟩) := hp 10 37 rfl
          have q65 : a.eval (.tmp 34) = .agg (bv x).toArray := hp 7 34 rfl
          have hse := hO.1.setF k hlt HXL.out
          refine RU.ob_op rfl (RU.wanted_none rfl) (wp_store_mid 60 (.tmp 37) (.tmp 34) rfl lg (2 + k * 64) (bv x).toArray q68 q65 (there_sec HXL.out (there_of_row' hO.1.lw.lb (2 + k * 64) 64 (by rw [List.size_toArray, lc_length hO.1.lw.f0 hO.1.lw.f1]; omega))) (sct_size HXL.out) (bv_one' _) ⟨_, rfl, hse.1, hO.2.trans hse.2⟩)
      · intro w6 V6 hO6
        have X6 : Hid (WX S1 F1 H1 w6 g s lg (setF L k x) rv1 us1) := hO6.1
        have C6 : Hid (Chg S1 w3 w6) := hO6.2
        simp only [RU.lay, RU.val, RU.at', mf, Act.put]
        simp only [List.setIfInBounds_toArray, List.set_cons_succ, List.set_cons_zero]
        clear hO6 Q3
        obtain ⟨M, hM⟩ : ∃ M, setF L k x = M := ⟨_, rfl⟩
        rw [hM] at X6 HLK
        have HMO : Hid (Lok M) := by
          show Lok M
          obtain ⟨a1, a2, a3⟩ := HLOK.out
          obtain ⟨b1, b2, b3, b4, b5⟩ := setF_same L k x
          rw [← hM]
          exact ⟨by rw [b3]; exact a1, by rw [b4]; exact a2, by rw [b1]; exact a3⟩
        clear hM
        obtain ⟨c0, c1, c130, c131, c132⟩ := X6.out.lw.lb.cells X6.out.lw.f0 X6.out.lw.f1
        rw [X6.out.dk] at c0
        cases hqk : q k with
        | none =>
          have hqn := HQ.out.no k hlt hqk
          rw [HAT.out.1, HAT.out.2] at hqn
          have HLK' : Hid (ldk g s q (k + 1) = M) := by rw [HLK.out, hqk]; rfl
          clear hqk HLK c1 c130 c131 c132
          rcases hqn with hqn | hqn
          · have HQK : Hid (tk s A T = none) := hqn
            clear hqn
            go_wp2_with (first
              | (go_at_call 43; refine (takeFrame_any X6.out.pd X6.out.by' X6.out.tb A T (by omega) (by omega)).mono ?_; rintro e w7 ⟨v7, rfl, h7, h8⟩; rw [HQK.out] at h7 ⊢; have h7' : v7 = .slice none 0 0 := h7; subst h7'; simp only [Option.isSome_none]; have B7 : Hid (Below w6.heap.size w6 w7) := h8; clear h7 h8)
              | (go_at_call 40; refine (split_no w7).mono ?_; rintro e w8 ⟨rfl, rfl⟩))
            go_roundw
            case rel => exact ⟨k + 1, by omega, by go_num, by rw [HLK'.out]; exact HMO.out, AftL.trans C2.out D2.out ⟨S1, ⟨F1, H1, rv1, us1, by rw [HLK'.out]; exact X6.out.below B7.out⟩, C6.out.trans (chg_of_below B7.out), fun b hb => .inl hb⟩⟩
            case measure => simp [intOf]; omega
          · have HQK : Hid (tk s A T = some []) := hqn
            clear hqn
            go_wp2_with fail
            refine (takeFrame_any X6.out.pd X6.out.by' X6.out.tb A T (by omega) (by omega)).mono ?_
            rintro e w7 ⟨v7, rfl, h7, h8⟩
            rw [HQK.out] at h7 ⊢
            have O7 : Hid (Ow w6.heap.size w7 v7 []) := h7
            have B7 : Hid (Below w6.heap.size w6 w7) := h8
            simp only [Option.isSome_some]
            clear h7 h8
            obtain ⟨ad7, cp7, hv7, -, -⟩ := O7.out.sl
            subst hv7
            go_wp2_with fail
            refine (split_short [] ad7 cp7 w7 O7.out.sl (by decide)).mono ?_
            rintro e w8 ⟨rfl, rfl⟩
            go_wp2_with fail
            go_roundw
            case rel => exact ⟨k + 1, by omega, by go_num, by rw [HLK'.out]; exact HMO.out, AftL.trans C2.out D2.out ⟨S1, ⟨F1, H1, rv1, us1, by rw [HLK'.out]; exact X6.out.below B7.out⟩, C6.out.trans (chg_of_below B7.out), fun b hb => .inl hb⟩⟩
            case measure => simp [intOf]; omega
        | some qq =>
          obtain ⟨Tn, xs⟩ := qq
          obtain ⟨htk, hpar, hpos, hlt64, hrok⟩ := HQ.out.yes k Tn xs hlt hqk
          rw [HAT.out.1, HAT.out.2] at htk
          have HROK : Hid (Rok xs) := hrok
          obtain ⟨P, hP⟩ : ∃ P, JN (Tn : Int) xs = P := ⟨_, rfl⟩
          have HP : Hid (JN (Tn : Int) xs = P) := hP
          have hPl : P.length = JS xs := by rw [← hP]; exact jn_length _ xs _
          have HPL : Hid (P.length = JS xs) := hPl
          rw [hP] at htk
          have HTK : Hid (tk s A T = some P) := htk
          have hfit := tk_fits X6.out.by' htk
          have hPb : P.length ≤ 4194304 ∧ A + fl P.length ≤ 65536 := by
            have h1 := hfit.2.1
            refine ⟨?_, by omega⟩
            unfold fl at h1; omega
          have hxl : xs.length ≤ 600000 := by have := js_many xs; omega
          have hP8 : 8 ≤ P.length := by have := js_many xs; omega
          have HLK' : Hid (ldk g s q (k + 1) = if M.t < Tn then { M with t := Tn, rs := xs, en := A + fl P.length } else M) := by rw [HLK.out, hqk, ← HP.out]; rfl
          clear hqk HLK hP hPl htk hfit hrok
          go_wp2_with fail
          refine (takeFrame_any X6.out.pd X6.out.by' X6.out.tb A T (by omega) (by omega)).mono ?_
          rintro e w7 ⟨v7, rfl, h7, h8⟩
          rw [HTK.out] at h7 ⊢
          have O7 : Hid (Ow w6.heap.size w7 v7 P) := h7
          have B7 : Hid (Below w6.heap.size w6 w7) := h8
          simp only [Option.isSome_some]
          clear h7 h8
          obtain ⟨b4, o4, c4, hv4, hc4, hb4⟩ := O7.out.sl.lies (by omega)
          subst hv4
          have HSP : Hid (Sl w7 (.slice (some ⟨b4, o4, none⟩) P.length c4) P ∧ P.length ≤ c4 ∧ b4 < w7.heap.size) := ⟨O7.out.sl, hc4, hb4⟩
          clear hc4 hb4
          go_wp2_with fail
          have hsp := split_any (Tn : Int) (by omega) (by omega) xs b4 o4 c4 w7
          rw [HP.out] at hsp
          refine (hsp HSP.out.1 HROK.out HSP.out.2.1 HSP.out.2.2 (by omega) (by omega)).mono ?_
          clear hsp
          rintro e w8 ⟨v8, us8, rfl, h7, h8⟩
          have O8 : Hid (OL w7.heap.size w8 v8 us8 xs) := h7
          have B8 : Hid (Below w6.heap.size w6 w8) := B7.out.trans (h8.mono B7.out.size)
          have B87 : Hid (w6.heap.size ≤ w7.heap.size) := B7.out.size
          have X8 : Hid (WX S1 F1 H1 w8 g s lg M rv1 us1) := X6.out.below B8.out
          obtain ⟨ad6, n6, cp6, hv6⟩ := h7.shape
          subst hv6
          clear h7 h8 c0 c1 c130 c131 c132
          obtain ⟨c0, c1, c130, c131, c132⟩ := X8.out.lw.lb.cells X8.out.lw.f0 X8.out.lw.f1
          obtain ⟨mt, hmt⟩ : ∃ mt, M.t = mt := ⟨_, rfl⟩
          have HMT : Hid (M.t = mt) := hmt
          rw [hmt] at c1
          clear hmt
          have hm2 : (Tn : Int) % 2 = (k : Int) := by omega
          by_cases hgt : mt < Tn
          · have hg1 : (mt : Int) < (Tn : Int) := by omega
            have f1 := X8.out.lw.lb.froz 1
            have f130 := X8.out.lw.lb.froz 130
            have f131 := X8.out.lw.lb.froz 131
            go_wp2_with fail
            refine (frameLength_any P.length w8 (by omega)).mono ?_
            rintro e w9 ⟨rfl, rfl⟩
            obtain ⟨f, hf⟩ : ∃ f, fl P.length = f := ⟨_, rfl⟩
            have HFL : Hid (fl P.length = f) := hf
            have hfb : A + f ≤ 65536 := by rw [← hf]; exact hPb.2
            rw [hf]
            clear hf
            go_wp2_with fail
            have hset := X8.out.set (X8.out.lw.lb.setT Tn) X8.out.lw.f0 X8.out.lw.f1 rfl rfl
            have hz8 : w6.heap.size ≤ w9.heap.size := B8.out.size
            have hlg5 : lg < w6.heap.size := X6.out.lw.lb.lt
            have ol7 : OL w7.heap.size (w9.setCell ⟨lg, 1, none⟩ (.int .u64 (Tn : Int))) (.slice ad6 n6 cp6) us8 xs := O8.out.keep (by simp [World.setCell]) (fun b e => Below.heap_setCell _ _ _ _ (fun x => by have x' : b = lg := x; have := (O8.out.blk b e).1; have := B87.out; omega)) (fun i u hu b e => Below.heap_setCell _ _ _ _ (fun x => by have x' : b = lg := x; have := (O8.out.mem i u hu).blk b e; have := B87.out; omega))
            obtain ⟨S7, H7, hx7, hc7, hd7⟩ := hset.1.fresh ol7 (fun b hb => Nat.lt_of_lt_of_le (hb.elim (fun x => X6.out.lw.hlt b x) (fun x => X6.out.pd.lt x)) B87.out) ⟨Nat.lt_of_lt_of_le X6.out.tb.lt.1 B87.out, Nat.lt_of_lt_of_le X6.out.tb.lt.2 B87.out⟩
            have hsE := hx7.setE (A + f)
            have hEQ : ldk g s q (k + 1) = { M with t := Tn, rs := xs, en := A + f } := by rw [HLK'.out, if_pos (by rw [HMT.out]; exact hgt), HFL.out]
            refine ⟨⟨k + 1, by omega, by go_num, ?_, ?_⟩, by simp [intOf]; omega⟩
            · rw [hEQ]
              exact ⟨by show Tn < _; omega, by show A + f ≤ _; omega, by show xs.length ≤ _; omega⟩
            · rw [hEQ]
              refine AftL.trans C2.out D2.out (AftL.trans ((C6.out.trans (chg_of_below B8.out)).trans (hset.2.trans hc7)) (fun b hb => (hd7 b hb).imp id (fun y => Nat.le_trans C6.out.size (Nat.le_trans B87.out y))) ⟨S7, ⟨F1, H7, _, us8, hsE.1⟩, hsE.2, fun b hb => .inl hb⟩)
          · have hg1 : ¬ (mt : Int) < (Tn : Int) := by omega
            go_wp2_with fail
            go_roundw
            case rel => exact ⟨k + 1, by omega, by go_num, by rw [HLK'.out, if_neg (by rw [HMT.out]; exact hgt)]; exact HMO.out, AftL.trans C2.out D2.out ⟨S1, ⟨F1, H1, rv1, us1, by rw [HLK'.out, if_neg (by rw [HMT.out]; exact hgt)]; exact X8.out⟩, C6.out.trans (chg_of_below B8.out), fun b hb => .inl hb⟩⟩
            case measure => simp [intOf]; omega
    · obtain rfl : k = 2 := by omega
      go_wp2_with fail
      by_cases h0 : (ldk g s q 2).t = 0
      · refine (follow_zero ⟨F1, H1, rv1, us1, X2.out⟩ h0).mono ?_
        rintro e w2 ⟨rfl, rfl⟩
        go_wp2_with fail
        go_end0
        exact ⟨rfl, _, .inl ⟨h0, rfl⟩, S1, ⟨F1, H1, rv1, us1, X2.out⟩, C2.out, D2.out⟩
      · refine (follow_any ⟨F1, H1, rv1, us1, X2.out⟩ h0 HLOK.out.1 HLOK.out.2.1 (by have := HLOK.out.2.2; omega)).mono ?_
        rintro e w2 ⟨rfl, ns, e', hf, hn, ha⟩
        have HA : Hid (∃ L', LdR s (ldk g s q 2) L' ∧ AftL S1 wr w2 g s lg L') := ⟨_, .inr ⟨h0, ns, e', hf, hn, rfl⟩, ha⟩
        clear hf hn ha
        go_wp2_with fail
        go_end0
        obtain ⟨L', h1, h2⟩ := HA.out
        exact ⟨rfl, L', h1, AftL.trans C2.out D2.out h2⟩
end Go.Proofs.YthfpakjfdncphaaDoor
