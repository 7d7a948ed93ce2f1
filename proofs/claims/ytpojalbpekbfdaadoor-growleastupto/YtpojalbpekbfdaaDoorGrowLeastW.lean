/- The walk of GrowLeast. -/
import Derived.Test.YtpojalbpekbfdaaDoorGrnL
namespace Go.Proofs.YtpojalbpekbfdaaDoor
open Go Go.RowKit
set_option linter.unusedSimpArgs false
set_option linter.unusedVariables false
set_option maxRecDepth 100000

theorem sty_min {X Y : List Lf} (hk : ∀ x ∈ X ++ Y, x.Ok) (ho : okl (X ++ Y)) (hY : Y = []) : (sty X Y).length = min X.length 1 := by
  obtain ⟨o1, o2, -⟩ := okl_left hk ho
  subst hY
  unfold sty
  rw [so_nil]
  by_cases h : X = []
  · rw [h, so_nil, st_nil]; rfl
  · have : so X ≠ [] := fun e => h (List.length_eq_zero_iff.1 (by rw [← so_len o1, e]; rfl))
    have hp := List.length_pos_iff.2 h
    rw [st_one _ _ this]
    simp; omega
theorem cnt_succ {S : List Nd} {p : Nd → Bool} {i : Nat} {x : Nd} (hx : S[i]? = some x) : ((S.take (i + 1)).filter p).length = ((S.take i).filter p).length + (if p x = true then 1 else 0) := by
  rw [List.take_add_one, hx]
  simp only [Option.toList, List.filter_append, List.length_append]
  by_cases h : p x = true
  · simp [h]
  · simp [h]
def gl13f (bS oS nS cS bY oY nY cY i k : Nat) (x : Nd) (pz : List Int) (g : Bool) : Nat → Value
  | 0 => .slice (some ⟨bS, oS, none⟩) nS cS
  | 1 => .int .i64 (i : Int)
  | 2 => .pointer (some ⟨bS, oS + i * 65, none⟩)
  | 3 => .agg (nc x).toArray
  | 4 => .slice (some ⟨bY, oY, none⟩) nY cY
  | 5 => .int .i64 (k : Int)
  | 6 => .pointer (some ⟨bY, oY + k * 64, none⟩)
  | 7 => .pointer (some ⟨bY, oY + k * 64, none⟩)
  | 8 => .agg (bv pz).toArray
  | 9 => .bool g
  | _ => undef
def gl24f (bS oS nS cS bX oX nX cX i k : Nat) (x : Nd) (pz : List Int) (g : Bool) : Nat → Value
  | 0 => .slice (some ⟨bS, oS, none⟩) nS cS
  | 1 => .int .i64 (i : Int)
  | 2 => .pointer (some ⟨bS, oS + i * 65, none⟩)
  | 3 => .agg (nc x).toArray
  | 4 => .slice (some ⟨bX, oX, none⟩) nX cX
  | 5 => .int .i64 (k : Int)
  | 6 => .pointer (some ⟨bX, oX + k * 64, none⟩)
  | 7 => .pointer (some ⟨bX, oX + k * 64, none⟩)
  | 8 => .agg (bv pz).toArray
  | 9 => .bool g
  | _ => undef
set_option maxHeartbeats 16000000 in
theorem growLeast_any (ls ms : List Lf) (hk1 : ∀ x ∈ ls, x.Ok) (hk2 : ∀ x ∈ ms, x.Ok) (hlen : ls.length + ms.length ≤ 1200000000000) (v u : Value) (w : World) (hv : LS w v ls) (hu : LS w u ms) (hT : Tb w) :
    Calls Tryd.prog 6 #[v, u] w fun e w' => e = .returned (.bool true) ∧ Below w.heap.size w w' := by
  obtain ⟨hk, ho⟩ := apartL_ok hk1 hk2
  obtain ⟨l1, l2⟩ := apartL_len ls ms
  have HAW : Hid (Calls Tryd.prog 8 #[] w fun e w' => e = .returned (.bool true) ∧ Below w.heap.size w w') := awake_any w hT
  have HAP : Hid (∀ W : World, Below w.heap.size w W → Calls Tryd.prog 18 #[v, u] W fun e w' => ∃ v1 v2, e = .returned (.tuple #[v1, v2]) ∧ LS w' v1 (dst ls) ∧ LS w' v2 (apd (dst ls) ms) ∧ Below W.heap.size W w') := fun W q => apartL_any ls ms hk1 hk2 (by omega) v u W (hv.below q) (hu.below q)
  obtain ⟨X, hX⟩ : ∃ X, dst ls = X := ⟨_, rfl⟩
  rw [hX] at hk ho l1 l2 HAP
  obtain ⟨Y, hY⟩ : ∃ Y, apd X ms = Y := ⟨_, rfl⟩
  rw [hY] at hk ho l2 HAP
  have hx1 : ∀ x ∈ X, x.Ok := fun x hx => hk x (List.mem_append_left _ hx)
  have hx2 : ∀ x ∈ Y, x.Ok := fun x hx => hk x (List.mem_append_right _ hx)
  obtain ⟨o1, o2, -⟩ := okl_left hk ho
  obtain ⟨-, hap, hcu, hno⟩ := ck_honest hk ho
  obtain ⟨f1, f2⟩ := sty_fit hk ho
  have hcnt : ∀ x ∈ X, ((sty X Y).filter (fun n => hl n x.p)).length = 1 := fun x hx => by
    have hm : ln x ∈ so X := (so_spec o1).1.mem_iff.2 (List.mem_map.2 ⟨x, hx, rfl⟩)
    exact cu_count (hcu (fun e => by rw [e] at hm; cases hm)) (so_apn hx1 o1) (ln x) hm
  have hmin := fun h => sty_min hk ho h
  have HST : Hid (∀ (v u : Value) (W : World), LS W v X → LS W u Y → Below w.heap.size w W → Calls Tryd.prog 10 #[v, u] W fun e w' => ∃ v', e = .returned (.tuple #[v', .int .i64 0]) ∧ NS w' v' (sty X Y) ∧ Below W.heap.size W w') := fun v u W q1 q2 q3 => by
    refine (Stays_any X Y hk (by omega) v u W q1 q2 (hT.below q3)).mono fun e w' ⟨v', er, r1, r2, r3⟩ => ?_
    rcases r2 with ⟨_, rfl, q⟩ | ⟨q, _⟩
    · exact ⟨v', r1, q.ns, r3⟩
    · exact absurd ho q
  obtain ⟨S, hS⟩ : ∃ S, sty X Y = S := ⟨_, rfl⟩
  rw [hS] at HST f1 f2 hap hno hcnt hmin
  have HRA : Hid (∀ (v : Value) (W : World), NS W v S → Calls Tryd.prog 20 #[v] W fun e w' => e = .returned (.bool true) ∧ Below W.heap.size W w') := fun v W q => by have := rApart_any S f1 v W q (by omega); rw [hap] at this; exact this
  have HCX : Hid (∀ (v : Value) (W : World), LS W v X → Calls Tryd.prog 11 #[v] W fun e w' => ∃ v', e = .returned v' ∧ LO W.heap.size w' v' X ∧ Below W.heap.size W w') := fun v W q => copyLeaves_own X hx1 (by omega) v W q
  have HCY : Hid (∀ (v : Value) (W : World), LS W v Y → Calls Tryd.prog 11 #[v] W fun e w' => ∃ v', e = .returned v' ∧ LO W.heap.size w' v' Y ∧ Below W.heap.size W w') := fun v W q => copyLeaves_own Y hx2 (by omega) v W q
  have HSK : Hid (∀ x ∈ S, x.Ok) := f1
  have HXK : Hid (∀ x ∈ X, x.Ok) := hx1
  have HYK : Hid (∀ x ∈ Y, x.Ok) := hx2
  have HNO : Hid (∀ n ∈ S, ∀ z ∈ Y, hl n z.p = false) := hno
  have HCN : Hid (∀ x ∈ X, (S.filter (fun n => hl n x.p)).length = 1) := hcnt
  obtain ⟨nX, hnX⟩ : ∃ n, X.length = n := ⟨_, rfl⟩
  obtain ⟨nY, hnY⟩ : ∃ n, Y.length = n := ⟨_, rfl⟩
  obtain ⟨nS, hnS⟩ : ∃ n, S.length = n := ⟨_, rfl⟩
  have HNX : Hid (X.length = nX) := hnX
  have HNY : Hid (Y.length = nY) := hnY
  have HNS : Hid (S.length = nS) := hnS
  have HMIN : Hid (nY = 0 → nS = min nX 1) := fun h => by rw [← hnS, ← hnX]; exact hmin (List.length_eq_zero_iff.1 (hnY.trans h))
  have hsx : nS ≤ nX := by rw [← hnS, ← hnX]; exact f2
  have hx9 : nX ≤ 1200000000000 := by rw [← hnX]; omega
  have hy9 : nY ≤ 1200000000000 := by rw [← hnY]; omega
  clear hk1 hk2 hlen hv hu hT hk ho l1 l2 hX hY hx1 hx2 o1 o2 hap hcu hno f1 f2 hS hcnt hmin hnX hnY hnS
  go_enter Tryd.func6, Tryd.ntmps6
  go_wp2_with fail
  refine HAW.out.mono ?_
  rintro e w1 ⟨rfl, g1⟩
  have C1 : Hid (Below w.heap.size w w1) := g1
  clear g1
  go_wp2_with fail
  refine (HAP.out w1 C1.out).mono ?_
  rintro e w2 ⟨va, vb, rfl, g1, g2, g3⟩
  have NA : Hid (LS w2 va X) := g1
  have NB : Hid (LS w2 vb Y) := g2
  have C2 : Hid (Below w.heap.size w w2) := Below.tr' C1.out g3
  obtain ⟨aX, cX, eX, -, xX⟩ := id g1
  obtain ⟨aY, cY, eY, -, xY⟩ := id g2
  rw [HNX.out] at eX
  rw [HNY.out] at eY
  subst eX
  subst eY
  have XX : Hid ((X = [] ∧ (aX = none → cX = 0)) ∨ ∃ b o, aX = some ⟨b, o, none⟩ ∧ b < w2.heap.size ∧ ∀ (i : Nat) (x : Lf), X[i]? = some x → w2.rangeAt b (o + i * 64) (lfc x)) := xX
  have XY : Hid ((Y = [] ∧ (aY = none → cY = 0)) ∨ ∃ b o, aY = some ⟨b, o, none⟩ ∧ b < w2.heap.size ∧ ∀ (i : Nat) (x : Lf), Y[i]? = some x → w2.rangeAt b (o + i * 64) (lfc x)) := xY
  clear g1 g2 g3 xX xY
  go_wp2_with fail
  refine (HCX.out _ w2 NA.out).mono ?_
  rintro e w3 ⟨v3, rfl, g1, g2⟩
  have O3 : Hid (LS w3 v3 X) := g1.ls
  have G3 : Hid (Below w2.heap.size w2 w3) := g2
  clear g1 g2
  go_wp2_with fail
  refine (HCY.out _ w3 (NB.out.below G3.out)).mono ?_
  rintro e w4 ⟨v4, rfl, g1, g2⟩
  have O4 : Hid (LS w4 v4 Y) := g1.ls
  have O34 : Hid (LS w4 v3 X) := O3.out.below g2
  have G4 : Hid (Below w2.heap.size w2 w4) := Below.tr' G3.out g2
  clear g1 g2
  go_wp2_with fail
  refine (HST.out v3 v4 w4 O34.out O4.out (Below.tr' C2.out G4.out)).mono ?_
  rintro e w5 ⟨v5, rfl, g1, g2⟩
  have N5 : Hid (NS w5 v5 S) := g1
  obtain ⟨aS, cS, eS, -, xS⟩ := id g1
  rw [HNS.out] at eS
  subst eS
  have XS : Hid ((S = [] ∧ (aS = none → cS = 0)) ∨ ∃ b o, aS = some ⟨b, o, none⟩ ∧ b < w5.heap.size ∧ ∀ (i : Nat) (x : Nd), S[i]? = some x → w5.rangeAt b (o + i * 65) (nc x)) := xS
  have G5 : Hid (Below w2.heap.size w2 w5) := Below.tr' G4.out g2
  clear g1 g2 xS
  go_wp2_with (go_at_call 20; refine (HRA.out _ w5 N5.out).mono ?_; rintro e w6 ⟨rfl, g1⟩; have G56 : Hid (Below w5.heap.size w5 w6) := g1; have G6 : Hid (Below w2.heap.size w2 w6) := Below.tr' G5.out g1; clear g1)
  go_loopw [46] (fun iv wr => ∃ i : Nat, i ≤ nS ∧ iv = .int .i64 (i : Int) ∧ Below w6.heap.size w6 wr) (fun iv _ => nS - (intOf iv).toNat)
  case atStart => exact ⟨0, Nat.zero_le _, rfl, Below.refl _ _⟩
  case round =>
    obtain ⟨i, hin, rfl, h4⟩ := hrel
    have H4 : Hid (Below w6.heap.size w6 wr) := h4
    clear h4
    by_cases hlt : i < nS
    · have HLT : Hid (i < nS) := hlt
      obtain ⟨x, hx⟩ : ∃ x, S[i]? = some x := ⟨S[i]'(by rw [HNS.out]; exact hlt), List.getElem?_eq_getElem _⟩
      have HXO : Hid x.Ok := HSK.out x (List.mem_of_getElem? hx)
      have HXM : Hid (x ∈ S) := List.mem_of_getElem? hx
      rcases XS.out with ⟨h0, _⟩ | ⟨bS, oS, rfl, hlb, hm⟩
      · rw [h0] at hx; simp at hx
      · have RX0 : Hid (w6.rangeAt bS (oS + i * 65) (nc x)) := range_below (hm i x hx) G56.out hlb
        have LX0 : Hid (bS < w6.heap.size) := Nat.lt_of_lt_of_le hlb G56.out.size
        obtain ⟨W0, hW0⟩ : ∃ W, wr = W := ⟨_, rfl⟩
        rw [hW0] at H4
        clear hm hlb hx
        go_wp2_with fail
        try rw [hW0]
        clear hW0
        go_loopw [51] (fun kv wx => ∃ k : Nat, k ≤ nY ∧ kv = .int .i64 (k : Int) ∧ Below w6.heap.size w6 wx) (fun kv _ => nY - (intOf kv).toNat)
        case atStart => exact ⟨0, Nat.zero_le _, rfl, H4.out⟩
        case round =>
          obtain ⟨k, hkn, rfl, h5⟩ := hrel
          have H5 : Hid (Below w6.heap.size w6 wr) := h5
          clear h5
          by_cases hlt2 : k < nY
          · have HLT2 : Hid (k < nY) := hlt2
            obtain ⟨z, hz⟩ : ∃ z, Y[k]? = some z := ⟨Y[k]'(by rw [HNY.out]; exact hlt2), List.getElem?_eq_getElem _⟩
            rcases XY.out with ⟨h0, _⟩ | ⟨bY, oY, rfl, hlb, hm⟩
            · rw [h0] at hz; simp at hz
            · have RX : Hid (wr.rangeAt bS (oS + i * 65) (nc x)) := range_below RX0.out H5.out LX0.out
              have LX : Hid (bS < wr.heap.size) := Nat.lt_of_lt_of_le LX0.out H5.out.size
              obtain ⟨pz, hpz⟩ : ∃ p, z.p = p := ⟨_, rfl⟩
              have HPZ : Hid (L32 pz) := by rw [← hpz]; exact (HYK.out z (List.mem_of_getElem? hz)).p
              have RZ : Hid (wr.rangeAt bY (oY + k * 64) (bv pz)) := by rw [← hpz]; exact lf_p (range_below (hm k z hz) (Below.tr' G6.out H5.out) hlb)
              have LZ : Hid (bY < wr.heap.size) := Nat.lt_of_lt_of_le hlb (Below.tr' G6.out H5.out).size
              have HHO : Hid (∀ W : World, Calls Tryd.prog 21 #[.agg (nc x).toArray, .agg (bv pz).toArray] W fun e w' => e = .returned (.bool false) ∧ Below W.heap.size W w') := fun W => by
                have := rHolds_any x HXO.out pz HPZ.out W
                rw [← hpz, HNO.out x HXM.out z (List.mem_of_getElem? hz)] at this
                rw [← hpz]; exact this
              clear hm hlb hz hpz
              go_upto_region 13 with (fail)
              refine RU.wp_rgn' [] (gl13f bS oS nS cS bY oY nY cY i k x pz false) (fun _ => 0) (gΩ wr) (by kernel_rfl) (by kernel_rfl) (show Below wr.heap.size wr _ from (Below.refl _ _).drew) ?_ ?_
              · refine ⟨?_, ?_, ?_, ?_, ?_, ?_, ?_, ?_, ?_, ?_, trivial⟩
                · refine RU.ObT.pure rfl rfl rfl (fun a V hf hp ev he hc W => ?_)
                  have q7 : ev (.tmp 7) = .slice (some ⟨bS, oS, none⟩) nS cS := (he (.tmp 7)).trans (hf 7 rfl)
                  simp only [List.getElem_toArray, List.getElem_cons_succ, List.getElem_cons_zero, execOp, Option.map_some, Option.map_none]; rw [q7]
                  first | (go_simp; done) | (go_simp; rfl) | rfl
                · refine RU.ObT.pure rfl rfl rfl (fun a V hf hp ev he hc W => ?_)
                  have q9 : ev (.tmp 9) = .int .i64 (i : Int) := (he (.tmp 9)).trans (hf 9 rfl)
                  simp only [List.getElem_toArray, List.getElem_cons_succ, List.getElem_cons_zero, execOp, Option.map_some, Option.map_none]; rw [q9]
                  first | (go_simp; done) | (go_simp; rfl) | rfl
                · refine RU.ObT.pure rfl rfl rfl (fun a V hf hp ev he hc W => ?_)
                  have q54 : ev (.tmp 54) = .slice (some ⟨bS, oS, none⟩) nS cS := (he (.tmp 54)).trans (hp 0 54 rfl)
                  have q55 : ev (.tmp 55) = .int .i64 (i : Int) := (he (.tmp 55)).trans (hp 1 55 rfl)
                  simp only [List.getElem_toArray, List.getElem_cons_succ, List.getElem_cons_zero, execOp, Option.map_some, Option.map_none]; rw [q54, q55]
                  have hk8 : (i : Int) < (nS : Int) := by omega
                  first | (go_simp; done) | (go_simp; rfl) | rfl
                · refine RU.ObT.silent rfl (fun a W k0 V hO hf hp hk => ?_)
                  have hO' : Below wr.heap.size wr W := hO
                  have q56 : a.eval (.tmp 56) = .pointer (some ⟨bS, oS + i * 65, none⟩) := hp 2 56 rfl
                  exact RU.ob_op rfl (RU.wanted_none rfl) (wp_load_mid 44 (.tmp 56) rfl (bS) (oS + i * 65) q56 (nc x) _ (range_below RX.out hO' LX.out) Tryd.underlying44 rfl (size_nc HXO.out) ⟨rfl, hO⟩)
                · refine RU.ObT.pure rfl rfl rfl (fun a V hf hp ev he hc W => ?_)
                  have q6 : ev (.tmp 6) = .slice (some ⟨bY, oY, none⟩) nY cY := (he (.tmp 6)).trans (hf 6 rfl)
                  simp only [List.getElem_toArray, List.getElem_cons_succ, List.getElem_cons_zero, execOp, Option.map_some, Option.map_none]; rw [q6]
                  first | (go_simp; done) | (go_simp; rfl) | rfl
                · refine RU.ObT.pure rfl rfl rfl (fun a V hf hp ev he hc W => ?_)
                  have q10 : ev (.tmp 10) = .int .i64 (k : Int) := (he (.tmp 10)).trans (hf 10 rfl)
                  simp only [List.getElem_toArray, List.getElem_cons_succ, List.getElem_cons_zero, execOp, Option.map_some, Option.map_none]; rw [q10]
                  first | (go_simp; done) | (go_simp; rfl) | rfl
                · refine RU.ObT.pure rfl rfl rfl (fun a V hf hp ev he hc W => ?_)
                  have q58 : ev (.tmp 58) = .slice (some ⟨bY, oY, none⟩) nY cY := (he (.tmp 58)).trans (hp 4 58 rfl)
                  have q59 : ev (.tmp 59) = .int .i64 (k : Int) := (he (.tmp 59)).trans (hp 5 59 rfl)
                  simp only [List.getElem_toArray, List.getElem_cons_succ, List.getElem_cons_zero, execOp, Option.map_some, Option.map_none]; rw [q58, q59]
                  have hk9 : (k : Int) < (nY : Int) := by omega
                  first | (go_simp; done) | (go_simp; rfl) | rfl
                · refine RU.ObT.pure rfl rfl rfl (fun a V hf hp ev he hc W => ?_)
                  have q60 : ev (.tmp 60) = .pointer (some ⟨bY, oY + k * 64, none⟩) := (he (.tmp 60)).trans (hp 6 60 rfl)
                  simp only [List.getElem_toArray, List.getElem_cons_succ, List.getElem_cons_zero, execOp, Option.map_some, Option.map_none]; rw [q60]
                  first | (go_simp; done) | (go_simp; rfl) | rfl
                · refine RU.ObT.silent rfl (fun a W k0 V hO hf hp hk => ?_)
                  have hO' : Below wr.heap.size wr W := hO
                  have q61 : a.eval (.tmp 61) = .pointer (some ⟨bY, oY + k * 64, none⟩) := hp 7 61 rfl
                  exact RU.ob_op rfl (RU.wanted_none rfl) (wp_load_mid 31 (.tmp 61) rfl (bY) (oY + k * 64) q61 (bv pz) _ (range_below RZ.out hO' LZ.out) Tryd.underlying31 rfl (size_l32 HPZ.out) ⟨rfl, hO⟩)
                · refine RU.ObT.silent rfl (fun a W k0 V hO hf hp hk => ?_)
                  have hO' : Below wr.heap.size wr W := hO
                  have e57 : a.eval (.tmp 57) = .agg (nc x).toArray := hp 3 57 rfl
                  have e62 : a.eval (.tmp 62) = .agg (bv pz).toArray := hp 8 62 rfl
                  refine RU.ob_call (g := 21) (args := #[.agg (nc x).toArray, .agg (bv pz).toArray]) rfl (RU.wanted_none rfl) (fun ev he hc => ?_) ((HHO.out W).mono ?_)
                  · have h57 := (he (.tmp 57)).trans e57
                    have h62 := (he (.tmp 62)).trans e62
                    have hfn := he (.func 21)
                    simp only [List.getElem_toArray, List.getElem_cons_succ, List.getElem_cons_zero, execOp, Option.map_some, Option.map_none]
                    simp only [resolve, invoke, Sem.run_bind, Sem.run_pure, Result.andThen_ok, List.map_toArray, List.map_cons, List.map_nil, h57, h62, hfn, Act.eval, hc]
                    rfl
                  · rintro e' W9 ⟨rfl, hb2⟩
                    exact ⟨_, rfl, rfl, (hO'.trans (hb2.mono hO'.size) : Below wr.heap.size wr W9)⟩
              intro W1 VW1 hOW1
              have BW1 : Hid (Below wr.heap.size wr W1) := hOW1
              clear hOW1
              simp only [RU.lay, RU.val, RU.at', gl13f, Act.put]
              simp only [List.setIfInBounds_toArray, List.set_cons_succ, List.set_cons_zero]
              go_wp2_with fail
              exact ⟨⟨k + 1, HLT2.out, by go_num, Below.tr' H5.out BW1.out⟩, by have := HLT2.out; simp [intOf]; omega⟩
          · go_wp2_with fail
            exact ⟨⟨i + 1, HLT.out, by go_num, H5.out⟩, by have := HLT.out; simp [intOf]; omega⟩
    · obtain ⟨W0, hW0⟩ : ∃ W, wr = W := ⟨_, rfl⟩
      rw [hW0] at H4
      go_wp2_with fail
      try rw [hW0]
      clear hW0
      go_loopw [68] (fun kv wx => ∃ k : Nat, k ≤ nX ∧ kv = .int .i64 (k : Int) ∧ Below w6.heap.size w6 wx) (fun kv _ => nX - (intOf kv).toNat)
      case atStart => exact ⟨0, Nat.zero_le _, rfl, H4.out⟩
      case round =>
        obtain ⟨k, hkn, rfl, h5⟩ := hrel
        have H5 : Hid (Below w6.heap.size w6 wr) := h5
        clear h5
        by_cases hlt2 : k < nX
        · have HLT2 : Hid (k < nX) := hlt2
          obtain ⟨z, hz⟩ : ∃ z, X[k]? = some z := ⟨X[k]'(by rw [HNX.out]; exact hlt2), List.getElem?_eq_getElem _⟩
          have HC1 : Hid ((S.filter (fun n => hl n z.p)).length = 1) := HCN.out z (List.mem_of_getElem? hz)
          rcases XX.out with ⟨h0, _⟩ | ⟨bX, oX, rfl, hlbX, hmX⟩
          · rw [h0] at hz; simp at hz
          obtain ⟨pz, hpz⟩ : ∃ p, z.p = p := ⟨_, rfl⟩
          have HPZ : Hid (L32 pz) := by rw [← hpz]; exact (HXK.out z (List.mem_of_getElem? hz)).p
          have RZ0 : Hid (w6.rangeAt bX (oX + k * 64) (bv pz)) := by rw [← hpz]; exact lf_p (range_below (hmX k z hz) G6.out hlbX)
          have LZ0 : Hid (bX < w6.heap.size) := Nat.lt_of_lt_of_le hlbX G6.out.size
          rw [hpz] at HC1
          obtain ⟨W1', hW1'⟩ : ∃ W, wr = W := ⟨_, rfl⟩
          rw [hW1'] at H5
          clear hmX hlbX hz hpz
          go_wp2_with fail
          try rw [hW1']
          clear hW1'
          go_loopw [12, 73] (fun cv iv wx => ∃ i : Nat, i ≤ nS ∧ iv = .int .i64 (i : Int) ∧ cv = .int .i64 ((((S.take i).filter (fun n => hl n pz)).length : Nat) : Int) ∧ Below w6.heap.size w6 wx) (fun _ iv _ => nS - (intOf iv).toNat)
          case atStart => exact ⟨0, Nat.zero_le _, rfl, rfl, H5.out⟩
          case round =>
            obtain ⟨i, hin2, rfl, rfl, h6⟩ := hrel
            have H6 : Hid (Below w6.heap.size w6 wr) := h6
            clear h6
            by_cases hlt3 : i < nS
            · have HLT3 : Hid (i < nS) := hlt3
              obtain ⟨x, hx⟩ : ∃ x, S[i]? = some x := ⟨S[i]'(by rw [HNS.out]; exact hlt3), List.getElem?_eq_getElem _⟩
              have HXO : Hid x.Ok := HSK.out x (List.mem_of_getElem? hx)
              rcases XS.out with ⟨h0, _⟩ | ⟨bS, oS, rfl, hlb, hm⟩
              · rw [h0] at hx; simp at hx
              have RX : Hid (wr.rangeAt bS (oS + i * 65) (nc x)) := range_below (hm i x hx) (Below.tr' G56.out H6.out) hlb
              have LX : Hid (bS < wr.heap.size) := Nat.lt_of_lt_of_le hlb (Below.tr' G56.out H6.out).size
              have RZ : Hid (wr.rangeAt bX (oX + k * 64) (bv pz)) := range_below RZ0.out H6.out LZ0.out
              have LZ : Hid (bX < wr.heap.size) := Nat.lt_of_lt_of_le LZ0.out H6.out.size
              obtain ⟨g, hg⟩ : ∃ g, hl x pz = g := ⟨_, rfl⟩
              have HHO : Hid (∀ W : World, Calls Tryd.prog 21 #[.agg (nc x).toArray, .agg (bv pz).toArray] W fun e w' => e = .returned (.bool g) ∧ Below W.heap.size W w') := fun W => by
                have := rHolds_any x HXO.out pz HPZ.out W
                rw [hg] at this; exact this
              obtain ⟨t, ht⟩ : ∃ t, ((S.take i).filter (fun n => hl n pz)).length = t := ⟨_, rfl⟩
              have HT1 : Hid (((S.take (i + 1)).filter (fun n => hl n pz)).length = t + (if g = true then 1 else 0)) := by show _ = _; rw [cnt_succ hx, ht, hg]
              have ht9 : t ≤ nS := by
                rw [← ht]
                have h1 := List.length_filter_le (fun n => hl n pz) (S.take i)
                rw [List.length_take] at h1
                omega
              rw [ht]
              clear hm hlb hx hg ht
              go_upto_region 24 with (fail)
              refine RU.wp_rgn' [] (gl24f bS oS nS cS bX oX nX cX i k x pz g) (fun _ => 0) (gΩ wr) (by kernel_rfl) (by kernel_rfl) (show Below wr.heap.size wr _ from (Below.refl _ _).drew) ?_ ?_
              · refine ⟨?_, ?_, ?_, ?_, ?_, ?_, ?_, ?_, ?_, ?_, trivial⟩
                · refine RU.ObT.pure rfl rfl rfl (fun a V hf hp ev he hc W => ?_)
                  have q7 : ev (.tmp 7) = .slice (some ⟨bS, oS, none⟩) nS cS := (he (.tmp 7)).trans (hf 7 rfl)
                  simp only [List.getElem_toArray, List.getElem_cons_succ, List.getElem_cons_zero, execOp, Option.map_some, Option.map_none]; rw [q7]
                  first | (go_simp; done) | (go_simp; rfl) | rfl
                · refine RU.ObT.pure rfl rfl rfl (fun a V hf hp ev he hc W => ?_)
                  have q13 : ev (.tmp 13) = .int .i64 (i : Int) := (he (.tmp 13)).trans (hf 13 rfl)
                  simp only [List.getElem_toArray, List.getElem_cons_succ, List.getElem_cons_zero, execOp, Option.map_some, Option.map_none]; rw [q13]
                  first | (go_simp; done) | (go_simp; rfl) | rfl
                · refine RU.ObT.pure rfl rfl rfl (fun a V hf hp ev he hc W => ?_)
                  have q76 : ev (.tmp 76) = .slice (some ⟨bS, oS, none⟩) nS cS := (he (.tmp 76)).trans (hp 0 76 rfl)
                  have q77 : ev (.tmp 77) = .int .i64 (i : Int) := (he (.tmp 77)).trans (hp 1 77 rfl)
                  simp only [List.getElem_toArray, List.getElem_cons_succ, List.getElem_cons_zero, execOp, Option.map_some, Option.map_none]; rw [q76, q77]
                  have hk8 : (i : Int) < (nS : Int) := by omega
                  first | (go_simp; done) | (go_simp; rfl) | rfl
                · refine RU.ObT.silent rfl (fun a W k0 V hO hf hp hk => ?_)
                  have hO' : Below wr.heap.size wr W := hO
                  have q78 : a.eval (.tmp 78) = .pointer (some ⟨bS, oS + i * 65, none⟩) := hp 2 78 rfl
                  exact RU.ob_op rfl (RU.wanted_none rfl) (wp_load_mid 44 (.tmp 78) rfl (bS) (oS + i * 65) q78 (nc x) _ (range_below RX.out hO' LX.out) Tryd.underlying44 rfl (size_nc HXO.out) ⟨rfl, hO⟩)
                · refine RU.ObT.pure rfl rfl rfl (fun a V hf hp ev he hc W => ?_)
                  have q5 : ev (.tmp 5) = .slice (some ⟨bX, oX, none⟩) nX cX := (he (.tmp 5)).trans (hf 5 rfl)
                  simp only [List.getElem_toArray, List.getElem_cons_succ, List.getElem_cons_zero, execOp, Option.map_some, Option.map_none]; rw [q5]
                  first | (go_simp; done) | (go_simp; rfl) | rfl
                · refine RU.ObT.pure rfl rfl rfl (fun a V hf hp ev he hc W => ?_)
                  have q11 : ev (.tmp 11) = .int .i64 (k : Int) := (he (.tmp 11)).trans (hf 11 rfl)
                  simp only [List.getElem_toArray, List.getElem_cons_succ, List.getElem_cons_zero, execOp, Option.map_some, Option.map_none]; rw [q11]
                  first | (go_simp; done) | (go_simp; rfl) | rfl
                · refine RU.ObT.pure rfl rfl rfl (fun a V hf hp ev he hc W => ?_)
                  have q80 : ev (.tmp 80) = .slice (some ⟨bX, oX, none⟩) nX cX := (he (.tmp 80)).trans (hp 4 80 rfl)
                  have q81 : ev (.tmp 81) = .int .i64 (k : Int) := (he (.tmp 81)).trans (hp 5 81 rfl)
                  simp only [List.getElem_toArray, List.getElem_cons_succ, List.getElem_cons_zero, execOp, Option.map_some, Option.map_none]; rw [q80, q81]
                  have hk9 : (k : Int) < (nX : Int) := by omega
                  first | (go_simp; done) | (go_simp; rfl) | rfl
                · refine RU.ObT.pure rfl rfl rfl (fun a V hf hp ev he hc W => ?_)
                  have q82 : ev (.tmp 82) = .pointer (some ⟨bX, oX + k * 64, none⟩) := (he (.tmp 82)).trans (hp 6 82 rfl)
                  simp only [List.getElem_toArray, List.getElem_cons_succ, List.getElem_cons_zero, execOp, Option.map_some, Option.map_none]; rw [q82]
                  first | (go_simp; done) | (go_simp; rfl) | rfl
                · refine RU.ObT.silent rfl (fun a W k0 V hO hf hp hk => ?_)
                  have hO' : Below wr.heap.size wr W := hO
                  have q83 : a.eval (.tmp 83) = .pointer (some ⟨bX, oX + k * 64, none⟩) := hp 7 83 rfl
                  exact RU.ob_op rfl (RU.wanted_none rfl) (wp_load_mid 31 (.tmp 83) rfl (bX) (oX + k * 64) q83 (bv pz) _ (range_below RZ.out hO' LZ.out) Tryd.underlying31 rfl (size_l32 HPZ.out) ⟨rfl, hO⟩)
                · refine RU.ObT.silent rfl (fun a W k0 V hO hf hp hk => ?_)
                  have hO' : Below wr.heap.size wr W := hO
                  have e79 : a.eval (.tmp 79) = .agg (nc x).toArray := hp 3 79 rfl
                  have e84 : a.eval (.tmp 84) = .agg (bv pz).toArray := hp 8 84 rfl
                  refine RU.ob_call (g := 21) (args := #[.agg (nc x).toArray, .agg (bv pz).toArray]) rfl (RU.wanted_none rfl) (fun ev he hc => ?_) ((HHO.out W).mono ?_)
                  · have h79 := (he (.tmp 79)).trans e79
                    have h84 := (he (.tmp 84)).trans e84
                    have hfn := he (.func 21)
                    simp only [List.getElem_toArray, List.getElem_cons_succ, List.getElem_cons_zero, execOp, Option.map_some, Option.map_none]
                    simp only [resolve, invoke, Sem.run_bind, Sem.run_pure, Result.andThen_ok, List.map_toArray, List.map_cons, List.map_nil, h79, h84, hfn, Act.eval, hc]
                    rfl
                  · rintro e' W9 ⟨rfl, hb2⟩
                    exact ⟨_, rfl, rfl, (hO'.trans (hb2.mono hO'.size) : Below wr.heap.size wr W9)⟩
              intro W1 VW1 hOW1
              have BW1 : Hid (Below wr.heap.size wr W1) := hOW1
              clear hOW1
              simp only [RU.lay, RU.val, RU.at', gl24f, Act.put]
              simp only [List.setIfInBounds_toArray, List.set_cons_succ, List.set_cons_zero]
              cases g with
              | true =>
                go_wp2_with fail
                exact ⟨⟨i + 1, HLT3.out, by go_num, by rw [HT1.out, if_pos rfl]; go_num, Below.tr' H6.out BW1.out⟩, by have := HLT3.out; simp [intOf]; omega⟩
              | false =>
                go_wp2_with fail
                exact ⟨⟨i + 1, HLT3.out, by go_num, by rw [HT1.out, if_neg (by decide), Nat.add_zero], Below.tr' H6.out BW1.out⟩, by have := HLT3.out; simp [intOf]; omega⟩
            · obtain rfl : i = nS := by omega
              have eC : ((S.take i).filter (fun n => hl n pz)).length = 1 := by rw [← HNS.out, List.take_length]; exact HC1.out
              rw [eC]
              clear eC
              go_wp2_with fail
              exact ⟨⟨k + 1, HLT2.out, by go_num, H6.out⟩, by have := HLT2.out; simp [intOf]; omega⟩
        · have CE : Hid (Below w.heap.size w wr) := Below.tr' C2.out (Below.tr' G6.out H5.out)
          by_cases hy0 : nY = 0
          · have hm1 := HMIN.out hy0
            subst hy0
            by_cases hx0 : nX = 0
            · subst hx0
              have hs0 : nS = 0 := by omega
              clear hm1
              subst hs0
              clear HMIN
              go_wp2_with fail
              go_ret
              exact ⟨rfl, CE.out⟩
            · have hs1 : nS = 1 := by omega
              subst hs1
              clear hm1
              go_wp2_with fail
              go_ret
              have e9 : min (nX : Int) 1 = 1 := by omega
              exact ⟨by show Ending.returned (.bool ((1 : Int) == min (nX : Int) 1)) = _; rw [e9]; rfl, CE.out⟩
          · have hy1 : (0 : Int) < (nY : Int) := by omega
            go_wp2_with fail
            go_ret
            exact ⟨rfl, CE.out⟩
end Go.Proofs.YtpojalbpekbfdaaDoor
