/- The law's apart and root. -/
import Derived.Test.YtpojalbpekbfdaaGreatDoorGrnJ
import Derived.Test.YtpojalbpekbfdaaGreatDoorTrrL
namespace Go.Proofs.YtpojalbpekbfdaaGreatDoor
open Go Go.RowKit
set_option linter.unusedSimpArgs false
set_option linter.unusedVariables false
set_option maxRecDepth 100000

/-- Those of the second list that have no label that stood ahead of them. -/
def apB (X acc : List Lf) (z : Lf) : List Lf := if (!iny X z.p && !iny acc z.p) = true then acc ++ [z] else acc
def apd (X ms : List Lf) : List Lf := ms.foldl (apB X) []
theorem dsA_in (acc : List Lf) (z : Lf) : dsA acc z = if (!iny acc z.p) = true then acc ++ [z] else acc := by unfold dsA; rw [iny_ds]
theorem apd_succ {X ms : List Lf} {k : Nat} {x : Lf} (hx : ms[k]? = some x) : apd X (ms.take (k + 1)) = apB X (apd X (ms.take k)) x := by
  obtain ⟨h, rfl⟩ := List.getElem?_eq_some_iff.1 hx
  unfold apd
  rw [List.take_succ_eq_append_getElem h, List.foldl_append]; rfl
theorem apd_inv (X : List Lf) : ∀ (ms acc : List Lf) (P : Lf → Prop), (∀ x ∈ acc, P x) → (∀ x ∈ ms, P x) → (∀ x ∈ ms.foldl (apB X) acc, P x)
  | [], acc, P, h, _ => h
  | a :: r, acc, P, h, h2 => by
    refine apd_inv X r (apB X acc a) P (fun x hx => ?_) (fun x hx => h2 x (List.mem_cons_of_mem _ hx))
    unfold apB at hx
    split at hx
    · rcases List.mem_append.1 hx with q | q
      · exact h x q
      · simp at q; subst q; exact h2 x (by simp)
    · exact h x hx
theorem apd_len (X : List Lf) : ∀ (ms acc : List Lf), (ms.foldl (apB X) acc).length ≤ acc.length + ms.length
  | [], acc => by simp
  | a :: r, acc => by
    have := apd_len X r (apB X acc a)
    have h2 : (apB X acc a).length ≤ acc.length + 1 := by unfold apB; split <;> simp
    simp only [List.foldl_cons, List.length_cons]; omega
theorem iny_no {l : List Lf} {y : List Int} (h : iny l y = false) : ∀ x ∈ l, x.p ≠ y := fun x hx e => by
  have := List.any_eq_false.1 h x hx
  simp [e] at this
theorem apd_pair (X : List Lf) : ∀ (ms acc : List Lf), (X ++ acc).Pairwise (fun a b => a.p ≠ b.p) → (X ++ ms.foldl (apB X) acc).Pairwise (fun a b => a.p ≠ b.p)
  | [], acc, h => h
  | a :: r, acc, h => by
    refine apd_pair X r (apB X acc a) ?_
    unfold apB
    split
    · next hn =>
      rw [Bool.and_eq_true] at hn
      rw [← List.append_assoc]
      refine List.pairwise_append.2 ⟨h, List.pairwise_singleton _ _, fun x hx y hy => ?_⟩
      simp at hy; subst hy
      rcases List.mem_append.1 hx with q | q
      · exact iny_no (by simpa using hn.1) x q
      · exact iny_no (by simpa using hn.2) x q
    · exact h
theorem apartL_ok {ls ms : List Lf} (hk1 : ∀ x ∈ ls, x.Ok) (hk2 : ∀ x ∈ ms, x.Ok) : (∀ x ∈ dst ls ++ apd (dst ls) ms, x.Ok) ∧ okl (dst ls ++ apd (dst ls) ms) := by
  have h1 : ∀ x ∈ dst ls ++ apd (dst ls) ms, x.Ok := fun x hx => by
    rcases List.mem_append.1 hx with q | q
    · exact dst_ok hk1 x q
    · exact apd_inv (dst ls) ms [] _ (fun x hx => by cases hx) hk2 x q
  exact ⟨h1, okl_of_ne h1 (apd_pair (dst ls) ms [] (by rw [List.append_nil]; exact dst_pair ls [] List.Pairwise.nil))⟩
theorem apartL_len (ls ms : List Lf) : (dst ls).length ≤ ls.length ∧ (apd (dst ls) ms).length ≤ ms.length := by
  have h1 := dst_len ls []
  have h2 := apd_len (dst ls) ms []
  simp only [List.length_nil, Nat.zero_add] at h1 h2
  exact ⟨h1, h2⟩
set_option maxHeartbeats 8000000 in
theorem apartL_any (ls ms : List Lf) (hk1 : ∀ x ∈ ls, x.Ok) (hk2 : ∀ x ∈ ms, x.Ok) (hlen : ls.length + ms.length ≤ 2400000000000) (v u : Value) (w : World) (hv : LS w v ls) (hu : LS w u ms) :
    Calls Tryz.prog 5 #[v, u] w fun e w' => ∃ v1 v2, e = .returned (.tuple #[v1, v2]) ∧ LS w' v1 (dst ls) ∧ LS w' v2 (apd (dst ls) ms) ∧ Below w.heap.size w w' := by
  have HK1 : Hid (∀ x ∈ ls, x.Ok) := hk1
  have HK2 : Hid (∀ x ∈ ms, x.Ok) := hk2
  have HIN : Hid (∀ (l : List Lf) (y : List Int) (v : Value) (W : World), (∀ x ∈ l, x.Ok) → l.length ≤ 140737488355328 → L32 y → LS W v l → Calls Tryz.prog 13 #[v, .agg (bv y).toArray] W fun e w' => e = .returned (.bool (iny l y)) ∧ Below W.heap.size W w') := fun l y v W h1 h2 h3 h4 => in_any l h1 h2 y h3 v W h4
  have HDL : Hid (∀ k, (dst (ls.take k)).length ≤ 2400000000000) := fun k => by
    have := dst_len (ls.take k) []
    rw [List.length_take] at this
    show (dst (ls.take k)).length ≤ _
    unfold dst; simp only [List.length_nil] at this; omega
  have HDO : Hid (∀ k, ∀ x ∈ dst (ls.take k), x.Ok) := fun k => dst_ok (fun x hx => hk1 x (List.mem_of_mem_take hx))
  have HAL : Hid (∀ X k, (apd X (ms.take k)).length ≤ 2400000000000) := fun X k => by
    have := apd_len X (ms.take k) []
    rw [List.length_take] at this
    show (apd X (ms.take k)).length ≤ _
    unfold apd; simp only [List.length_nil] at this; omega
  have HAO : Hid (∀ X k, ∀ x ∈ apd X (ms.take k), x.Ok) := fun X k => apd_inv X (ms.take k) [] _ (fun x hx => by cases hx) (fun x hx => hk2 x (List.mem_of_mem_take hx))
  obtain ⟨ad, cap, hv0, -, hx0⟩ := id hv
  obtain ⟨au, cu, hu0, -, hxu⟩ := id hu
  obtain ⟨n, hn⟩ : ∃ n, ls.length = n := ⟨_, rfl⟩
  obtain ⟨m, hm⟩ : ∃ n, ms.length = n := ⟨_, rfl⟩
  have HN : Hid (ls.length = n) := hn
  have HM : Hid (ms.length = m) := hm
  rw [hn] at hv0
  rw [hm] at hu0
  subst hv0
  subst hu0
  have hn9 : n ≤ 2400000000000 := by omega
  have hm9 : m ≤ 2400000000000 := by omega
  have HX : Hid ((ls = [] ∧ (ad = none → cap = 0)) ∨ ∃ b o, ad = some ⟨b, o, none⟩ ∧ b < w.heap.size ∧ ∀ (i : Nat) (x : Lf), ls[i]? = some x → w.rangeAt b (o + i * 64) (lfc x)) := hx0
  have HXU : Hid ((ms = [] ∧ (au = none → cu = 0)) ∨ ∃ b o, au = some ⟨b, o, none⟩ ∧ b < w.heap.size ∧ ∀ (i : Nat) (x : Lf), ms[i]? = some x → w.rangeAt b (o + i * 64) (lfc x)) := hxu
  obtain ⟨X, hX⟩ : ∃ X, dst ls = X := ⟨_, rfl⟩
  have HXE : Hid (dst ls = X) := hX
  rw [hX]
  clear hk1 hk2 hlen hv hu hx0 hxu hn hm hX
  go_enter Tryz.func5, Tryz.ntmps5
  go_wp2_with fail
  go_loopw [6, 12] (fun xv i wr => ∃ k : Nat, k ≤ n ∧ i = .int .i64 (k : Int) ∧ LO w.heap.size wr xv (dst (ls.take k)) ∧ Below w.heap.size w wr) (fun _ i _ => n - (intOf i).toNat)
  case atStart => exact ⟨0, Nat.zero_le _, rfl, LO.nil' (Nat.le_refl _), Below.refl _ _⟩
  case round =>
    obtain ⟨k, hkn, rfl, q1, q2⟩ := hrel
    have O1 : Hid (LO w.heap.size wr u6 (dst (ls.take k))) := q1
    have B1 : Hid (Below w.heap.size w wr) := q2
    clear q1 q2
    by_cases hlt : k < n
    · have HLT : Hid (k < n) := hlt
      obtain ⟨x, hx⟩ : ∃ x, ls[k]? = some x := ⟨ls[k]'(by rw [HN.out]; exact hlt), List.getElem?_eq_getElem _⟩
      have HXO : Hid x.Ok := HK1.out x (List.mem_of_getElem? hx)
      rcases HX.out with ⟨h0, _⟩ | ⟨b, o, rfl, hlb, hmm⟩
      · rw [h0] at hx; simp at hx
      · have RX : Hid (wr.rangeAt b (o + k * 64) (lfc x)) := range_below (hmm k x hx) B1.out hlb
        have LX : Hid (b < wr.heap.size) := Nat.lt_of_lt_of_le hlb B1.out.size
        obtain ⟨px, hpx⟩ : ∃ p, x.p = p := ⟨_, rfl⟩
        have HPX : Hid (L32 px) := by rw [← hpx]; exact HXO.out.p
        have RP : Hid (wr.rangeAt b (o + k * 64) (bv px)) := by rw [← hpx]; exact lf_p RX.out
        obtain ⟨g, hg⟩ : ∃ g, iny (dst (ls.take k)) px = g := ⟨_, rfl⟩
        have HI := HIN.out (dst (ls.take k)) px u6 wr (HDO.out k) (by have := HDL.out k; omega) HPX.out O1.out.ls
        rw [hg] at HI
        have HII : Hid (Calls Tryz.prog 13 #[u6, .agg (bv px).toArray] wr fun e w' => e = .returned (.bool g) ∧ Below wr.heap.size wr w') := HI
        have HD1 : Hid (dst (ls.take (k + 1)) = if (!g) = true then dst (ls.take k) ++ [x] else dst (ls.take k)) := by
          show dst (ls.take (k + 1)) = _
          rw [dst_succ hx, dsA_in, hpx, hg]
        have HSZ : Hid ((dst (ls.take k)).length + [x].length ≤ 3000000000000) := by show _ ≤ _; have := HDL.out k; simp only [List.length_cons, List.length_nil]; omega
        obtain ⟨Dk, hDk⟩ : ∃ D, dst (ls.take k) = D := ⟨_, rfl⟩
        rw [hDk] at O1 HD1 HSZ
        clear hmm hlb hx hpx hg HI hDk
        cases g with
        | true =>
          go_wp2_with (first
            | (refine wpList_load_mid rfl 32 (.tmp 19) rfl b (o + k * 64) rfl (bv px) _ RP.out Tryz.underlying32 rfl (size_l32 HPX.out) ?_)
            | (go_at_call 13; refine HII.out.mono ?_; rintro e w2 ⟨rfl, g1⟩; have G2 : Hid (Below wr.heap.size wr w2) := g1; clear g1))
          exact ⟨⟨k + 1, HLT.out, by go_num, by rw [HD1.out, if_neg (by decide)]; exact O1.out.below G2.out, Below.tr' B1.out G2.out⟩, by have := HLT.out; simp [intOf]; omega⟩
        | false =>
          go_wp2_with (first
            | (refine wpList_load_mid rfl 32 (.tmp 19) rfl b (o + k * 64) rfl (bv px) _ RP.out Tryz.underlying32 rfl (size_l32 HPX.out) ?_)
            | (go_at_call 13; refine HII.out.mono ?_; rintro e w2 ⟨rfl, g1⟩; have G2 : Hid (Below wr.heap.size wr w2) := g1; have RX2 : Hid (w2.rangeAt b (o + k * 64) (lfc x)) := range_below RX.out g1 LX.out; clear g1)
            | (refine wpList_load_mid rfl 35 (.tmp 26) rfl b (o + k * 64) rfl (lfc x) _ RX2.out Tryz.underlying35 rfl (size_lfc HXO.out) ?_)
            | (refine wpList_onel rfl (.tmp 27) rfl x HXO.out rfl ?_)
            | (at_builtin; refine wp_appl rfl (.tmp 23) (.tmp 28) rfl rfl w.heap.size u6 (.slice (some ⟨w2.heap.size, 0, none⟩) 1 1) Dk [x] rfl rfl ((O1.out.below G2.out).alloc _) (fun z hz => by simp at hz; subst hz; exact HXO.out) (ls_one w2 x _) HSZ.out ?_; intro v3 w3 g1 g2; have O3 : Hid (LO w.heap.size w3 v3 (Dk ++ [x])) := g1; have B3 : Hid (Below w.heap.size w w3) := ((Below.tr' B1.out G2.out).alloc (Nat.le_trans B1.out.size G2.out.size) _).trans g2; clear g1 g2))
          exact ⟨⟨k + 1, HLT.out, by go_num, by rw [HD1.out, if_pos (by decide)]; exact O3.out, B3.out⟩, by have := HLT.out; simp [intOf]; omega⟩
    · obtain rfl : k = n := by omega
      have eT : ls.take k = ls := by rw [← HN.out]; exact List.take_length
      have hX := HXE.out
      have OX : Hid (LS wr u6 X) := by have := O1.out.ls; rw [eT, hX] at this; exact this
      have HXK : Hid (∀ x ∈ X, x.Ok) := by have := HDO.out k; rw [eT, hX] at this; exact this
      have HXL : Hid (X.length ≤ 2400000000000) := by have := HDL.out k; rw [eT, hX] at this; exact this
      obtain ⟨W1, hW1⟩ : ∃ W, wr = W := ⟨_, rfl⟩
      rw [hW1] at OX B1
      clear eT hX
      go_wp2_with fail
      try rw [hW1]
      clear hW1
      go_loopw [7, 33] (fun yv i wx => ∃ j : Nat, j ≤ m ∧ i = .int .i64 (j : Int) ∧ LO W1.heap.size wx yv (apd X (ms.take j)) ∧ Below W1.heap.size W1 wx) (fun _ i _ => m - (intOf i).toNat)
      case atStart => exact ⟨0, Nat.zero_le _, rfl, LO.nil' (Nat.le_refl _), Below.refl _ _⟩
      case round =>
        obtain ⟨j, hjm, rfl, q1, q2⟩ := hrel
        have O2 : Hid (LO W1.heap.size wr u7 (apd X (ms.take j))) := q1
        have B2 : Hid (Below W1.heap.size W1 wr) := q2
        clear q1 q2
        by_cases hlt : j < m
        · have HLT : Hid (j < m) := hlt
          obtain ⟨x, hx⟩ : ∃ x, ms[j]? = some x := ⟨ms[j]'(by rw [HM.out]; exact hlt), List.getElem?_eq_getElem _⟩
          have HXO : Hid x.Ok := HK2.out x (List.mem_of_getElem? hx)
          rcases HXU.out with ⟨h0, _⟩ | ⟨b, o, rfl, hlb, hmm⟩
          · rw [h0] at hx; simp at hx
          · have C2 : Hid (Below w.heap.size w wr) := Below.tr' B1.out B2.out
            have RX : Hid (wr.rangeAt b (o + j * 64) (lfc x)) := range_below (hmm j x hx) C2.out hlb
            have LX : Hid (b < wr.heap.size) := Nat.lt_of_lt_of_le hlb C2.out.size
            obtain ⟨px, hpx⟩ : ∃ p, x.p = p := ⟨_, rfl⟩
            have HPX : Hid (L32 px) := by rw [← hpx]; exact HXO.out.p
            have RP : Hid (wr.rangeAt b (o + j * 64) (bv px)) := by rw [← hpx]; exact lf_p RX.out
            obtain ⟨g, hg⟩ : ∃ g, iny X px = g := ⟨_, rfl⟩
            obtain ⟨g', hg'⟩ : ∃ g, iny (apd X (ms.take j)) px = g := ⟨_, rfl⟩
            have HI := HIN.out X px u6 wr HXK.out (by have := HXL.out; omega) HPX.out (OX.out.below B2.out)
            rw [hg] at HI
            have HII : Hid (Calls Tryz.prog 13 #[u6, .agg (bv px).toArray] wr fun e w' => e = .returned (.bool g) ∧ Below wr.heap.size wr w') := HI
            have HJJ : Hid (∀ W : World, Below wr.heap.size wr W → Calls Tryz.prog 13 #[u7, .agg (bv px).toArray] W fun e w' => e = .returned (.bool g') ∧ Below W.heap.size W w') := fun W q => by
              have := HIN.out (apd X (ms.take j)) px u7 W (HAO.out X j) (by have := HAL.out X j; omega) HPX.out (O2.out.ls.below q)
              rw [hg'] at this; exact this
            have HD1 : Hid (apd X (ms.take (j + 1)) = if (!g && !g') = true then apd X (ms.take j) ++ [x] else apd X (ms.take j)) := by
              show apd X (ms.take (j + 1)) = _
              rw [apd_succ hx]; unfold apB; rw [hpx, hg, hg']
            have HSZ : Hid ((apd X (ms.take j)).length + [x].length ≤ 3000000000000) := by show _ ≤ _; have := HAL.out X j; simp only [List.length_cons, List.length_nil]; omega
            obtain ⟨Dk, hDk⟩ : ∃ D, apd X (ms.take j) = D := ⟨_, rfl⟩
            rw [hDk] at O2 HD1 HSZ
            clear hmm hlb hx hpx hg hg' HI hDk
            cases g with
            | true =>
              go_wp2_with (first
                | (refine wpList_load_mid rfl 32 (.tmp 40) rfl b (o + j * 64) rfl (bv px) _ RP.out Tryz.underlying32 rfl (size_l32 HPX.out) ?_)
                | (go_at_call 13; refine HII.out.mono ?_; rintro e w2 ⟨rfl, g1⟩; have G2 : Hid (Below wr.heap.size wr w2) := g1; clear g1))
              exact ⟨⟨j + 1, HLT.out, by go_num, by rw [HD1.out, if_neg (by simp)]; exact O2.out.below G2.out, Below.tr' B2.out G2.out⟩, by have := HLT.out; simp [intOf]; omega⟩
            | false =>
              cases g' with
              | true =>
                go_wp2_with (first
                  | (refine wpList_load_mid rfl 32 (.tmp 40) rfl b (o + j * 64) rfl (bv px) _ RP.out Tryz.underlying32 rfl (size_l32 HPX.out) ?_)
                  | (refine ld 32 (.tmp 49) rfl rfl b (o + j * 64) rfl (bv px) _ (range_below RP.out G2.out LX.out) Tryz.underlying32 rfl (size_l32 HPX.out) ?_)
                  | (go_at_call 13; refine (HJJ.out w2 G2.out).mono ?_; rintro e w3 ⟨rfl, g1⟩; have G3 : Hid (Below wr.heap.size wr w3) := Below.tr' G2.out g1; clear g1)
                  | (go_at_call 13; refine HII.out.mono ?_; rintro e w2 ⟨rfl, g1⟩; have G2 : Hid (Below wr.heap.size wr w2) := g1; clear g1))
                exact ⟨⟨j + 1, HLT.out, by go_num, by rw [HD1.out, if_neg (by simp)]; exact O2.out.below G3.out, Below.tr' B2.out G3.out⟩, by have := HLT.out; simp [intOf]; omega⟩
              | false =>
                go_wp2_with (first
                  | (refine wpList_load_mid rfl 32 (.tmp 40) rfl b (o + j * 64) rfl (bv px) _ RP.out Tryz.underlying32 rfl (size_l32 HPX.out) ?_)
                  | (refine ld 32 (.tmp 49) rfl rfl b (o + j * 64) rfl (bv px) _ (range_below RP.out G2.out LX.out) Tryz.underlying32 rfl (size_l32 HPX.out) ?_)
                  | (go_at_call 13; refine (HJJ.out w2 G2.out).mono ?_; rintro e w3 ⟨rfl, g1⟩; have G3 : Hid (Below wr.heap.size wr w3) := Below.tr' G2.out g1; clear g1)
                  | (go_at_call 13; refine HII.out.mono ?_; rintro e w2 ⟨rfl, g1⟩; have G2 : Hid (Below wr.heap.size wr w2) := g1; clear g1)
                  | (refine wpList_load_mid rfl 35 (.tmp 57) rfl b (o + j * 64) rfl (lfc x) _ (range_below RX.out G3.out LX.out) Tryz.underlying35 rfl (size_lfc HXO.out) ?_)
                  | (refine wpList_onel rfl (.tmp 58) rfl x HXO.out rfl ?_)
                  | (at_builtin; refine wp_appl rfl (.tmp 54) (.tmp 59) rfl rfl W1.heap.size u7 (.slice (some ⟨w3.heap.size, 0, none⟩) 1 1) Dk [x] rfl rfl ((O2.out.below G3.out).alloc _) (fun z hz => by simp at hz; subst hz; exact HXO.out) (ls_one w3 x _) HSZ.out ?_; intro v4 w4 g1 g2; have O4 : Hid (LO W1.heap.size w4 v4 (Dk ++ [x])) := g1; have B4 : Hid (Below W1.heap.size W1 w4) := ((Below.tr' B2.out G3.out).alloc (Nat.le_trans B2.out.size G3.out.size) _).trans g2; clear g1 g2))
                exact ⟨⟨j + 1, HLT.out, by go_num, by rw [HD1.out, if_pos (by decide)]; exact O4.out, B4.out⟩, by have := HLT.out; simp [intOf]; omega⟩
        · obtain rfl : j = m := by omega
          have eT : ms.take j = ms := by rw [← HM.out]; exact List.take_length
          have OY : Hid (LS wr u7 (apd X ms)) := by have := O2.out.ls; rw [eT] at this; exact this
          clear eT
          go_wp2_with fail
          go_ret2
          exact ⟨_, _, rfl, OX.out.below B2.out, OY.out, Below.tr' B1.out B2.out⟩
end Go.Proofs.YtpojalbpekbfdaaGreatDoor
/- The law's root; a tree that has grown is accepted (mathematics). -/
namespace Go.Proofs.YtpojalbpekbfdaaGreatDoor
open Go Go.RowKit
set_option linter.unusedSimpArgs false
set_option linter.unusedVariables false
set_option maxRecDepth 100000

set_option maxHeartbeats 4000000 in
theorem rootL_any (ls : List Lf) (hk : ∀ x ∈ ls, x.Ok) (hlen : ls.length ≤ 2500000000000) (R : List Int) (er : Int) (hR : RO ls R er) (hL : L32 R) (v : Value) (w : World) (hv : LS w v ls) :
    Calls Tryz.prog 9 #[v] w fun e w' => e = .returned (.agg (bv R).toArray) ∧ Below w.heap.size w w' := by
  have HL : Hid (L32 R) := hL
  have hz := zero_32
  rw [show List.replicate 32 (0 : Int) = z32 from rfl] at hz
  have rz : (w.alloc (.cells (bv z32).toArray 32)).heap[w.heap.size]? = some (.cells (bv z32).toArray 32 (0, 0)) := by show (w.heap.push _)[w.heap.size]? = _; simp
  have rl : Below w.heap.size w (w.alloc (.cells (bv z32).toArray 32)) := (Below.refl _ w).alloc (Nat.le_refl _) _
  have rs : (w.alloc (.cells (bv z32).toArray 32)).heap.size = w.heap.size + 1 := by simp
  have HBZ : Hid (∀ W : World, (Instr.build 32 #[]).run Tryz.prog W = .ok (.agg (bv z32).toArray) W) := build_32
  obtain ⟨Z, hZ⟩ : ∃ Z, (bv z32).toArray = Z := ⟨_, rfl⟩
  have HZ : Hid ((bv z32).toArray = Z) := hZ
  have hZs : Z.size = 32 := by rw [← hZ]; simp [bv, z32]
  have HZS : Hid (Z.size = 32) := hZs
  rw [hZ] at hz rz rl rs
  clear hZ
  obtain ⟨U, hU⟩ : ∃ U, w.alloc (.cells Z 32) = U := ⟨_, rfl⟩
  rw [hU] at rz rl rs
  have BU : Hid (Below w.heap.size w U) := rl
  obtain ⟨D, hD⟩ : ∃ D, w.heap.size = D := ⟨_, rfl⟩
  have HD : Hid (w.heap.size = D) := hD
  rw [hD] at rz rs
  have RZ : Hid (U.heap[D]? = some (.cells Z 32 (0, 0))) := rz
  have SU : Hid (U.heap.size = D + 1) := rs
  have HTH : Hid (∀ w1 : World, Below U.heap.size U w1 → w1.there D 0 32) := fun w1 B1 => there_of_row' ((B1.block _ (by have := SU.out; omega)).trans RZ.out) 0 32 (by rw [HZS.out]; exact Nat.le_refl _)
  clear rz rl rs hZs
  have HRO : Hid (Calls Tryz.prog 20 #[v] U fun e w' => e = .returned (.tuple #[.agg (bv R).toArray, .int .i64 er]) ∧ Below U.heap.size U w') := rRootOf_any ls hk hlen R er hR v U (hv.below BU.out)
  clear hk hlen hR hL hv
  go_enter Tryz.func9, Tryz.ntmps9
  go_upto_region 1 with (fail)
  try rw [hU]
  try rw [hD]
  clear hU hD
  go_upto_region 2 with (first
    | (go_at_call 20; refine HRO.out.mono ?_; rintro e w1 ⟨rfl, g1⟩; have B1 : Hid (Below U.heap.size U w1) := g1; clear g1)
    | (refine wpList_store_mid rfl 32 (.tmp 3) (.tmp 8) rfl w1.heap.size 0 (bv R).toArray rfl rfl (there_new w1 (by rw [List.size_toArray, bv_length, HL.out.len, HZS.out])) (by rw [List.size_toArray]; exact size_l32 HL.out) (bv_one' _) ?_; simp only [List.toList_toArray]))
  obtain ⟨a9, ha9⟩ : ∃ a9, (w1.alloc (.cells Z 32)).setCells w1.heap.size 0 (bv R) = a9 := ⟨_, rfl⟩
  rw [ha9]
  obtain ⟨r1, r2, r3⟩ := laid_row (by rw [bv_length, HL.out.len, HZS.out]) (by rw [bv_length, HL.out.len]; omega) ha9
  obtain ⟨b9, hb9⟩ : ∃ q, w1.heap.size = q := ⟨_, rfl⟩
  have B9 : Hid (Below U.heap.size U a9) := Below.tr' B1.out r2
  rw [hb9] at r1 ⊢
  have R9 : Hid (a9.rangeAt b9 0 (bv R)) := r1
  clear r1 r2 r3 ha9 hb9 hz
  go_wp2_with (first
    | (refine wpList_load_mid rfl 32 (.tmp 3) rfl b9 0 rfl (bv R) _ R9.out Tryz.underlying32 rfl (size_l32 HL.out) ?_)
    | (refine wpList_store_mid rfl 32 (.tmp 2) (.tmp 10) rfl D 0 (bv R).toArray rfl rfl (by rw [List.size_toArray, bv_length, HL.out.len]; exact HTH.out a9 B9.out) (by rw [List.size_toArray]; exact size_l32 HL.out) (bv_one' _) ?_; simp only [List.toList_toArray]))
  have qq : (a9.setCells D 0 (bv R)).rangeAt D 0 (bv R) := World.rangeAt_setCells_same _ _ _ _ (by rw [bv_length, HL.out.len]; exact HTH.out a9 B9.out)
  have hbl : Below w.heap.size w (a9.setCells D 0 (bv R)) := below_setCells (by rw [HD.out]; exact Nat.le_refl _) _ _ (BU.out.trans (B9.out.mono BU.out.size))
  refine bodyPost_ret (v := .agg (bv R).toArray) ?_ rfl ⟨rfl, hbl⟩
  simp only [results, Tryz.results9]
  simp [Act.put, asAddr, run_loadVar_mid _ D 0 32 (bv R) _ qq Tryz.underlying32 rfl (size_l32 HL.out)]
/-- Nothing that stays is held. -/
theorem wo_free {hd : Nd → Bool} : ∀ (f : Nat) (l : List Nd), (∀ x ∈ l, hd x = false) → ∀ n ∈ wo hd true f l, hd n = false
  | 0, _, _, n, hn => by cases hn
  | f + 1, [], _, n, hn => by cases hn
  | f + 1, x :: r, h, n, hn => by
    simp only [wo] at hn
    split at hn
    · next hc =>
      obtain rfl : n = ovl (x :: r) := by simpa using hn
      rcases hc with q | ⟨rfl, _⟩
      · exact q
      · rw [ovl_one]; exact h x (by simp)
    · split at hn
      · cases hn
      · rcases List.mem_append.1 hn with q | q
        · exact wo_free f _ (fun y hy => h y (List.mem_of_mem_take hy)) n q
        · exact wo_free f _ (fun y hy => h y (List.mem_of_mem_drop hy)) n q
theorem so_nil : so ([] : List Lf) = [] := List.length_eq_zero_iff.1 (so_len (so_uniq (ls := []) (fun x hx => by cases hx) (List.Perm.refl _) rfl).1)
/-- What stays has the old root, and with what is added the new one. -/
theorem ck_honest {X Y : List Lf} (hk : ∀ x ∈ X ++ Y, x.Ok) (ho : okl (X ++ Y)) : CKo (rt (so X)) (rt (so (X ++ Y))) (sty X Y) Y 0 ∧ apt (sty X Y) = true ∧ (so X ≠ [] → Cu (so X) (sty X Y)) ∧ (∀ n ∈ sty X Y, ∀ z ∈ Y, hl n z.p = false) := by
  obtain ⟨o1, o2, o3⟩ := okl_left hk ho
  have hk1 : ∀ x ∈ X, x.Ok := fun x hx => hk x (List.mem_append_left _ hx)
  have hk2 : ∀ x ∈ Y, x.Ok := fun x hx => hk x (List.mem_append_right _ hx)
  have a1 := so_apn hk1 o1
  have a2 := so_apn hk2 o2
  have hd := so_dis o1 o2 o3
  have h256 : ∀ x ∈ so X, x.n = 256 := fun x hx => (map_ok hk1 (so_spec o1).1 x hx).2.2
  have e0 : sty X Y = wo (anyH (so Y)) false (so X).length (so X) := st_wo 256 0 (so X) (so Y) _ rfl a1 a2 h256 (fun x _ z _ => shr_zero _ _) hd (Nat.le_refl _)
  have hno : ∀ x ∈ so X, anyH (so Y) x = false := fun x hx => by
    unfold anyH
    rw [List.any_eq_false]
    intro z hz e
    exact hd x hx z hz (shr_eq (a1.ok x hx).p (a2.ok z hz).p (hl_beg (k := 256) (Nat.le_refl _) (by rw [h256 x hx]; omega) e))
  rw [wo_noown _ _ hno] at e0
  have hcu : so X ≠ [] → Cu (so X) (sty X Y) := fun h => by rw [e0]; exact wo_cu _ _ _ (Nat.le_refl _) a1.ris h
  have hap : apt (sty X Y) = true ∧ rt (sty X Y) = rt (so X) := by
    by_cases h : so X = []
    · rw [e0, h, wo_nil]; exact ⟨rfl, rfl⟩
    · exact ⟨(cu_main (hcu h) a1).2.1.ap, rt_cu (hcu h) a1 h⟩
  have hall := so_apn hk ho
  have hperm : (so (X ++ Y)).Perm (so X ++ so Y) := (so_spec ho).1.trans (by rw [List.map_append]; exact ((so_spec o1).1.append (so_spec o2).1).symm)
  have hex : ∃ s : List Nd, s.Perm (sty X Y ++ Y.map ln) ∧ apt s = true ∧ rt s = rt (so (X ++ Y)) := by
    by_cases h : so (X ++ Y) = []
    · have h2 := hperm
      rw [h] at h2
      obtain ⟨q1, q2⟩ := List.append_eq_nil_iff.1 h2.symm.eq_nil
      have q3 : Y.map ln = [] := by have := (so_spec o2).1; rw [q2] at this; exact this.symm.eq_nil
      refine ⟨[], ?_, rfl, by rw [h]⟩
      rw [e0, q1, wo_nil, q3]
      exact List.Perm.refl _
    · obtain ⟨m, m1, m2⟩ := cu_st 256 0 (so X) (so Y) (so (X ++ Y)) rfl a1 a2 (fun x _ z _ => shr_zero _ _) hd hperm hall h
      refine ⟨m, m2.trans ?_, (cu_main m1 hall).2.1.ap, rt_cu m1 hall h⟩
      exact List.Perm.append_left _ (so_spec o2).1
  obtain ⟨s, s1, s2, s3⟩ := hex
  refine ⟨.inr (.inr ⟨hap.1, s, s1, s2, ?_⟩), hap.1, hcu, fun n hn z hz => ?_⟩
  · unfold smE; rw [hap.2, s3, if_pos ⟨rfl, rfl⟩]
  · rw [e0] at hn
    have := wo_free _ _ hno n hn
    unfold anyH at this
    rw [List.any_eq_false] at this
    have q := this (ln z) ((so_spec o2).1.mem_iff.2 (List.mem_map.2 ⟨z, hz, rfl⟩))
    have q' : hl n (ln z).p = false := by simpa using q
    exact q'
end Go.Proofs.YtpojalbpekbfdaaGreatDoor
/- The walk of GrowStays. -/
namespace Go.Proofs.YtpojalbpekbfdaaGreatDoor
open Go Go.RowKit
set_option linter.unusedSimpArgs false
set_option linter.unusedVariables false
set_option maxRecDepth 100000

theorem sty_fit {ls ms : List Lf} (hk : ∀ x ∈ ls ++ ms, x.Ok) (h : okl (ls ++ ms)) : (∀ x ∈ sty ls ms, x.Ok) ∧ (sty ls ms).length ≤ ls.length := by
  have hk1 : ∀ x ∈ ls, x.Ok := fun x hx => hk x (List.mem_append_left _ hx)
  obtain ⟨o1, o2, o3⟩ := okl_left hk h
  have := wo_fit (hd := fun n => (ms.map (·.p)).any (fun y => hl n y)) (own := false) (so ls).length (so ls) (so_rsn hk1 o1)
  rw [sty_wo hk h _ (Nat.le_refl _), so_len o1] at this
  exact this
end Go.Proofs.YtpojalbpekbfdaaGreatDoor
