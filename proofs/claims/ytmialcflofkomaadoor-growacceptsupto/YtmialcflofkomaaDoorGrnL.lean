/- The law's apart and root. -/
import Derived.Test.YtmialcflofkomaaDoorTrtA
import Derived.Test.YtmialcflofkomaaDoorTrrL
namespace Go.Proofs.YtmialcflofkomaaDoor
open Go Go.RowKit
set_option linter.unusedSimpArgs false
set_option linter.unusedVariables false
set_option maxRecDepth 100000

/-- Those of the second list that have no label that stood ahead of them. -/
def apB (X acc : List Lf) (z : Lf) : List Lf := if (!iny X z.p && !iny acc z.p) = true then acc ++ [z] else acc
def apd (X ms : List Lf) : List Lf := ms.foldl (apB X) []
theorem dsA_in (acc : List Lf) (z : Lf) : dsA acc z = if (!iny acc z.p) = true then acc ++ [z] else acc := by unfold dsA; rw [iny_ds]
theorem apd_succ {X ms : List Lf} {k : Nat} {x : Lf} (hx : ms[k]? = some x) : apd X (ms.take (k + 1)) = apB X (apd X (ms.take k)) x := by
  obtain ⟨h, rfl⟩ := List.getElem?_eq_some_iff.1 hx
  unfold apd
  rw [List.take_succ_eq_append_getElem h, List.foldl_append]; rfl
theorem apd_inv (X : List Lf) : ∀ (ms acc : List Lf) (P : Lf → Prop), (∀ x ∈ acc, P x) → (∀ x ∈ ms, P x) → (∀ x ∈ ms.foldl (apB X) acc, P x)
  | [], acc, P, h, _ => h
  | a :: r, acc, P, h, h2 => by
    refine apd_inv X r (apB X acc a) P (fun x hx => ?_) (fun x hx => h2 x (List.mem_cons_of_mem _ hx))
    unfold apB at hx
    split at hx
    · rcases List.mem_append.1 hx with q | q
      · exact h x q
      · simp at q; subst q; exact h2 x (by simp)
    · exact h x hx
theorem apd_len (X : List Lf) : ∀ (ms acc : List Lf), (ms.foldl (apB X) acc).length ≤ acc.length + ms.length
  | [], acc => by simp
  | a :: r, acc => by
    have := apd_len X r (apB X acc a)
    have h2 : (apB X acc a).length ≤ acc.length + 1 := by unfold apB; split <;> simp
    simp only [List.foldl_cons, List.length_cons]; omega
theorem iny_no {l : List Lf} {y : List Int} (h : iny l y = false) : ∀ x ∈ l, x.p ≠ y := fun x hx e => by
  have := List.any_eq_false.1 h x hx
  simp [e] at this
theorem apd_pair (X : List Lf) : ∀ (ms acc : List Lf), (X ++ acc).Pairwise (fun a b => a.p ≠ b.p) → (X ++ ms.foldl (apB X) acc).Pairwise (fun a b => a.p ≠ b.p)
  | [], acc, h => h
  | a :: r, acc, h => by
    refine apd_pair X r (apB X acc a) ?_
    unfold apB
    split
    · next hn =>
      rw [Bool.and_eq_true] at hn
      rw [← List.append_assoc]
      refine List.pairwise_append.2 ⟨h, List.pairwise_singleton _ _, fun x hx y hy => ?_⟩
      simp at hy; subst hy
      rcases List.mem_append.1 hx with q | q
      · exact iny_no (by simpa using hn.1) x q
      · exact iny_no (by simpa using hn.2) x q
    · exact h
theorem apartL_ok {ls ms : List Lf} (hk1 : ∀ x ∈ ls, x.Ok) (hk2 : ∀ x ∈ ms, x.Ok) : (∀ x ∈ dst ls ++ apd (dst ls) ms, x.Ok) ∧ okl (dst ls ++ apd (dst ls) ms) := by
  have h1 : ∀ x ∈ dst ls ++ apd (dst ls) ms, x.Ok := fun x hx => by
    rcases List.mem_append.1 hx with q | q
    · exact dst_ok hk1 x q
    · exact apd_inv (dst ls) ms [] _ (fun x hx => by cases hx) hk2 x q
  exact ⟨h1, okl_of_ne h1 (apd_pair (dst ls) ms [] (by rw [List.append_nil]; exact dst_pair ls [] List.Pairwise.nil))⟩
theorem apartL_len (ls ms : List Lf) : (dst ls).length ≤ ls.length ∧ (apd (dst ls) ms).length ≤ ms.length := by
  have h1 := dst_len ls []
  have h2 := apd_len (dst ls) ms []
  simp only [List.length_nil, Nat.zero_add] at h1 h2
  exact ⟨h1, h2⟩
set_option maxHeartbeats 8000000 in
theorem apartL_any (ls ms : List Lf) (hk1 : ∀ x ∈ ls, x.Ok) (hk2 : ∀ x ∈ ms, x.Ok) (hlen : ls.length + ms.length ≤ 2400000000000) (v u : Value) (w : World) (hv : LS w v ls) (hu : LS w u ms) :
    Calls Tryd.prog 18 #[v, u] w fun e w' => ∃ v1 v2, e = .returned (.tuple #[v1, v2]) ∧ LS w' v1 (dst ls) ∧ LS w' v2 (apd (dst ls) ms) ∧ Below w.heap.size w w' := by
  have HK1 : Hid (∀ x ∈ ls, x.Ok) := hk1
  have HK2 : Hid (∀ x ∈ ms, x.Ok) := hk2
  have HIN : Hid (∀ (l : List Lf) (y : List Int) (v : Value) (W : World), (∀ x ∈ l, x.Ok) → l.length ≤ 140737488355328 → L32 y → LS W v l → Calls Tryd.prog 37 #[v, .agg (bv y).toArray] W fun e w' => e = .returned (.bool (iny l y)) ∧ Below W.heap.size W w') := fun l y v W h1 h2 h3 h4 => in_any l h1 h2 y h3 v W h4
  have HDL : Hid (∀ k, (dst (ls.take k)).length ≤ 2400000000000) := fun k => by
    have := dst_len (ls.take k) []
    rw [List.length_take] at this
    show (dst (ls.take k)).length ≤ _
    unfold dst; simp only [List.length_nil] at this; omega
  have HDO : Hid (∀ k, ∀ x ∈ dst (ls.take k), x.Ok) := fun k => dst_ok (fun x hx => hk1 x (List.mem_of_mem_take hx))
  have HAL : Hid (∀ X k, (apd X (ms.take k)).length ≤ 2400000000000) := fun X k => by
    have := apd_len X (ms.take k) []
    rw [List.length_take] at this
    show (apd X (ms.take k)).length ≤ _
    unfold apd; simp only [List.length_nil] at this; omega
  have HAO : Hid (∀ X k, ∀ x ∈ apd X (ms.take k), x.Ok) := fun X k => apd_inv X (ms.take k) [] _ (fun x hx => by cases hx) (fun x hx => hk2 x (List.mem_of_mem_take hx))
  obtain ⟨ad, cap, hv0, -, hx0⟩ := id hv
  obtain ⟨au, cu, hu0, -, hxu⟩ := id hu
  obtain ⟨n, hn⟩ : ∃ n, ls.length = n := ⟨_, rfl⟩
  obtain ⟨m, hm⟩ : ∃ n, ms.length = n := ⟨_, rfl⟩
  have HN : Hid (ls.length = n) := hn
  have HM : Hid (ms.length = m) := hm
  rw [hn] at hv0
  rw [hm] at hu0
  subst hv0
  subst hu0
  have hn9 : n ≤ 2400000000000 := by omega
  have hm9 : m ≤ 2400000000000 := by omega
  have HX : Hid ((ls = [] ∧ (ad = none → cap = 0)) ∨ ∃ b o, ad = some ⟨b, o, none⟩ ∧ b < w.heap.size ∧ ∀ (i : Nat) (x : Lf), ls[i]? = some x → w.rangeAt b (o + i * 64) (lfc x)) := hx0
  have HXU : Hid ((ms = [] ∧ (au = none → cu = 0)) ∨ ∃ b o, au = some ⟨b, o, none⟩ ∧ b < w.heap.size ∧ ∀ (i : Nat) (x : Lf), ms[i]? = some x → w.rangeAt b (o + i * 64) (lfc x)) := hxu
  obtain ⟨X, hX⟩ : ∃ X, dst ls = X := ⟨_, rfl⟩
  have HXE : Hid (dst ls = X) := hX
  rw [hX]
  clear hk1 hk2 hlen hv hu hx0 hxu hn hm hX
  go_enter Tryd.func18, Tryd.ntmps18
  go_wp2_with fail
  go_loopw [6, 12] (fun xv i wr => ∃ k : Nat, k ≤ n ∧ i = .int .i64 (k : Int) ∧ LO w.heap.size wr xv (dst (ls.take k)) ∧ Below w.heap.size w wr) (fun _ i _ => n - (intOf i).toNat)
  case atStart => exact ⟨0, Nat.zero_le _, rfl, LO.nil' (Nat.le_refl _), Below.refl _ _⟩
  case round =>
    obtain ⟨k, hkn, rfl, q1, q2⟩ := hrel
    have O1 : Hid (LO w.heap.size wr u6 (dst (ls.take k))) := q1
    have B1 : Hid (Below w.heap.size w wr) := q2
    clear q1 q2
    by_cases hlt : k < n
    · have HLT : Hid (k < n) := hlt
      obtain ⟨x, hx⟩ : ∃ x, ls[k]? = some x := ⟨ls[k]'(by rw [HN.out]; exact hlt), List.getElem?_eq_getElem _⟩
      have HXO : Hid x.Ok := HK1.out x (List.mem_of_getElem? hx)
      rcases HX.out with ⟨h0, _⟩ | ⟨b, o, rfl, hlb, hmm⟩
      · rw [h0] at hx; simp at hx
      · have RX : Hid (wr.rangeAt b (o + k * 64) (lfc x)) := range_below (hmm k x hx) B1.out hlb
        have LX : Hid (b < wr.heap.size) := Nat.lt_of_lt_of_le hlb B1.out.size
        obtain ⟨px, hpx⟩ : ∃ p, x.p = p := ⟨_, rfl⟩
        have HPX : Hid (L32 px) := by rw [← hpx]; exact HXO.out.p
        have RP : Hid (wr.rangeAt b (o + k * 64) (bv px)) := by rw [← hpx]; exact lf_p RX.out
        obtain ⟨g, hg⟩ : ∃ g, iny (dst (ls.take k)) px = g := ⟨_, rfl⟩
        have HI := HIN.out (dst (ls.take k)) px u6 wr (HDO.out k) (by have := HDL.out k; omega) HPX.out O1.out.ls
        rw [hg] at HI
        have HII : Hid (Calls Tryd.prog 37 #[u6, .agg (bv px).toArray] wr fun e w' => e = .returned (.bool g) ∧ Below wr.heap.size wr w') := HI
        have HD1 : Hid (dst (ls.take (k + 1)) = if (!g) = true then dst (ls.take k) ++ [x] else dst (ls.take k)) := by
          show dst (ls.take (k + 1)) = _
          rw [dst_succ hx, dsA_in, hpx, hg]
        have HSZ : Hid ((dst (ls.take k)).length + [x].length ≤ 3000000000000) := by show _ ≤ _; have := HDL.out k; simp only [List.length_cons, List.length_nil]; omega
        obtain ⟨Dk, hDk⟩ : ∃ D, dst (ls.take k) = D := ⟨_, rfl⟩
        rw [hDk] at O1 HD1 HSZ
        clear hmm hlb hx hpx hg HI hDk
        cases g with
        | true =>
          go_wp2_with (first
            | (refine wpList_load_mid rfl 31 (.tmp 19) rfl b (o + k * 64) rfl (bv px) _ RP.out Tryd.underlying31 rfl (size_l32 HPX.out) ?_)
            | (go_at_call 37; refine HII.out.mono ?_; rintro e w2 ⟨rfl, g1⟩; have G2 : Hid (Below wr.heap.size wr w2) := g1; clear g1))
          exact ⟨⟨k + 1, HLT.out, by go_num, by rw [HD1.out, if_neg (by decide)]; exact O1.out.below G2.out, Below.tr' B1.out G2.out⟩, by have := HLT.out; simp [intOf]; omega⟩
        | false =>
          go_wp2_with (first
            | (refine wpList_load_mid rfl 31 (.tmp 19) rfl b (o + k * 64) rfl (bv px) _ RP.out Tryd.underlying31 rfl (size_l32 HPX.out) ?_)
            | (go_at_call 37; refine HII.out.mono ?_; rintro e w2 ⟨rfl, g1⟩; have G2 : Hid (Below wr.heap.size wr w2) := g1; have RX2 : Hid (w2.rangeAt b (o + k * 64) (lfc x)) := range_below RX.out g1 LX.out; clear g1)
            | (refine wpList_load_mid rfl 46 (.tmp 26) rfl b (o + k * 64) rfl (lfc x) _ RX2.out Tryd.underlying46 rfl (size_lfc HXO.out) ?_)
            | (refine wpList_onel rfl (.tmp 27) rfl x HXO.out rfl ?_)
            | (at_builtin; refine wp_appl rfl (.tmp 23) (.tmp 28) rfl rfl w.heap.size u6 (.slice (some ⟨w2.heap.size, 0, none⟩) 1 1) Dk [x] rfl rfl ((O1.out.below G2.out).alloc _) (fun z hz => by simp at hz; subst hz; exact HXO.out) (ls_one w2 x _) HSZ.out ?_; intro v3 w3 g1 g2; have O3 : Hid (LO w.heap.size w3 v3 (Dk ++ [x])) := g1; have B3 : Hid (Below w.heap.size w w3) := ((Below.tr' B1.out G2.out).alloc (Nat.le_trans B1.out.size G2.out.size) _).trans g2; clear g1 g2))
          exact ⟨⟨k + 1, HLT.out, by go_num, by rw [HD1.out, if_pos (by decide)]; exact O3.out, B3.out⟩, by have := HLT.out; simp [intOf]; omega⟩
    · obtain rfl : k = n := by omega
      have eT : ls.take k = ls := by rw [← HN.out]; exact List.take_length
      have hX := HXE.out
      have OX : Hid (LS wr u6 X) := by have := O1.out.ls; rw [eT, hX] at this; exact this
      have HXK : Hid (∀ x ∈ X, x.Ok) := by have := HDO.out k; rw [eT, hX] at this; exact this
      have HXL : Hid (X.length ≤ 2400000000000) := by have := HDL.out k; rw [eT, hX] at this; exact this
      obtain ⟨W1, hW1⟩ : ∃ W, wr = W := ⟨_, rfl⟩
      rw [hW1] at OX B1
      clear eT hX
      go_wp2_with fail
      try rw [hW1]
      clear hW1
      go_loopw [7, 33] (fun yv i wx => ∃ j : Nat, j ≤ m ∧ i = .int .i64 (j : Int) ∧ LO W1.heap.size wx yv (apd X (ms.take j)) ∧ Below W1.heap.size W1 wx) (fun _ i _ => m - (intOf i).toNat)
      case atStart => exact ⟨0, Nat.zero_le _, rfl, LO.nil' (Nat.le_refl _), Below.refl _ _⟩
      case round =>
        obtain ⟨j, hjm, rfl, q1, q2⟩ := hrel
        have O2 : Hid (LO W1.heap.size wr u7 (apd X (ms.take j))) := q1
        have B2 : Hid (Below W1.heap.size W1 wr) := q2
        clear q1 q2
        by_cases hlt : j < m
        · have HLT : Hid (j < m) := hlt
          obtain ⟨x, hx⟩ : ∃ x, ms[j]? = some x := ⟨ms[j]'(by rw [HM.out]; exact hlt), List.getElem?_eq_getElem _⟩
          have HXO : Hid x.Ok := HK2.out x (List.mem_of_getElem? hx)
          rcases HXU.out with ⟨h0, _⟩ | ⟨b, o, rfl, hlb, hmm⟩
          · rw [h0] at hx; simp at hx
          · have C2 : Hid (Below w.heap.size w wr) := Below.tr' B1.out B2.out
            have RX : Hid (wr.rangeAt b (o + j * 64) (lfc x)) := range_below (hmm j x hx) C2.out hlb
            have LX : Hid (b < wr.heap.size) := Nat.lt_of_lt_of_le hlb C2.out.size
            obtain ⟨px, hpx⟩ : ∃ p, x.p = p := ⟨_, rfl⟩
            have HPX : Hid (L32 px) := by rw [← hpx]; exact HXO.out.p
            have RP : Hid (wr.rangeAt b (o + j * 64) (bv px)) := by rw [← hpx]; exact lf_p RX.out
            obtain ⟨g, hg⟩ : ∃ g, iny X px = g := ⟨_, rfl⟩
            obtain ⟨g', hg'⟩ : ∃ g, iny (apd X (ms.take j)) px = g := ⟨_, rfl⟩
            have HI := HIN.out X px u6 wr HXK.out (by have := HXL.out; omega) HPX.out (OX.out.below B2.out)
            rw [hg] at HI
            have HII : Hid (Calls Tryd.prog 37 #[u6, .agg (bv px).toArray] wr fun e w' => e = .returned (.bool g) ∧ Below wr.heap.size wr w') := HI
            have HJJ : Hid (∀ W : World, Below wr.heap.size wr W → Calls Tryd.prog 37 #[u7, .agg (bv px).toArray] W fun e w' => e = .returned (.bool g') ∧ Below W.heap.size W w') := fun W q => by
              have := HIN.out (apd X (ms.take j)) px u7 W (HAO.out X j) (by have := HAL.out X j; omega) HPX.out (O2.out.ls.below q)
              rw [hg'] at this; exact this
            have HD1 : Hid (apd X (ms.take (j + 1)) = if (!g && !g') = true then apd X (ms.take j) ++ [x] else apd X (ms.take j)) := by
              show apd X (ms.take (j + 1)) = _
              rw [apd_succ hx]; unfold apB; rw [hpx, hg, hg']
            have HSZ : Hid ((apd X (ms.take j)).length + [x].length ≤ 3000000000000) := by show _ ≤ _; have := HAL.out X j; simp only [List.length_cons, List.length_nil]; omega
            obtain ⟨Dk, hDk⟩ : ∃ D, apd X (ms.take j) = D := ⟨_, rfl⟩
            rw [hDk] at O2 HD1 HSZ
            clear hmm hlb hx hpx hg hg' HI hDk
            cases g with
            | true =>
              go_wp2_with (first
                | (refine wpList_load_mid rfl 31 (.tmp 40) rfl b (o + j * 64) rfl (bv px) _ RP.out Tryd.underlying31 rfl (size_l32 HPX.out) ?_)
                | (go_at_call 37; refine HII.out.mono ?_; rintro e w2 ⟨rfl, g1⟩; have G2 : Hid (Below wr.heap.size wr w2) := g1; clear g1))
              exact ⟨⟨j + 1, HLT.out, by go_num, by rw [HD1.out, if_neg (by simp)]; exact O2.out.below G2.out, Below.tr' B2.out G2.out⟩, by have := HLT.out; simp [intOf]; omega⟩
            | false =>
              cases g' with
              | true =>
                go_wp2_with (first
                  | (refine wpList_load_mid rfl 31 (.tmp 40) rfl b (o + j * 64) rfl (bv px) _ RP.out Tryd.underlying31 rfl (size_l32 HPX.out) ?_)
                  | (refine ld 31 (.tmp 49) rfl rfl b (o + j * 64) rfl (bv px) _ (range_below RP.out G2.out LX.out) Tryd.underlying31 rfl (size_l32 HPX.out) ?_)
                  | (go_at_call 37; refine (HJJ.out w2 G2.out).mono ?_; rintro e w3 ⟨rfl, g1⟩; have G3 : Hid (Below wr.heap.size wr w3) := Below.tr' G2.out g1; clear g1)
                  | (go_at_call 37; refine HII.out.mono ?_; rintro e w2 ⟨rfl, g1⟩; have G2 : Hid (Below wr.heap.size wr w2) := g1; clear g1))
                exact ⟨⟨j + 1, HLT.out, by go_num, by rw [HD1.out, if_neg (by simp)]; exact O2.out.below G3.out, Below.tr' B2.out G3.out⟩, by have := HLT.out; simp [intOf]; omega⟩
              | false =>
                go_wp2_with (first
                  | (refine wpList_load_mid rfl 31 (.tmp 40) rfl b (o + j * 64) rfl (bv px) _ RP.out Tryd.underlying31 rfl (size_l32 HPX.out) ?_)
                  | (refine ld 31 (.tmp 49) rfl rfl b (o + j * 64) rfl (bv px) _ (range_below RP.out G2.out LX.out) Tryd.underlying31 rfl (size_l32 HPX.out) ?_)
                  | (go_at_call 37; refine (HJJ.out w2 G2.out).mono ?_; rintro e w3 ⟨rfl, g1⟩; have G3 : Hid (Below wr.heap.size wr w3) := Below.tr' G2.out g1; clear g1)
                  | (go_at_call 37; refine HII.out.mono ?_; rintro e w2 ⟨rfl, g1⟩; have G2 : Hid (Below wr.heap.size wr w2) := g1; clear g1)
                  | (refine wpList_load_mid rfl 46 (.tmp 57) rfl b (o + j * 64) rfl (lfc x) _ (range_below RX.out G3.out LX.out) Tryd.underlying46 rfl (size_lfc HXO.out) ?_)
                  | (refine wpList_onel rfl (.tmp 58) rfl x HXO.out rfl ?_)
                  | (at_builtin; refine wp_appl rfl (.tmp 54) (.tmp 59) rfl rfl W1.heap.size u7 (.slice (some ⟨w3.heap.size, 0, none⟩) 1 1) Dk [x] rfl rfl ((O2.out.below G3.out).alloc _) (fun z hz => by simp at hz; subst hz; exact HXO.out) (ls_one w3 x _) HSZ.out ?_; intro v4 w4 g1 g2; have O4 : Hid (LO W1.heap.size w4 v4 (Dk ++ [x])) := g1; have B4 : Hid (Below W1.heap.size W1 w4) := ((Below.tr' B2.out G3.out).alloc (Nat.le_trans B2.out.size G3.out.size) _).trans g2; clear g1 g2))
                exact ⟨⟨j + 1, HLT.out, by go_num, by rw [HD1.out, if_pos (by decide)]; exact O4.out, B4.out⟩, by have := HLT.out; simp [intOf]; omega⟩
        · obtain rfl : j = m := by omega
          have eT : ms.take j = ms := by rw [← HM.out]; exact List.take_length
          have OY : Hid (LS wr u7 (apd X ms)) := by have := O2.out.ls; rw [eT] at this; exact this
          clear eT
          go_wp2_with fail
          go_ret2
          exact ⟨_, _, rfl, OX.out.below B2.out, OY.out, Below.tr' B1.out B2.out⟩
end Go.Proofs.YtmialcflofkomaaDoor
