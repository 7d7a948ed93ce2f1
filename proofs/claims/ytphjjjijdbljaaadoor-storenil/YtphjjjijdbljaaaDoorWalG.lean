/- Joining and splitting. -/
import Derived.Test.YtphjjjijdbljaaaDoorWalE
import Derived.Test.YtphjjjijdbljaaaDoorRgnD
namespace Go.Proofs.YtphjjjijdbljaaaDoor
open Go Go.RowKit
set_option linter.unusedSimpArgs false
set_option linter.unusedVariables false
set_option maxRecDepth 100000

/-- How many bytes the turn and the first k records take. -/
def js (xss : List (List Int)) : Nat → Nat
  | 0 => 8
  | k + 1 => js xss k + (8 + (mi xss k).length)
theorem js_mono (xss : List (List Int)) {j : Nat} : ∀ k, j ≤ k → js xss j ≤ js xss k
  | 0, h => by obtain rfl : j = 0 := by omega
               exact Nat.le_refl _
  | k + 1, h => by
    by_cases e : j = k + 1
    · subst e; exact Nat.le_refl _
    · have := js_mono xss k (show j ≤ k by omega); simp only [js]; omega
def JS (xss : List (List Int)) : Nat := js xss xss.length
theorem js_le (xss : List (List Int)) {k : Nat} (h : k ≤ xss.length) : js xss k ≤ JS xss := js_mono xss _ h
set_option maxHeartbeats 1000000 in
theorem joinedSize_any (xss : List (List Int)) (v : Value) (w : World) (hs : LL w v xss) (hn : xss.length ≤ 140737488355328) (hJ : JS xss ≤ 9000000000000000000) :
    Calls Tryd.prog 67 #[v] w fun e w' => e = .returned (.int .i64 (JS xss : Int)) ∧ w' = w := by
  obtain ⟨ad, cap, rfl, hc, hx⟩ := hs
  have HX : Hid _ := hx
  have HJ : Hid (∀ k, k ≤ xss.length → js xss k ≤ 9000000000000000000) := fun k hk => Nat.le_trans (js_le xss hk) hJ
  clear hx hc hJ
  go_enter Tryd.func67, Tryd.ntmps67
  go_wp2
  go_loop [3, 8] (fun s i => ∃ k : Nat, k ≤ xss.length ∧ i = .int .i64 k ∧ s = .int .i64 (js xss k)) (fun _ i => xss.length - (intOf i).toNat)
  case atStart => exact ⟨0, Nat.zero_le _, rfl, rfl⟩
  case round =>
    obtain ⟨k, hk, rfl, rfl⟩ := hrel
    by_cases hlt : k < xss.length
    · rcases HX.out with ⟨rfl, _⟩ | ⟨b, o, rfl, hlb, hm⟩
      · simp at hlt
      · obtain ⟨u, hc0, hu⟩ := hm k hlt
        obtain ⟨ad, cp, rfl, -, -⟩ := hu
        clear hm
        have HS : Hid (js xss (k + 1) = js xss k + (8 + (mi xss k).length)) := rfl
        have HB : js xss (k + 1) ≤ 9000000000000000000 := HJ.out (k + 1) hlt
        rw [HS.out] at HB
        obtain ⟨Z, hZ⟩ : ∃ Z, js xss k = Z := ⟨_, rfl⟩
        obtain ⟨L, hLL⟩ : ∃ L, (mi xss k).length = L := ⟨_, rfl⟩
        rw [hZ, hLL] at HS HB
        rw [hLL] at hc0
        rw [hZ]
        clear hZ hLL
        go_wp2
        go_round
        case rel => exact ⟨k + 1, by omega, by go_num, by rw [HS.out]; go_num⟩
        case measure => simp [intOf]; omega
    · obtain rfl : k = xss.length := by omega
      go_wp2
      go_ret
      exact ⟨rfl, rfl⟩
/-- The bytes of the turn and the first k records. -/
def jn (t : Int) (xss : List (List Int)) : Nat → List Int
  | 0 => be 8 t
  | k + 1 => (jn t xss k ++ be 8 ((mi xss k).length : Int)) ++ mi xss k
def JN (t : Int) (xss : List (List Int)) : List Int := jn t xss xss.length
theorem jn_length (t : Int) (xss : List (List Int)) : ∀ k, (jn t xss k).length = js xss k
  | 0 => be_length _ _
  | k + 1 => by simp only [jn, List.length_append, jn_length t xss k, be_length, js]; omega
def jφ (B : Nat) (V : Value) (J : Nat) (t : Int) : Nat → Value → World → Prop
  | 0, v, _ => v = V
  | 1, v, _ => v = .int .i64 (J : Int)
  | 2, v, W => Ow B W v [] ∧ B ≤ W.heap.size
  | 3, v, _ => v = .int .u64 t
  | 4, v, W => Ow B W v (be 8 t) ∧ B ≤ W.heap.size
  | 5, v, W => Ow B W v (be 8 t)
  | 6, v, W => Ow B W v (be 8 t)
  | _, _, _ => True
def jR (B : Nat) : Nat → World → World → Prop
  | 5, w, w' => Below B w w'
  | 6, w, w' => w' = w
  | _, w, w' => Below w.heap.size w w'
def jD : Nat → Nat
  | 2 => 5
  | 4 => 5
  | _ => 7
theorem jφ.stay {B : Nat} {V : Value} {J : Nat} {t : Int} : ∀ i j v w w', i ≠ j → jD i ≠ j → (i = 6 → j < 6 → False) → jφ B V J t i v w → jR B j w w' → jφ B V J t i v w' := by
  intro i j v w w' hij hd h6 h r
  match i with
  | 0 => exact h
  | 1 => exact h
  | 3 => exact h
  | 2 =>
    match j with
    | 5 => exact absurd rfl hd
    | 6 => cases r; exact h
    | 0 | 1 | 2 | 3 | 4 => exact ⟨h.1.below r, Nat.le_trans h.2 r.size⟩
    | j + 7 => exact ⟨h.1.below r, Nat.le_trans h.2 r.size⟩
  | 4 =>
    match j with
    | 5 => exact absurd rfl hd
    | 6 => cases r; exact h
    | 0 | 1 | 2 | 3 | 4 => exact ⟨h.1.below r, Nat.le_trans h.2 r.size⟩
    | j + 7 => exact ⟨h.1.below r, Nat.le_trans h.2 r.size⟩
  | 5 =>
    match j with
    | 5 => exact absurd rfl hij
    | 6 => cases r; exact h
    | 0 | 1 | 2 | 3 | 4 => exact Ow.below h r
    | j + 7 => exact Ow.below h r
  | 6 =>
    match j with
    | 0 | 1 | 2 | 3 | 4 | 5 => exact (h6 rfl (by decide)).elim
    | 6 => exact absurd rfl hij
    | j + 7 => exact Ow.below h r
  | i + 7 => trivial
theorem jR.trans {B : Nat} : ∀ i (w0 a b : World), B ≤ w0.heap.size → Below B w0 a → jR B i a b → Below B w0 b := by
  intro i w0 a b hB h r
  have hs := Nat.le_trans hB h.size
  match i with
  | 5 => exact h.trans r
  | 6 => cases r; exact h
  | 0 | 1 | 2 | 3 | 4 => exact h.trans (Below.mono r hs)
  | i + 7 => exact h.trans (Below.mono r hs)
set_option maxHeartbeats 1000000 in
theorem join_any (t : Int) (xss : List (List Int)) (v : Value) (w : World) (hs : LL w v xss) (hn : xss.length ≤ 140737488355328) (hJ : JS xss ≤ 140737488355328) (h0 : 0 ≤ t) (h1 : t < 18446744073709551616) :
    Calls Tryd.prog 68 #[.int .u64 t, v] w fun e w' => ∃ v', e = .returned v' ∧ Ow w.heap.size w' v' (JN t xss) ∧ Below w.heap.size w w' := by
  have HL : Hid (LL w v xss) := hs
  have HJ : Hid (JS xss ≤ 140737488355328) := hJ
  obtain ⟨ad, cap, rfl, hc, hx⟩ := hs
  have HX : Hid (xss = [] ∧ (ad = none → cap = 0) ∨ ∃ b o, ad = some ⟨b, o, none⟩ ∧ b < w.heap.size ∧ ∀ i, i < xss.length → ∃ u, w.cell? ⟨b, o + i, none⟩ = some u ∧ Sl w u (mi xss i)) := hx
  clear hx hc hJ
  go_enter Tryd.func68, Tryd.ntmps68
  go_wp2_with fail
  refine RD.wp_rgn (jφ w.heap.size (.slice ad xss.length cap) (JS xss) t) (fun a b => w.heap.size ≤ a.heap.size → Below w.heap.size a b) (jR w.heap.size) jD (fun _ => (Below.refl _ w).drew) (fun i a b c h r hB => jR.trans i a b c hB (h hB) r) (by kernel_rfl) (by decide) (by kernel_rfl) (by kernel_rfl) (fun i o u W ho hd h => ?_) (fun i j u W W' hij hD hp h r => jφ.stay i j u W W' hij hD (fun e hj => ?_) h r) ⟨?_, ?_, ?_, ?_, ?_, ?_, ?_, trivial⟩ ?_
  · rcases i with _ | _ | _ | _ | _ | _ | _ | i
    · cases ho; cases hd
    · cases ho; cases hd
    · cases ho; cases hd
    · cases ho; cases hd
    · cases ho; cases hd
    · cases ho; cases hd
    · cases ho; cases hd
    · simp at ho
  · subst e
    rcases j with _ | _ | _ | _ | _ | _ | j
    · exact absurd hp (by decide)
    · exact absurd hp (by decide)
    · exact absurd hp (by decide)
    · exact absurd hp (by decide)
    · exact absurd hp (by decide)
    · exact absurd hp (by decide)
    · omega
  · intro a W h2 h3 h4
    have e := h3 1 (by kernel_rfl)
    exact RD.ob_val rfl (RD.wanted_none rfl) (fun ev he hc => by have q := (he (.tmp 1)).trans e; simp only [List.getElem_toArray, List.getElem_cons_succ, List.getElem_cons_zero, execOp, Option.map_some, Option.map_none]; rw [q]; first | (go_simp; done) | (go_simp; rfl)) rfl (Below.refl _ _)
  · intro a W h2 h3 h4
    have e : a.eval (.tmp 8) = .slice ad xss.length cap := RD.hpD h4 0 8 (by kernel_rfl) (.inr (by decide))
    refine RD.ob_call (f := 67) (args := #[.slice ad xss.length cap]) rfl (RD.wanted_none rfl) (fun ev he hc => by have q := (he (.tmp 8)).trans e; simp only [List.getElem_toArray, List.getElem_cons_succ, List.getElem_cons_zero, execOp, Option.map_some, Option.map_none]; simp only [resolve, invoke, Sem.run_bind, Sem.run_pure, Result.andThen_ok, List.map_toArray, List.map_cons, List.map_nil, q]; first | (go_simp; done) | (go_simp; rfl)) ?_
    refine (joinedSize_any xss _ W (HL.out.below (h2 (Nat.le_refl _))) hn (by have := HJ.out; omega)).mono ?_
    rintro e w' ⟨rfl, rfl⟩
    exact ⟨_, rfl, rfl, Below.refl _ _⟩
  · intro a W h2 h3 h4
    have e : a.eval (.tmp 9) = .int .i64 (JS xss : Int) := RD.hpD h4 1 9 (by kernel_rfl) (.inr (by decide))
    refine RD.ob_list rfl (RD.wanted_none rfl) ?_
    refine make_u8 W rfl _ _ rfl .i64 .i64 (JS xss : Int) (JS xss) rfl e rfl HJ.out ?_
    intro w' o1 b1
    have hz := (h2 (Nat.le_refl _)).size
    exact ⟨_, rfl, ⟨o1.mono hz, Nat.le_trans hz b1.size⟩, b1⟩
  · intro a W h2 h3 h4
    have e := h3 0 (by kernel_rfl)
    exact RD.ob_val rfl (RD.wanted_none rfl) (fun ev he hc => by have q := (he (.tmp 0)).trans e; simp only [List.getElem_toArray, List.getElem_cons_succ, List.getElem_cons_zero, execOp, Option.map_some, Option.map_none]; rw [q]; first | (go_simp; done) | (go_simp; rfl)) rfl (Below.refl _ _)
  · intro a W h2 h3 h4
    have e : a.eval (.tmp 11) = .int .u64 t := RD.hpD h4 3 11 (by kernel_rfl) (.inr (by decide))
    refine RD.ob_call (f := 73) (args := #[.int .u64 t]) rfl (RD.wanted_none rfl) (fun ev he hc => by have q := (he (.tmp 11)).trans e; simp only [List.getElem_toArray, List.getElem_cons_succ, List.getElem_cons_zero, execOp, Option.map_some, Option.map_none]; simp only [resolve, invoke, Sem.run_bind, Sem.run_pure, Result.andThen_ok, List.map_toArray, List.map_cons, List.map_nil, q]; first | (go_simp; done) | (go_simp; rfl)) ?_
    refine (num_any t W h0 h1).mono ?_
    rintro e w' ⟨v', rfl, o1, b1⟩
    have hz := (h2 (Nat.le_refl _)).size
    exact ⟨_, rfl, ⟨o1.mono hz, Nat.le_trans hz b1.size⟩, b1⟩
  · intro a W h2 h3 h4
    have e2 : Ow w.heap.size W (a.eval (.tmp 10)) [] ∧ w.heap.size ≤ W.heap.size := RD.hpD h4 2 10 (by kernel_rfl) (.inl rfl)
    have e4 : Ow w.heap.size W (a.eval (.tmp 12)) (be 8 t) ∧ w.heap.size ≤ W.heap.size := RD.hpD h4 4 12 (by kernel_rfl) (.inl rfl)
    refine RD.ob_list rfl (RD.wanted_none rfl) ?_
    refine app_u8 (B0 := w.heap.size) rfl (.tmp 10) (.tmp 12) rfl e2.2 _ [] rfl e2.1 _ rfl (be 8 t) e4.1.sl (by simp [be_length]) ?_
    intro v' w' o1 g1 b1 e1
    rw [List.nil_append] at o1
    exact ⟨_, rfl, o1, b1⟩
  · intro a W h2 h3 h4
    have e5 : Ow w.heap.size W (a.eval (.tmp 13)) (be 8 t) := RD.hpD h4 5 13 (by kernel_rfl) (.inr (by decide))
    exact RD.ob_val (v := a.eval (.tmp 13)) rfl (RD.wanted_none rfl) (fun ev he hc => by have q := he (.tmp 13); simp only [List.getElem_toArray, List.getElem_cons_succ, List.getElem_cons_zero, execOp, Option.map_some, Option.map_none]; rw [q]; first | (go_simp; done) | (go_simp; rfl)) e5 rfl
  · intro a W h1 h2 h3 h4 h5
    have H5 : Hid (Ow w.heap.size W (a.eval (.tmp 5)) (be 8 t)) := h5 6 _ rfl (by decide)
    have HB : Hid (Below w.heap.size w W) := h3 (Nat.le_refl _)
    obtain ⟨v5, hv5⟩ : ∃ x, a.eval (.tmp 5) = x := ⟨_, rfl⟩
    obtain ⟨u8, hu8⟩ : ∃ x, a.eval (.tmp 8) = x := ⟨_, rfl⟩
    obtain ⟨u9, hu9⟩ : ∃ x, a.eval (.tmp 9) = x := ⟨_, rfl⟩
    obtain ⟨u10, hu10⟩ : ∃ x, a.eval (.tmp 10) = x := ⟨_, rfl⟩
    obtain ⟨u11, hu11⟩ : ∃ x, a.eval (.tmp 11) = x := ⟨_, rfl⟩
    obtain ⟨u12, hu12⟩ : ∃ x, a.eval (.tmp 12) = x := ⟨_, rfl⟩
    obtain ⟨u13, hu13⟩ : ∃ x, a.eval (.tmp 13) = x := ⟨_, rfl⟩
    rw [hv5] at H5
    have ha := RD.act_of (a := a) (l := [.int .u64 t, .slice ad xss.length cap, undef, undef, .slice none 0 0, v5, undef, undef, u8, u9, u10, u11, u12, u13, undef, undef, undef, undef, undef, undef, undef, undef, undef, undef, undef, undef, undef, undef, undef, undef, undef]) h1 h2 ⟨h4 0 (by kernel_rfl), h4 1 (by kernel_rfl), h4 2 (by kernel_rfl), h4 3 (by kernel_rfl), h4 4 (by kernel_rfl), hv5, h4 6 (by kernel_rfl), h4 7 (by kernel_rfl), hu8, hu9, hu10, hu11, hu12, hu13, h4 14 (by kernel_rfl), h4 15 (by kernel_rfl), h4 16 (by kernel_rfl), h4 17 (by kernel_rfl), h4 18 (by kernel_rfl), h4 19 (by kernel_rfl), h4 20 (by kernel_rfl), h4 21 (by kernel_rfl), h4 22 (by kernel_rfl), h4 23 (by kernel_rfl), h4 24 (by kernel_rfl), h4 25 (by kernel_rfl), h4 26 (by kernel_rfl), h4 27 (by kernel_rfl), h4 28 (by kernel_rfl), h4 29 (by kernel_rfl), h4 30 (by kernel_rfl), trivial⟩
    clear h5 h4 h3 hv5 hu8 hu9 hu10 hu11 hu12 hu13
    subst ha
    clear h1 h2
    go_wp2_with fail
    go_loopw [5, 16] (fun ov i wr => ∃ k : Nat, k ≤ xss.length ∧ i = .int .i64 (k : Int) ∧ Ow w.heap.size wr ov (jn t xss k) ∧ Below w.heap.size w wr) (fun _ i _ => xss.length - (intOf i).toNat)
    case atStart => exact ⟨0, Nat.zero_le _, rfl, H5.out, HB.out⟩
    case round =>
      obtain ⟨k, hk, rfl, h6, h7⟩ := hrel
      have H6 : Hid (Ow w.heap.size wr _ (jn t xss k)) := h6
      have H7 : Hid (Below w.heap.size w wr) := h7
      clear h6 h7 H5 HB
      by_cases hlt : k < xss.length
      · rcases HX.out with ⟨rfl, _⟩ | ⟨b, o, rfl, hlb, hm⟩
        · simp at hlt
        · obtain ⟨u, hc0, hu⟩ := hm k hlt
          have hc1 : wr.cell? ⟨b, o + k, none⟩ = some u := (H7.out.cell (p := ⟨b, o + k, none⟩) hlb).trans hc0
          have HU : Hid (Sl w u (mi xss k)) := hu
          have HM : Hid (js xss (k + 1) ≤ 140737488355328) := Nat.le_trans (js_le xss hlt) HJ.out
          obtain ⟨ad, cp, rfl, -, -⟩ := hu
          clear hm hc0
          obtain ⟨m, hmm⟩ : ∃ m, mi xss k = m := ⟨_, rfl⟩
          have EM : Hid (mi xss k = m) := hmm
          rw [hmm] at HU hc1
          have hml : m.length ≤ 140737488355328 := by have h := HM.out; simp only [js] at h; rw [hmm] at h; omega
          clear hmm
          go_wp2_with (first
            | (go_at_call 73; refine (num_any (m.length : Int) wr (by omega) (by omega)).mono ?_; rintro e w1 ⟨v1, rfl, o1, b1⟩; have O1 : Hid (Ow wr.heap.size w1 v1 (be 8 (m.length : Int))) := o1; have B1 : Hid (Below wr.heap.size wr w1) := b1; clear o1 b1)
            | (at_builtin; refine app_u8 (B0 := w.heap.size) rfl (.tmp 20) (.tmp 24) rfl (by have h1 := H7.out.size; have h2 := B1.out.size; omega) _ (jn t xss k) rfl (H6.out.below B1.out) _ rfl (be 8 (m.length : Int)) O1.out.sl (by rw [jn_length, be_length]; have h := HM.out; simp only [js] at h; omega) ?_; intro v2 w2 o2 g2 b2 e2; have O2 : Hid (Ow w.heap.size w2 v2 (jn t xss k ++ be 8 (m.length : Int))) := o2; have B2 : Hid (Below w.heap.size wr w2) := (B1.out.mono H7.out.size).trans b2; clear o2 g2 b2 e2)
            | (at_builtin; refine app_u8 (B0 := w.heap.size) rfl (.tmp 26) (.tmp 27) rfl (by have h1 := H7.out.size; have h2 := B2.out.size; omega) _ (jn t xss k ++ be 8 (m.length : Int)) rfl O2.out _ rfl m (HU.out.below (H7.out.trans B2.out) (Nat.le_refl _)) (by rw [List.length_append, jn_length, be_length]; have h := HM.out; simp only [js, EM.out] at h; omega) ?_; intro v3 w3 o3 g3 b3 e3; have O3 : Hid (Ow w.heap.size w3 v3 ((jn t xss k ++ be 8 (m.length : Int)) ++ m)) := o3; have B3 : Hid (Below w.heap.size wr w3) := B2.out.trans b3; clear o3 g3 b3 e3))
          exact ⟨⟨k + 1, hlt, by go_num, by have h := O3.out; simp only [jn, EM.out]; exact h, H7.out.trans B3.out⟩, by simp [intOf]; omega⟩
      · obtain rfl : k = xss.length := by omega
        go_wp2_with fail
        go_ret
        exact ⟨_, rfl, H6.out, H7.out⟩
end Go.Proofs.YtphjjjijdbljaaaDoor
