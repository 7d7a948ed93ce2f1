/- Package json: values, and Parse. -/
import Derived.Test.YtefaohokmhdplaaDoorJsW
namespace Go.Proofs.YtefaohokmhdplaaDoor
open Go Go.RowKit
set_option linter.unusedSimpArgs false
set_option linter.unusedVariables false
set_option maxRecDepth 100000

theorem vp_out {g : Nat} {s : ByteArray} {d : Nat} {w w' : World} {p : Nat × Bool} {v : Value} {jv : JV} {e : Ending} (h : e = .returned (.tuple #[orNil p.2 v, .int .i64 (okE p.2)]) ∧ PB w' g s p.1 d ∧ Cg g w w') (hv : ∀ A W, VJ A W v jv) : VP g s d w (outOf p jv) e w' := by
  obtain ⟨j, b⟩ := p
  cases b with
  | true => exact ⟨_, h.1, h.2.1, h.2.2, hv _ _⟩
  | false => exact ⟨_, h.1, .inr rfl, ⟨_, h.2.1⟩, h.2.2⟩
theorem okE_ii (b : Bool) : okE b = 0 ∨ okE b = 2 := by cases b <;> simp [okE]
def TRUE : ByteArray := ⟨#[116, 114, 117, 101]⟩
def FALSE : ByteArray := ⟨#[102, 97, 108, 115, 101]⟩
def NULL : ByteArray := ⟨#[110, 117, 108, 108]⟩
theorem lets_true : lets TRUE = [116, 114, 117, 101] := by decide +kernel
theorem lets_false : lets FALSE = [102, 97, 108, 115, 101] := by decide +kernel
theorem lets_null : lets NULL = [110, 117, 108, 108] := by decide +kernel
theorem nz_of {t : ByteArray} {l : List Int} (h : lets t = l) (hl : ∀ c ∈ l, c ≠ 0) : ∀ k, k < t.size → gb t k ≠ 0 := fun k hk => by
  refine hl _ ?_
  rw [← h]; unfold lets cutb
  exact List.mem_map.2 ⟨k, List.mem_range.2 hk, by rw [Nat.zero_add]⟩
theorem nmb_no {s : ByteArray} {i : Nat} (h : gb s i ≠ 45) (hd : isDg (gb s i) = false) : nmb s i = (i, false) := by
  have h48 : gb s i ≠ 48 := fun e => by rw [e] at hd; exact absurd hd (by decide)
  unfold nmb; rw [if_neg h, nint_n h48 hd]
set_option maxHeartbeats 16000000 in
theorem value_walk {w : World} {g i d K : Nat} {s : ByteArray} {ev : Value} (h : PB w g s i d) (hi : i ≤ s.size) (hs : s.size ≤ 8192) (hv : EV w ev) (hg0 : g ≠ 0)
    (hO : gb s i = 123 → ∀ W, PB W g s i d → EV W ev → Calls Tryd.prog 68 #[.pointer (some ⟨g, 0, none⟩)] W fun e w' => VP g s d W (val s K i) e w')
    (hL : gb s i = 91 → ∀ W, PB W g s i d → EV W ev → Calls Tryd.prog 69 #[.pointer (some ⟨g, 0, none⟩)] W fun e w' => VP g s d W (val s K i) e w') :
    Calls Tryd.prog 53 #[.pointer (some ⟨g, 0, none⟩)] w fun e w' => VP g s d w (val s K i) e w' := by
  have HS : Hid (s.size ≤ 8192) := hs
  have H : Hid (PB w g s i d) := h
  have HV : Hid (EV w ev) := hv
  have wk : ∀ {n : Nat} {o : Out JV} {e : Ending} {w' : World}, VP g s d (w.drewN n) o e w' → VP g s d w o e w' := fun {n o e w'} hvp => by
    cases o with
    | ok jv j => obtain ⟨v, q1, q2, q3, q4⟩ := hvp; exact ⟨v, q1, q2, Chg.trans (Chg.drew (Chg.refl _ _) n) q3, q4⟩
    | bad j => obtain ⟨v, q1, q2, q3, q4⟩ := hvp; exact ⟨v, q1, q2, q3, Chg.trans (Chg.drew (Chg.refl _ _) n) q4⟩
    | big j => obtain ⟨v, q1, q2, q3, q4⟩ := hvp; exact ⟨v, q1, q2, q3, Chg.trans (Chg.drew (Chg.refl _ _) n) q4⟩
  have HW : Hid (∀ {n : Nat} {o : Out JV} {e : Ending} {w' : World}, VP g s d (w.drewN n) o e w' → VP g s d w o e w') := wk
  clear h hs hv wk
  by_cases e123 : gb s i = 123
  · have HO := fun n => hO e123 (w.drewN n) (H.out.drew n) (HV.out)
    clear hO hL
    go_enter Tryd.func53, Tryd.ntmps53
    go_wp2_with fail
    refine (next_any H.out hi HS.out).mono ?_
    rintro e W2 ⟨rfl, n2, rfl⟩
    go_wp2_with fail
    refine (HO n2).mono ?_
    intro e W3 hvp
    obtain ⟨v, c, rfl, -, -⟩ := VC.one hvp
    have HVP : Hid (VP g s d (w.drewN n2) (val s K i) (.returned (.tuple #[v, .int .i64 c])) W3) := hvp
    clear hvp
    go_wp2
    go_ret2
    exact HW.out HVP.out
  by_cases e91 : gb s i = 91
  · have HO := fun n => hL e91 (w.drewN n) (H.out.drew n) (HV.out)
    clear hO hL
    go_enter Tryd.func53, Tryd.ntmps53
    go_wp2_with fail
    refine (next_any H.out hi HS.out).mono ?_
    rintro e W2 ⟨rfl, n2, rfl⟩
    go_wp2_with fail
    refine (HO n2).mono ?_
    intro e W3 hvp
    obtain ⟨v, c, rfl, -, -⟩ := VC.one hvp
    have HVP : Hid (VP g s d (w.drewN n2) (val s K i) (.returned (.tuple #[v, .int .i64 c])) W3) := hvp
    clear hvp
    go_wp2
    go_ret2
    exact HW.out HVP.out
  clear hO hL
  by_cases e34 : gb s i = 34
  · have hlt := gb_lt (s := s) (i := i) (by omega)
    have HR : Hid (val s K i = if (tx s (i + 1) []).2 = true then .ok (.txt (sb (tx s (i + 1) []).1.1)) (tx s (i + 1) []).1.2 else .bad (tx s (i + 1) []).1.2) := by
      show _ = _; unfold val; rw [if_neg e123, if_neg e91, if_pos e34]
    go_enter Tryd.func53, Tryd.ntmps53
    go_wp2_with fail
    refine (next_any H.out hi HS.out).mono ?_
    rintro e W2 ⟨rfl, n2, rfl⟩
    go_wp2_with fail
    have HV2 : Hid (EV (w.drewN n2) ev) := HV.out
    refine (str_any (H.out.drew n2) hlt HS.out HV2.out hg0).mono ?_
    obtain ⟨⟨⟨xs, j⟩, ok⟩, hT⟩ : ∃ T, tx s (i + 1) [] = T := ⟨_, rfl⟩
    rw [hT] at HR ⊢
    rintro e W3 ⟨rfl, p, c⟩
    have HP3 : Hid (PB W3 g s j d) := p
    have HC3 : Hid (Cg g w W3) := Chg.trans (Chg.drew (Chg.refl _ _) n2) c
    clear p c hT
    cases ok with
    | false =>
      have HR2 : Hid (val s K i = .bad j) := HR.out
      obtain ⟨t, ht⟩ : ∃ t, stV ((xs, j), false) = .tuple #[.string t, .int .i64 2] := ⟨_, rfl⟩
      rw [ht]
      go_wp2
      go_ret2
      rw [HR2.out]
      exact ⟨_, rfl, .inl ⟨_, _, rfl⟩, ⟨_, HP3.out⟩, HC3.out⟩
    | true =>
      have HR2 : Hid (val s K i = .ok (.txt (sb xs)) j) := HR.out
      obtain ⟨t, ht⟩ : ∃ t, sb xs = t := ⟨_, rfl⟩
      rw [ht] at HR2
      have hst : stV ((xs, j), true) = .tuple #[.string t, .int .i64 0] := by rw [← ht]; rfl
      rw [hst]
      clear hst ht
      go_wp2
      go_ret2
      rw [HR2.out]
      exact ⟨_, rfl, HP3.out, HC3.out, .txt t⟩
  by_cases e116 : gb s i = 116
  · have HR : Hid (val s K i = outOf (wd s (lets TRUE) i) (.bool true)) := by
      show _ = _; rw [lets_true]; unfold val; rw [if_neg e123, if_neg e91, if_neg e34, if_pos e116]
    have HWD := fun n => word_any (H.out.drew n) hi HS.out TRUE (.iface 70 (.bool true)) (by decide) (nz_of lets_true (by decide))
    obtain ⟨⟨j, b⟩, hT⟩ : ∃ T, wd s (lets TRUE) i = T := ⟨_, rfl⟩
    rw [hT] at HR HWD
    go_enter Tryd.func53, Tryd.ntmps53
    go_wp2_with fail
    refine (next_any H.out hi HS.out).mono ?_
    rintro e W2 ⟨rfl, n2, rfl⟩
    go_wp2_with fail
    refine (HWD n2).mono ?_
    rintro e W3 ⟨rfl, p, c⟩
    have HP3 : Hid (PB W3 g s j d) := p
    have HC3 : Hid (Cg g w W3) := Chg.trans (Chg.drew (Chg.refl _ _) n2) c
    clear p c hT HWD
    go_wp2
    go_ret2
    rw [HR.out]
    exact vp_out ⟨rfl, HP3.out, HC3.out⟩ (fun A W => .bool true)
  by_cases e102 : gb s i = 102
  · have HR : Hid (val s K i = outOf (wd s (lets FALSE) i) (.bool false)) := by
      show _ = _; rw [lets_false]; unfold val; rw [if_neg e123, if_neg e91, if_neg e34, if_neg e116, if_pos e102]
    have HWD := fun n => word_any (H.out.drew n) hi HS.out FALSE (.iface 70 (.bool false)) (by decide) (nz_of lets_false (by decide))
    obtain ⟨⟨j, b⟩, hT⟩ : ∃ T, wd s (lets FALSE) i = T := ⟨_, rfl⟩
    rw [hT] at HR HWD
    go_enter Tryd.func53, Tryd.ntmps53
    go_wp2_with fail
    refine (next_any H.out hi HS.out).mono ?_
    rintro e W2 ⟨rfl, n2, rfl⟩
    go_wp2_with fail
    refine (HWD n2).mono ?_
    rintro e W3 ⟨rfl, p, c⟩
    have HP3 : Hid (PB W3 g s j d) := p
    have HC3 : Hid (Cg g w W3) := Chg.trans (Chg.drew (Chg.refl _ _) n2) c
    clear p c hT HWD
    go_wp2
    go_ret2
    rw [HR.out]
    exact vp_out ⟨rfl, HP3.out, HC3.out⟩ (fun A W => .bool false)
  by_cases e110 : gb s i = 110
  · have HR : Hid (val s K i = outOf (wd s (lets NULL) i) .null) := by
      show _ = _; rw [lets_null]; unfold val; rw [if_neg e123, if_neg e91, if_neg e34, if_neg e116, if_neg e102, if_pos e110]
    have HWD := fun n => word_any (H.out.drew n) hi HS.out NULL (.iface 68 (.agg #[])) (by decide) (nz_of lets_null (by decide))
    obtain ⟨⟨j, b⟩, hT⟩ : ∃ T, wd s (lets NULL) i = T := ⟨_, rfl⟩
    rw [hT] at HR HWD
    go_enter Tryd.func53, Tryd.ntmps53
    go_wp2_with fail
    refine (next_any H.out hi HS.out).mono ?_
    rintro e W2 ⟨rfl, n2, rfl⟩
    go_wp2_with fail
    refine (HWD n2).mono ?_
    rintro e W3 ⟨rfl, p, c⟩
    have HP3 : Hid (PB W3 g s j d) := p
    have HC3 : Hid (Cg g w W3) := Chg.trans (Chg.drew (Chg.refl _ _) n2) c
    clear p c hT HWD
    go_wp2
    go_ret2
    rw [HR.out]
    exact vp_out ⟨rfl, HP3.out, HC3.out⟩ (fun A W => .null)
  have HR : Hid (val s K i = outOf (nmb s i) (.num (piece s i (nmb s i).1))) := by
    show _ = _; unfold val; rw [if_neg e123, if_neg e91, if_neg e34, if_neg e116, if_neg e102, if_neg e110]
  have HN := fun n => number_any (H.out.drew n) hi HS.out
  cases hd : isDg (gb s i) with
  | true =>
    have HD : Hid (isDg (gb s i) = true) := hd
    have e45 : ¬ gb s i = 45 := fun e => by rw [e] at hd; exact absurd hd (by decide)
    obtain ⟨⟨j, b⟩, hT⟩ : ∃ T, nmb s i = T := ⟨_, rfl⟩
    rw [hT] at HR HN
    clear hd
    go_enter Tryd.func53, Tryd.ntmps53
    go_wp2_with fail
    refine (next_any H.out hi HS.out).mono ?_
    rintro e W2 ⟨rfl, n2, rfl⟩
    go_wp2_with fail
    refine (digit_any _ _).mono ?_
    rintro e W3 ⟨rfl, rfl⟩
    rw [HD.out]
    go_wp2_with fail
    refine (HN n2).mono ?_
    rintro e W4 ⟨rfl, p, c⟩
    have HP3 : Hid (PB W4 g s j d) := p
    have HC3 : Hid (Cg g w W4) := Chg.trans (Chg.drew (Chg.refl _ _) n2) c
    clear p c hT HN
    go_wp2
    go_ret2
    rw [HR.out]
    exact vp_out ⟨rfl, HP3.out, HC3.out⟩ (fun A W => .num _)
  | false =>
    by_cases e45 : gb s i = 45
    · obtain ⟨⟨j, b⟩, hT⟩ : ∃ T, nmb s i = T := ⟨_, rfl⟩
      rw [hT] at HR HN
      clear hd
      go_enter Tryd.func53, Tryd.ntmps53
      go_wp2_with fail
      refine (next_any H.out hi HS.out).mono ?_
      rintro e W2 ⟨rfl, n2, rfl⟩
      go_wp2_with fail
      refine (HN n2).mono ?_
      rintro e W4 ⟨rfl, p, c⟩
      have HP3 : Hid (PB W4 g s j d) := p
      have HC3 : Hid (Cg g w W4) := Chg.trans (Chg.drew (Chg.refl _ _) n2) c
      clear p c hT HN
      go_wp2
      go_ret2
      rw [HR.out]
      exact vp_out ⟨rfl, HP3.out, HC3.out⟩ (fun A W => .num _)
    · have HR2 : Hid (val s K i = .bad i) := by show _ = _; rw [HR.out, nmb_no e45 hd]; rfl
      have HD : Hid (isDg (gb s i) = false) := hd
      clear HR HN hd
      go_enter Tryd.func53, Tryd.ntmps53
      go_wp2_with fail
      refine (next_any H.out hi HS.out).mono ?_
      rintro e W2 ⟨rfl, n2, rfl⟩
      go_wp2_with fail
      refine (digit_any _ _).mono ?_
      rintro e W3 ⟨rfl, rfl⟩
      rw [HD.out]
      go_wp2
      go_ret2
      rw [HR2.out]
      exact ⟨_, rfl, .inr rfl, ⟨_, H.out.drew n2⟩, Chg.drew (Chg.refl _ _) n2⟩
theorem value_any {g : Nat} {s : ByteArray} {ev : Value} (hs : s.size ≤ 8192) (hg0 : g ≠ 0) : ∀ k, VC g s ev k := by
  intro k
  induction k with
  | zero =>
    intro w i d h hi hd hv
    obtain rfl : d = 16 := by omega
    refine value_walk h hi hs hv hg0 (fun e W hp hv => ?_) (fun e W hp hv => ?_)
    · rw [show val s 0 i = .big i by unfold val; rw [if_pos e]]
      exact obj_big hp
    · rw [show val s 0 i = .big i by unfold val; rw [if_neg (by omega), if_pos e]]
      exact list_big hp
  | succ k ih =>
    intro w i d h hi hd hv
    refine value_walk h hi hs hv hg0 (fun e W hp hv => ?_) (fun e W hp hv => ?_)
    · rw [show val s (k + 1) i = wrapO (open' s 125 (membr s (val s k)) i) by unfold val; rw [if_pos e]]
      exact obj_any hp (gb_lt (by omega)) hs hv hg0 (by omega) ih
    · rw [show val s (k + 1) i = wrapL (open' s 93 (fun _ => val s k) i) by unfold val; rw [if_neg (by omega), if_pos e]]
      exact list_any hp (gb_lt (by omega)) hs hv hg0 (by omega) ih
end Go.Proofs.YtefaohokmhdplaaDoor
/- Package json: Parse. -/
namespace Go.Proofs.YtefaohokmhdplaaDoor
open Go Go.RowKit
set_option linter.unusedSimpArgs false
set_option linter.unusedVariables false
set_option maxRecDepth 100000

/-- What the whole text's reading answers, the parser standing at the fault. -/
def AP (g : Nat) (s : ByteArray) (w : World) : Res → Ending → World → Prop
  | .val jv, e, w' => ∃ v j, e = .returned (.tuple #[v, .int .i64 0]) ∧ PB w' g s j 0 ∧ Cg g w w' ∧ VJ (fun b => w.heap.size ≤ b) w' v jv
  | .err j l, e, w' => e = .returned (.tuple #[.nilIface, .int .i64 (if l then 6 else 2)]) ∧ (∃ d', PB w' g s j d') ∧ Cg g w w'
/-- The whole text, but for its length. -/
def whole' (s : ByteArray) : Res := match val s 16 (sk s 0) with
    | .ok v j => if sk s j < s.size then .err (sk s j) false else .val v
    | .bad j => .err j false
    | .big j => .err j true
theorem Cg.drawn {g : Nat} {w w' : World} (h : Cg g w w') (n : Nat) : Cg g w (w'.drewN n) := Chg.drew h n
set_option maxHeartbeats 8000000 in
theorem all_any {w : World} {g : Nat} {s : ByteArray} {ev : Value} (h : PB w g s 0 0) (hs : s.size ≤ 8192) (hv : EV w ev) (hg0 : g ≠ 0) :
    Calls Tryd.prog 27 #[.pointer (some ⟨g, 0, none⟩)] w fun e w' => AP g s w (whole' s) e w' := by
  have HS : Hid (s.size ≤ 8192) := hs
  have H : Hid (PB w g s 0 0) := h
  have HV : Hid (EV w ev) := hv
  have HVC : Hid (VC g s ev 16) := value_any hs hg0 16
  obtain ⟨R, hR⟩ : ∃ R, whole' s = R := ⟨_, rfl⟩
  have HR : Hid ((match val s 16 (sk s 0) with
    | .ok v j => if sk s j < s.size then Res.err (sk s j) false else .val v
    | .bad j => .err j false
    | .big j => .err j true) = R) := hR
  rw [hR]
  clear h hs hv hR
  go_enter Tryd.func27, Tryd.ntmps27
  go_wp2_with fail
  refine (blanks_any H.out (Nat.zero_le _) HS.out).mono ?_
  rintro e W2 ⟨rfl, p, c⟩
  have hi := sk_le (s := s) (i := 0) (Nat.zero_le _)
  obtain ⟨i, hii⟩ : ∃ i, sk s 0 = i := ⟨_, rfl⟩
  rw [hii] at p hi HR
  have HP2 : Hid (PB W2 g s i 0) := p
  have HC2 : Hid (Cg g w W2) := c
  have HV2 : Hid (EV W2 ev) := HV.out.chg c hg0
  clear p c hii
  go_wp2_with fail
  refine (HVC.out W2 i 0 HP2.out hi rfl HV2.out).mono ?_
  intro e W3 hvp
  cases ho : val s 16 i with
  | bad j =>
    rw [ho] at hvp
    obtain ⟨v, rfl, h1, ⟨d', p⟩, c⟩ := hvp
    have HR2 : Hid (R = .err j false) := by show _ = _; rw [← HR.out, ho]
    have HC3 : Hid (Cg g w W3) := HC2.out.trans c
    have HP3 : Hid (PB W3 g s j d') := p
    clear p c h1
    go_wp2
    go_ret2
    rw [HR2.out]
    exact ⟨rfl, ⟨_, HP3.out⟩, HC3.out⟩
  | big j =>
    rw [ho] at hvp
    obtain ⟨v, rfl, h1, ⟨d', p⟩, c⟩ := hvp
    have HR2 : Hid (R = .err j true) := by show _ = _; rw [← HR.out, ho]
    have HC3 : Hid (Cg g w W3) := HC2.out.trans c
    have HP3 : Hid (PB W3 g s j d') := p
    clear p c h1
    go_wp2
    go_ret2
    rw [HR2.out]
    exact ⟨rfl, ⟨_, HP3.out⟩, HC3.out⟩
  | ok jv j =>
    rw [ho] at hvp
    obtain ⟨v, rfl, p, c, hvj⟩ := hvp
    have hin := val_in s 16 i hi
    rw [ho] at hin
    have HR2 : Hid (R = if sk s j < s.size then Res.err (sk s j) false else .val jv) := by show _ = _; rw [← HR.out, ho]
    have HC3 : Hid (Cg g w W3) := HC2.out.trans c
    have HP3 : Hid (PB W3 g s j 0) := p
    have HW23 : Hid (w.heap.size ≤ W2.heap.size) := HC2.out.size
    have HVJ : Hid (VJ (fun b => W2.heap.size ≤ b) W3 v jv) := hvj
    have hj := hin.2
    clear p c hin hvj ho HR
    go_wp2_with fail
    refine (blanks_any HP3.out hj HS.out).mono ?_
    rintro e W4 ⟨rfl, p, c⟩
    have hm := sk_le (s := s) (i := j) hj
    obtain ⟨m, hmm⟩ : ∃ m, sk s j = m := ⟨_, rfl⟩
    rw [hmm] at p hm HR2
    have HP4 : Hid (PB W4 g s m 0) := p
    have HC4 : Hid (Cg g w W4) := HC3.out.trans c
    have HVJ4 : Hid (VJ (fun b => w.heap.size ≤ b) W4 v jv) := HVJ.out.keep (fun b hb hlt => ⟨Nat.le_trans HW23.out hb, c.other b hlt (by have h1 : W2.heap.size ≤ b := hb; have := HP2.out.lt; omega)⟩) c.size
    obtain ⟨q0, q1, q2⟩ := HP4.out.cells
    clear p c hmm HVJ HP3 HC3
    by_cases hlt : m < s.size
    · have hlt' : (m : Int) < (s.size : Int) := by omega
      have HR3 : Hid (R = .err m false) := by show _ = _; rw [HR2.out, if_pos hlt]
      go_wp2
      go_quiet (fail)
      go_wp2
      go_ret2
      rw [HR3.out]
      exact ⟨rfl, ⟨_, HP4.out.drew _⟩, HC4.out.drawn _⟩
    · have hlt' : ¬ (m : Int) < (s.size : Int) := by omega
      have HR3 : Hid (R = .val jv) := by show _ = _; rw [HR2.out, if_neg hlt]
      go_wp2
      go_quiet (fail)
      go_wp2
      go_ret2
      rw [HR3.out]
      exact ⟨_, _, rfl, HP4.out.drew _, HC4.out.drawn _, HVJ4.out.keep (fun b hb hlt => ⟨hb, rfl⟩) (Nat.le_refl _)⟩
/-- What Parse answers. -/
def RP (w : World) : Res → Ending → World → Prop
  | .val jv, e, w' => ∃ v, e = .returned (.tuple #[v, .int .i64 0, .int .i64 0]) ∧ VJ (fun b => w.heap.size ≤ b) w' v jv ∧ Below w.heap.size w w'
  | .err j l, e, w' => e = .returned (.tuple #[.nilIface, .int .i64 (j : Int), .int .i64 (if l then 6 else 2)]) ∧ Below w.heap.size w w'
theorem out_cg {w w' : World} {o : Obj} (h : Cg w.heap.size (w.alloc o) w') : Below w.heap.size w w' :=
  ⟨h.os, h.tape, h.output, Nat.le_trans (by simp) h.size, fun b hb => (h.other b (by simp; omega) (by omega)).trans (heap_alloc_old _ _ hb)⟩
set_option maxHeartbeats 8000000 in
theorem parse_any {w : World} {s : ByteArray} {ev : Value} (hs : s.size ≤ 9223372036854775807) (hv : EV w ev) :
    Calls Tryd.prog 11 #[.string s] w fun e w' => RP w (whole s) e w' := by
  by_cases hl : 8192 < s.size
  · have hl' : (8192 : Int) < (s.size : Int) := by omega
    have HR : Hid (whole s = .err 0 true) := by show _ = _; unfold whole; rw [if_pos hl]
    go_enter Tryd.func11, Tryd.ntmps11
    go_wp2
    go_ret3
    rw [HR.out]
    exact ⟨rfl, Below.refl _ _⟩
  · have hl' : ¬ (8192 : Int) < (s.size : Int) := by omega
    have HR : Hid (whole s = whole' s) := by show _ = _; unfold whole; rw [if_neg hl]; rfl
    have hg0 : w.heap.size ≠ 0 := by have := Lib.lt_of_cell hv.1; intro e; rw [e] at this; exact absurd this (by decide)
    have HPB : Hid (PB (w.alloc (.cells #[.string s, .int .i64 0, .int .i64 0] 64)) w.heap.size s 0 0) := heap_alloc_new _ _
    have HEV : Hid (EV (w.alloc (.cells #[.string s, .int .i64 0, .int .i64 0] 64)) ev) := hv.below ((Below.refl _ _).alloc (Nat.le_refl _) _)
    have hA := @all_any (w.alloc (.cells #[.string s, .int .i64 0, .int .i64 0] 64)) w.heap.size s ev HPB.out (by omega) HEV.out hg0
    rw [HR.out]
    obtain ⟨R, hR⟩ : ∃ R, whole' s = R := ⟨_, rfl⟩
    rw [hR] at hA ⊢
    clear hR HR HEV HPB hv hs hl
    go_enter Tryd.func11, Tryd.ntmps11
    go_wp2_with fail
    refine hA.mono ?_
    intro e W2 hap
    cases R with
    | val jv =>
      obtain ⟨v, j, rfl, p, c, hvj⟩ := hap
      have HVJ : Hid (VJ (fun b => w.heap.size ≤ b) W2 v jv) := hvj.keep (fun b hb hlt => ⟨Nat.le_trans (by simp) hb, rfl⟩) (Nat.le_refl _)
      have HB : Hid (Below w.heap.size w W2) := out_cg c
      clear p c hvj hA
      go_wp2
      go_ret3
      exact ⟨_, rfl, HVJ.out, HB.out⟩
    | err j l =>
      obtain ⟨rfl, ⟨d', p⟩, c⟩ := hap
      have HB : Hid (Below w.heap.size w W2) := out_cg c
      obtain ⟨q0, q1, q2⟩ := p.cells
      clear p c hA
      cases l with
      | true =>
        simp only [if_true]
        go_wp2
        go_quiet (fail)
        go_wp2
        go_ret3
        exact ⟨rfl, below_drewN HB.out _⟩
      | false =>
        simp only [Bool.false_eq_true, if_false]
        go_wp2
        go_quiet (fail)
        go_wp2
        go_ret3
        exact ⟨rfl, below_drewN HB.out _⟩
end Go.Proofs.YtefaohokmhdplaaDoor
