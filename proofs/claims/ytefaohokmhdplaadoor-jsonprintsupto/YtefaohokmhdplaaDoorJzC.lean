/- A well-made value's text is parsed to the value. -/
import Derived.Test.YtefaohokmhdplaaDoorJzB
import Derived.Test.YtefaohokmhdplaaDoorJxI
namespace Go.Proofs.YtefaohokmhdplaaDoor
open Go Go.RowKit
set_option linter.unusedSimpArgs false
set_option linter.unusedVariables false

mutual
/-- A value's text. -/
def pj : JV → List Int
  | .null => [110, 117, 108, 108]
  | .bool b => bt b
  | .num t => nb t
  | .txt t => qt t
  | .lst l => [91] ++ (cm (pjl l) ++ [93])
  | .obj l => [123] ++ (cm (pjo l) ++ [125])
def pjl : List JV → List (List Int)
  | [] => []
  | x :: r => pj x :: pjl r
def pjo : List (ByteArray × JV) → List (List Int)
  | [] => []
  | (k, x) :: r => (qt k ++ ([58] ++ pj x)) :: pjo r
end
def pm (m : ByteArray × JV) : List Int := qt m.1 ++ ([58] ++ pj m.2)
theorem pjl_map (l : List JV) : pjl l = l.map pj := by
  induction l with
  | nil => rfl
  | cons x r ih => simp only [pjl, List.map_cons, ih]
theorem pjo_map (l : List (ByteArray × JV)) : pjo l = l.map pm := by
  induction l with
  | nil => rfl
  | cons x r ih => obtain ⟨k, x⟩ := x; simp only [pjo, List.map_cons, ih, pm]
/-- No key twice. -/
def Dk (l : List (ByteArray × JV)) : Prop := ∀ (a1 : List (ByteArray × JV)) (m : ByteArray × JV) (r1 : List (ByteArray × JV)), l = a1 ++ m :: r1 → a1.any (fun x => x.1.data.toList == m.1.data.toList) = false
/-- A value that can be told apart by its text; at most k lists and objects deep. -/
inductive WM : Nat → JV → Prop
  | null (k : Nat) : WM k .null
  | bool (k : Nat) (b : Bool) : WM k (.bool b)
  | num (k : Nat) (t : ByteArray) (h : NU t) : WM k (.num t)
  | txt (k : Nat) (t : ByteArray) (h : UV (nb t)) : WM k (.txt t)
  | lst (k : Nat) (l : List JV) (h : ∀ x ∈ l, WM k x) : WM (k + 1) (.lst l)
  | obj (k : Nat) (l : List (ByteArray × JV)) (h : ∀ m ∈ l, WM k m.2) (hk : ∀ m ∈ l, UV (nb m.1)) (hd : Dk l) : WM (k + 1) (.obj l)
/-- A byte that no blank, comma or end is. -/
def fst (c : Int) : Prop := c = 34 ∨ c = 45 ∨ isDg c = true ∨ c = 91 ∨ c = 102 ∨ c = 110 ∨ c = 116 ∨ c = 123
theorem fst_bl {c : Int} (h : fst c) : isBl c = false := by
  unfold fst isDg at h; simp only [decide_eq_true_eq] at h; unfold isBl; exact decide_eq_false (by omega)
theorem fst_ne {c : Int} (h : fst c) : c ≠ 93 ∧ c ≠ 125 := by
  unfold fst isDg at h; simp only [decide_eq_true_eq] at h; omega
theorem stp_bl {c : Int} (h : stp c) : isBl c = false := by unfold stp at h; unfold isBl; exact decide_eq_false (by omega)
section
variable {α : Type} {S : ByteArray} {en : Int} {E : List α → Nat → Out α} {pt : α → List Int} {L : List α}
/-- The parts, one behind the other. -/
theorem parts_rt (hen : en = 93 ∨ en = 125)
    (hE : ∀ (a1 : List α) (x : α) (r1 : List α), L = a1 ++ x :: r1 → ∀ q, At S q (pt x) → stp (gb S (q + (pt x).length)) → E a1 q = .ok x (q + (pt x).length))
    (hF : ∀ x ∈ L, ∀ q, At S q (pt x) → stp (gb S (q + (pt x).length)) → fst (gb S q)) :
    ∀ (r1 : List α) (a1 : List α) (x : α) (f q : Nat), L = a1 ++ x :: r1 → At S q (pt x ++ (ctl (r1.map pt) ++ [en])) → r1.length < f → parts S en E f a1 q = .ok L (q + (pt x).length + (ctl (r1.map pt)).length + 1)
  | [], a1, x, 0, q, hL, h, hf => absurd hf (Nat.not_lt_zero _)
  | _ :: _, a1, x, 0, q, hL, h, hf => absurd hf (Nat.not_lt_zero _)
  | [], a1, x, f + 1, q, hL, h, hf => by
    have hr := h.right
    simp only [List.map_nil, ctl, List.flatMap_nil, List.nil_append] at hr
    obtain ⟨g0, g1⟩ := hr.head
    have hst : stp (gb S (q + (pt x).length)) := by rw [g0]; unfold stp; omega
    simp only [parts, hE a1 x [] hL q h.left hst]
    rw [show sk S (q + (pt x).length) = q + (pt x).length from rn_stop (stp_bl hst), g0, if_pos rfl, hL]
    simp [ctl]
  | y :: r1, a1, x, f + 1, q, hL, h, hf => by
    have hr := h.right
    simp only [List.map_cons, ctl, List.flatMap_cons, List.cons_append] at hr
    obtain ⟨g0, g1⟩ := hr.head
    have hst : stp (gb S (q + (pt x).length)) := by rw [g0]; unfold stp; omega
    simp only [parts, hE a1 x (y :: r1) hL q h.left hst]
    rw [show sk S (q + (pt x).length) = q + (pt x).length from rn_stop (stp_bl hst), g0, if_neg (by omega), if_pos rfl]
    have h2 : At S (q + (pt x).length + 1) (pt y ++ (ctl (r1.map pt) ++ [en])) := by
      have := At.right (a := [44]) (b := pt y ++ (ctl (r1.map pt) ++ [en])) (i := q + (pt x).length) (by simpa [ctl] using hr)
      simpa using this
    have hy : stp (gb S (q + (pt x).length + 1 + (pt y).length)) := by
      have h3 := h2.right
      cases r1 with
      | nil => simp only [List.map_nil, ctl, List.flatMap_nil, List.nil_append] at h3; rw [h3.head.1]; unfold stp; omega
      | cons z r => simp only [List.map_cons, ctl, List.flatMap_cons, List.cons_append] at h3; rw [h3.head.1]; unfold stp; omega
    have hfy := hF y (by rw [hL]; simp) _ h2.left hy
    rw [show sk S (q + (pt x).length + 1) = q + (pt x).length + 1 from rn_stop (fst_bl hfy)]
    rw [parts_rt hen hE hF r1 (a1 ++ [x]) y f _ (by rw [hL]; simp) h2 (by simp at hf; omega)]
    congr 1
    simp only [List.map_cons, ctl, List.flatMap_cons, List.cons_append, List.length_cons, List.length_append]
    omega
/-- A list or an object whole. -/
theorem open_rt {op : Int} (hen : en = 93 ∨ en = 125) {p : Nat} (h : At S p ([op] ++ (cm (L.map pt) ++ [en])))
    (hE : ∀ (a1 : List α) (x : α) (r1 : List α), L = a1 ++ x :: r1 → ∀ q, At S q (pt x) → stp (gb S (q + (pt x).length)) → E a1 q = .ok x (q + (pt x).length))
    (hF : ∀ x ∈ L, ∀ q, At S q (pt x) → stp (gb S (q + (pt x).length)) → fst (gb S q)) : open' S en E p = .ok L (p + ([op] ++ (cm (L.map pt) ++ [en])).length) := by
  have hr := h.right
  simp only [List.length_cons, List.length_nil, Nat.zero_add] at hr
  unfold open'
  cases L with
  | nil =>
    simp only [List.map_nil, cm, List.nil_append] at hr
    obtain ⟨g0, -⟩ := hr.head
    rw [show sk S (p + 1) = p + 1 from rn_stop (by rw [g0]; rcases hen with rfl | rfl <;> decide), g0, if_pos rfl]
    simp [cm]
  | cons x r =>
    simp only [List.map_cons, cm, List.append_assoc] at hr
    have hy : stp (gb S (p + 1 + (pt x).length)) := by
      have h3 := hr.right
      cases r with
      | nil => simp only [List.map_nil, ctl, List.flatMap_nil, List.nil_append] at h3; rw [h3.head.1]; unfold stp; omega
      | cons z r => simp only [List.map_cons, ctl, List.flatMap_cons, List.cons_append] at h3; rw [h3.head.1]; unfold stp; omega
    have hfx := hF x (by simp) _ hr.left hy
    have hne := fst_ne hfx
    rw [show sk S (p + 1) = p + 1 from rn_stop (fst_bl hfx), if_neg (by rcases hen with rfl | rfl; exact hne.1; exact hne.2)]
    have hlen : r.length < S.size + 1 := by
      have h4 := hr.right
      have h5 := ctl_len (r.map pt)
      rw [List.length_map] at h5
      have h6 := h4.right
      obtain ⟨-, g1⟩ := h6.head
      omega
    rw [parts_rt hen hE hF r [] x _ _ rfl hr hlen]
    congr 1
    simp only [List.map_cons, cm, List.length_append, List.length_cons, List.length_nil]
    omega
end
theorem wd_at {S : ByteArray} : ∀ (l : List Int) (p : Nat), At S p l → wd S l p = (p + l.length, true)
  | [], p, h => rfl
  | c :: l, p, h => by
    have h1 := h.head
    simp only [wd]
    rw [if_pos h1.1, wd_at l (p + 1) (by have := At.right (a := [c]) (b := l) (i := p) (by simpa using h); simpa using this)]
    simp only [List.length_cons]; congr 1; omega
theorem pj_first {k : Nat} {jv : JV} (h : WM k jv) {S : ByteArray} {q : Nat} (ha : At S q (pj jv)) (hs : stp (gb S (q + (pj jv).length))) : fst (gb S q) := by
  cases h with
  | null => rw [(At.head ha).1]; unfold fst; omega
  | bool _ b => cases b <;> (rw [(At.head ha).1]; unfold fst; omega)
  | num _ t h =>
    simp only [pj] at ha hs
    rw [nb_length] at hs
    rcases nmb_first (nmb_put h ha hs) with e | e
    · exact .inr (.inl e)
    · exact .inr (.inr (.inl e))
  | txt _ t h =>
    simp only [pj, qt, List.cons_append] at ha
    rw [(At.head ha).1]; unfold fst; omega
  | lst _ l h => simp only [pj, List.cons_append] at ha; rw [(At.head ha).1]; unfold fst; omega
  | obj _ l h hk hd => simp only [pj, List.cons_append] at ha; rw [(At.head ha).1]; unfold fst; omega
theorem tx_at {t S : ByteArray} {p : Nat} (hu : UV (nb t)) (h : At S p (qt t)) : gb S p = 34 ∧ tx S (p + 1) [] = ((nb t, p + (qt t).length), true) := by
  unfold qt at h ⊢
  have h1 := h.left.head
  have h2 := h.right
  simp only [List.length_cons, List.length_nil, Nat.zero_add] at h2
  refine ⟨h1.1, ?_⟩
  rw [tx_qr t S t.size 0 (p + 1) [] h2, List.nil_append]
  have := we_nb hu
  unfold we at this
  rw [this]
  simp only [List.length_append, List.length_cons, List.length_nil]
  congr 2; omega
/-- What was printed is parsed to what it was. -/
theorem val_rt {k : Nat} {jv : JV} (h : WM k jv) : ∀ {S : ByteArray} {p : Nat}, At S p (pj jv) → stp (gb S (p + (pj jv).length)) → val S k p = .ok jv (p + (pj jv).length) := by
  induction h with
  | null k =>
    intro S p ha hs
    unfold val
    have h1 := (At.head ha).1
    rw [h1, if_neg (by decide), if_neg (by decide), if_neg (by decide), if_neg (by decide), if_neg (by decide), if_pos rfl]
    rw [show wd S [110, 117, 108, 108] p = _ from wd_at _ _ ha]; rfl
  | bool k b =>
    intro S p ha hs
    unfold val
    cases b with
    | true =>
      have h1 := (At.head ha).1
      rw [h1, if_neg (by decide), if_neg (by decide), if_neg (by decide), if_pos rfl]
      rw [show wd S [116, 114, 117, 101] p = _ from wd_at _ _ ha]; rfl
    | false =>
      have h1 := (At.head ha).1
      rw [h1, if_neg (by decide), if_neg (by decide), if_neg (by decide), if_neg (by decide), if_pos rfl]
      rw [show wd S [102, 97, 108, 115, 101] p = _ from wd_at _ _ ha]; rfl
  | num k t h =>
    intro S p ha hs
    simp only [pj] at ha hs ⊢
    rw [nb_length] at hs ⊢
    have hn := nmb_put h ha hs
    have hf := nmb_first hn
    have hc := ha.cut
    rw [nb_length] at hc
    unfold isDg at hf
    simp only [decide_eq_true_eq] at hf
    unfold val
    rw [if_neg (by omega), if_neg (by omega), if_neg (by omega), if_neg (by omega), if_neg (by omega), if_neg (by omega), hn]
    have hz : 0 < t.size := by
      rcases Nat.eq_zero_or_pos t.size with z | z
      · rw [z, Nat.add_zero] at hs; unfold stp at hs; omega
      · exact z
    have hin : p + t.size ≤ S.size := by
      have := (ha (t.size - 1) _ (gb_nb (by omega))).2
      omega
    have hpc : piece S p (p + t.size) = t := by
      refine nb_inj ?_
      unfold piece
      rw [nb_piece hin, show p + t.size - p = t.size by omega, hc]
    show outOf (p + t.size, true) (.num (piece S p (p + t.size))) = _
    rw [hpc]; rfl
  | txt k t h =>
    intro S p ha hs
    simp only [pj] at ha hs ⊢
    obtain ⟨h1, h2⟩ := tx_at h ha
    unfold val
    rw [h1, if_neg (by decide), if_neg (by decide), if_pos rfl, h2]
    simp only [if_true]
    rw [sb_nb]
  | lst k l h ih =>
    intro S p ha hs
    simp only [pj, pjl_map] at ha hs ⊢
    have h1 := ha.left.head.1
    unfold val
    rw [h1, if_neg (by decide), if_pos rfl]
    show wrapL (open' S 93 (fun _ => val S k) p) = _
    rw [open_rt (E := fun _ => val S k) (op := 91) (pt := pj) (L := l) (.inl rfl) ha (fun a1 x r1 hL q hq hst => ih x (by rw [hL]; simp) hq hst) (fun x hx q hq hst => pj_first (h x hx) hq hst)]
    rfl
  | obj k l h hk hd ih =>
    intro S p ha hs
    simp only [pj, pjo_map] at ha hs ⊢
    have h1 := ha.left.head.1
    unfold val
    rw [h1, if_pos rfl]
    show wrapO (open' S 125 (membr S (val S k)) p) = _
    rw [open_rt (E := membr S (val S k)) (op := 123) (pt := pm) (L := l) (.inr rfl) ha ?_ ?_]
    · rfl
    · intro a1 m r1 hL q hq hst
      have hm : m ∈ l := by rw [hL]; simp
      unfold pm at hq hst ⊢
      obtain ⟨g1, g2⟩ := tx_at (hk m hm) hq.left
      have h58 := hq.right.left.head
      have hv := hq.right.right
      simp only [List.length_cons, List.length_nil] at hv
      have hvs : stp (gb S (q + (qt m.1).length + (0 + 1) + (pj m.2).length)) := by
        simp only [List.length_append, List.length_cons, List.length_nil] at hst
        rw [show q + (qt m.1).length + (0 + 1) + (pj m.2).length = q + ((qt m.1).length + (0 + 1 + (pj m.2).length)) by omega]; exact hst
      have hfv := pj_first (h m hm) hv hvs
      rw [membr_34 g1, g2]
      simp only [if_true]
      rw [sb_nb, hd a1 m r1 hL, if_neg (by decide)]
      rw [show sk S (q + (qt m.1).length) = q + (qt m.1).length from rn_stop (by rw [h58.1]; decide), h58.1, if_pos rfl]
      rw [show sk S (q + (qt m.1).length + 1) = q + (qt m.1).length + 1 from rn_stop (fst_bl hfv)]
      rw [ih m hm hv hvs]
      unfold vx
      obtain ⟨mk, mv⟩ := m
      simp only [List.length_append, List.length_cons, List.length_nil]
      congr 1; omega
    · intro m hm q hq hst
      unfold pm at hq
      rw [(tx_at (hk m hm) hq.left).1]; unfold fst; omega
theorem pj_byt {k : Nat} {jv : JV} (h : WM k jv) : Byt (pj jv) := by
  have hct : ∀ (r : List (List Int)), (∀ t ∈ r, Byt t) → Byt (ctl r) := fun r hr x hx => by
    unfold ctl at hx
    obtain ⟨t, ht, hx⟩ := List.mem_flatMap.1 hx
    rcases List.mem_cons.1 hx with rfl | q
    · omega
    · exact hr t ht x q
  have hcm : ∀ (r : List (List Int)), (∀ t ∈ r, Byt t) → Byt (cm r) := fun r hr => by
    cases r with
    | nil => exact fun x hx => by cases hx
    | cons t r => exact byt_append (hr t (by simp)) (hct r (fun t ht => hr t (by simp [ht])))
  have h1 : ∀ c : Int, 0 ≤ c → c ≤ 255 → Byt [c] := fun c h0 h1 x hx => by simp at hx; omega
  induction h with
  | null k => intro x hx; simp [pj] at hx; omega
  | bool k b => cases b <;> (intro x hx; simp [pj, bt] at hx; omega)
  | num k t h => exact nb_byt t
  | txt k t h => exact qt_byt t
  | lst k l h ih =>
    simp only [pj, pjl_map]
    refine byt_append (h1 91 (by omega) (by omega)) (byt_append (hcm _ (fun t ht => ?_)) (h1 93 (by omega) (by omega)))
    obtain ⟨x, hx, rfl⟩ := List.mem_map.1 ht
    exact ih x hx
  | obj k l h hk hd ih =>
    simp only [pj, pjo_map]
    refine byt_append (h1 123 (by omega) (by omega)) (byt_append (hcm _ (fun t ht => ?_)) (h1 125 (by omega) (by omega)))
    obtain ⟨m, hm, rfl⟩ := List.mem_map.1 ht
    exact byt_append (qt_byt _) (byt_append (h1 58 (by omega) (by omega)) (ih m hm))
/-- The whole text. -/
theorem whole_rt {jv : JV} (h : WM 16 jv) : whole (sb (pj jv)) = if 8192 < (pj jv).length then .err 0 true else .val jv := by
  have hat := At.sb (pj_byt h)
  have hz := sb_size (pj jv)
  obtain ⟨S, hS⟩ : ∃ S, sb (pj jv) = S := ⟨_, rfl⟩
  rw [hS] at hat hz ⊢
  unfold whole
  rw [hz]
  split
  · rfl
  · have hst : stp (gb S (0 + (pj jv).length)) := by rw [Nat.zero_add, gb_out (by omega)]; exact .inl rfl
    have hf := pj_first h hat hst
    rw [show sk S 0 = 0 from rn_stop (fst_bl hf), val_rt h hat hst]
    simp only
    rw [show sk S (0 + (pj jv).length) = 0 + (pj jv).length from rn_stop (stp_bl hst), if_neg (by omega)]
end Go.Proofs.YtefaohokmhdplaaDoor
