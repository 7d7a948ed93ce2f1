/- AsText; the law on texts. -/
import Derived.Test.YtefaohokmhdplaaDoorJyM
import Derived.Test.YtefaohokmhdplaaDoorJyF
namespace Go.Proofs.YtefaohokmhdplaaDoor
open Go Go.RowKit
set_option linter.unusedSimpArgs false
set_option linter.unusedVariables false
set_option maxRecDepth 100000

set_option maxHeartbeats 4000000 in
theorem text_txt (t : ByteArray) (w : World) : Calls Tryd.prog 37 #[.iface 45 (.string t)] w fun e w' => e = .returned (.tuple #[.string t, .bool true]) ∧ w' = w := by
  have k := ta_Text_Text
  go_enter Tryd.func37, Tryd.ntmps37
  go_wp2
  go_ret2
  exact ⟨rfl, rfl⟩
set_option maxHeartbeats 4000000 in
theorem astext_txt (t : ByteArray) (w : World) : Calls Tryd.prog 19 #[.iface 45 (.string t)] w fun e w' => e = .returned (.tuple #[.string t, .bool true]) ∧ w' = w := by
  go_enter Tryd.func19, Tryd.ntmps19
  go_wp2_with fail
  refine (text_txt t w).mono ?_
  rintro e w' ⟨rfl, rfl⟩
  go_wp2
  go_ret2
  exact ⟨rfl, rfl⟩
def wf (s : ByteArray) (i : Nat) : List Int := wr' s (s.size - i) i
theorem wr_more (s : ByteArray) : ∀ (f g i : Nat), s.size ≤ f + i → s.size ≤ g + i → wr' s f i = wr' s g i
  | 0, 0, i, h, k => rfl
  | 0, g + 1, i, h, k => by simp only [wr']; rw [if_pos (by omega)]
  | f + 1, 0, i, h, k => by simp only [wr']; rw [if_pos (by omega)]
  | f + 1, g + 1, i, h, k => by
    simp only [wr']
    split
    · rfl
    · have := dec_wid s i (by omega)
      rw [wr_more s f g _ (by omega) (by omega)]
theorem wf_end {s : ByteArray} {i : Nat} (h : s.size ≤ i) : wf s i = [] := by
  unfold wf; rw [show s.size - i = 0 by omega]; rfl
theorem wf_step {s : ByteArray} {i : Nat} (h : i < s.size) : wf s i = Lib.encodeRuneZ (Utf8.decode s i).1 ++ wf s (i + (Utf8.decode s i).2) := by
  have := dec_wid s i h
  unfold wf
  rw [show s.size - i = (s.size - i - 1) + 1 by omega]
  simp only [wr']
  rw [if_neg (by omega), wr_more s (s.size - i - 1) (s.size - (i + (Utf8.decode s i).2)) _ (by omega) (by omega)]
theorem we_eq (s : ByteArray) : we s = wf s 0 := by unfold we wf; rw [Nat.sub_zero]
theorem wr_byt (s : ByteArray) : ∀ f i, Byt (wr' s f i)
  | 0, i => fun x hx => by cases hx
  | f + 1, i => by
    simp only [wr']; split
    · exact fun x hx => by cases hx
    · exact byt_append (enc_byt _) (wr_byt s f _)
theorem sb_of {t : ByteArray} {l : List Int} (hl : Byt l) (h : nb t = l) : t = sb l := nb_inj (by rw [h, nb_sb hl])
theorem itS_below {K q : Nat} {s : ByteArray} {w W : World} (h : Below w.heap.size w W) (hK : w.heap.size ≤ K) : Below w.heap.size w (itS W K s q) :=
  ⟨h.os, h.tape, h.output, by rw [itS_size]; exact h.size, fun b hb => (itS_ne (by omega)).trans (h.block b hb)⟩
set_option maxHeartbeats 16000000 in
theorem texts_walk {w : World} {s : ByteArray} {ev : Value} (hs : s.size ≤ 9223372036854775807) (hv : EV w ev) :
    Calls Tryd.prog 7 #[.string s] w fun e w' => e = .returned (.bool true) ∧ Below w.heap.size w w' := by
  have HEV : Hid (EV w ev) := hv
  have HA : Hid (Calls Tryd.prog 9 #[] w fun e w' => e = .returned (.bool true) ∧ Below w.heap.size w w') := awake_any hv
  have hs' : (s.size : Int) ≤ 9223372036854775807 := by omega
  by_cases hl : 1300 < s.size
  · have hl' : (1300 : Int) < (s.size : Int) := by omega
    clear hs hv
    go_enter Tryd.func7, Tryd.ntmps7
    go_wp2_with fail
    refine HA.out.mono ?_
    rintro e w1 ⟨rfl, hb⟩
    have HB : Hid (Below w.heap.size w w1) := hb
    clear hb HA
    go_wp2
    go_ret
    exact ⟨rfl, HB.out⟩
  have HLS : Hid (s.size ≤ 1300) := by show _ ≤ _; omega
  have hl' : ¬ (1300 : Int) < (s.size : Int) := by omega
  have HW : Hid (whole (sb (qt s)) = .val (.txt (sb (we s)))) := whole_qt HLS.out
  have HQ : Hid ((qt s).length ≤ 8192) := by
    show _ ≤ _
    have := qr_len s s.size 0 (by omega); have := HLS.out
    unfold qt; simp; omega
  clear hs hv hl
  go_enter Tryd.func7, Tryd.ntmps7
  go_wp2_with fail
  refine HA.out.mono ?_
  rintro e w1 ⟨rfl, hb⟩
  have HB1 : Hid (Below w.heap.size w w1) := hb
  clear hb HA
  go_wp2_with fail
  obtain ⟨K, hK⟩ : ∃ K, w1.heap.size = K := ⟨_, rfl⟩
  have HKS : Hid (w.heap.size ≤ K) := by show _ ≤ _; rw [← hK]; exact HB1.out.size
  have HST : Hid (∃ (pos : Nat) (t : ByteArray), Value.string ⟨#[]⟩ = .string t ∧ nb t ++ wf s pos = we s ∧ (w1.iter s 0).heap[K]? = some (.stringIter s pos) ∧ Below w.heap.size w (w1.iter s 0) ∧ pos ≤ s.size ∧ t.size ≤ 4 * pos) := ⟨0, ⟨#[]⟩, rfl, (we_eq s).symm, by rw [← hK]; exact World.iter_heap w1 s 0, HB1.out.alloc HB1.out.size _, Nat.zero_le _, Nat.le_refl _⟩
  rw [hK]
  clear hK
  go_loopw [3] (fun v3 W => ∃ (pos : Nat) (t : ByteArray), v3 = .string t ∧ nb t ++ wf s pos = we s ∧ W.heap[K]? = some (.stringIter s pos) ∧ Below w.heap.size w W ∧ pos ≤ s.size ∧ t.size ≤ 4 * pos) (fun _ W => s.size - W.iterPos K)
  case atStart => exact HST.out
  case round =>
    obtain ⟨pos, t, rfl, he, hit, hb, hp, htl⟩ := hrel
    have HIP : Hid (wr.iterPos K = pos) := itp hit
    have HB : Hid (Below w.heap.size w wr) := hb
    have HE : Hid (nb t ++ wf s pos = we s) := he
    clear HST hb he
    by_cases hlt : pos < s.size
    · have hnx : ∀ ty, (Instr.next (.pointer (some ⟨K, 0, none⟩)) true ty).run Tryd.prog wr = _ := fun ty => run_next_at hit hlt ty
      have hstep := wf_step hlt
      have hw := dec_wid s pos hlt
      have hin := (dec_in s pos hlt).2
      obtain ⟨r, hr⟩ : ∃ r : Int, ((Utf8.decode s pos).1 : Int) = r := ⟨_, rfl⟩
      obtain ⟨n, hn⟩ : ∃ n, (Utf8.decode s pos).2 = n := ⟨_, rfl⟩
      obtain ⟨W1, hW1⟩ : ∃ W1, itS wr K s (pos + n) = W1 := ⟨_, rfl⟩
      rw [hr, hn] at hstep
      rw [hn] at hw hin
      rw [hr, hn, hW1] at hnx
      have hu : nb (t ++ Utf8.encode r) = nb t ++ Lib.encodeRuneZ r := by rw [nb_append, nb_enc]
      have hus : (Utf8.encode r).size ≤ 4 := by rw [← nb_length, nb_enc]; exact (Lib.encodeRuneZ_length r).2
      have htu : (t ++ Utf8.encode r).size = t.size + (Utf8.encode r).size := by simp
      have h5 : ¬ (t.size + (Utf8.encode r).size > 9223372036854775807) := by have := HLS.out; omega
      have HF : Hid (nb (t ++ Utf8.encode r) ++ wf s (pos + n) = we s ∧ W1.heap[K]? = some (.stringIter s (pos + n)) ∧ Below w.heap.size w W1 ∧ pos + n ≤ s.size ∧ (t ++ Utf8.encode r).size ≤ 4 * (pos + n)) := by
        refine ⟨?_, by rw [← hW1]; exact itS_at hit, by rw [← hW1]; exact itS_below HB.out HKS.out, hin, ?_⟩
        · rw [hu, List.append_assoc, ← hstep]; exact HE.out
        · rw [htu]; omega
      clear hW1 hit hstep hr hn hu hus htu
      go_wp2
      go_roundw
      case rel => exact ⟨pos + n, _, rfl, HF.out.1, HF.out.2.1, HF.out.2.2.1, HF.out.2.2.2.1, HF.out.2.2.2.2⟩
      case measure => rw [itp HF.out.2.1, HIP.out]; omega
    · have hnx : ∀ ty, (Instr.next (.pointer (some ⟨K, 0, none⟩)) true ty).run Tryd.prog wr = _ := fun ty => run_next_fin hit hlt ty
      have HT : Hid (t = sb (we s)) := by
        refine sb_of (wr_byt s _ _) ?_
        have := HE.out; rw [wf_end (by omega), List.append_nil] at this; exact this
      clear hit
      go_wp2_with fail
      refine (print_any (A := fun _ => True) (w := wr) (.txt s) (by have := HQ.out; omega)).mono ?_
      rintro e w2 ⟨rfl, hb2⟩
      have HB2 : Hid (Below w.heap.size w w2) := bl_tr HB.out hb2
      clear hb2
      go_wp2_with fail
      refine (parse_any (s := sb (qt s)) (by rw [sb_size]; have := HQ.out; omega) (HEV.out.below HB2.out)).mono ?_
      rw [HW.out]
      rintro e w3 ⟨v, rfl, hj, hb3⟩
      have HB3 : Hid (Below w.heap.size w w3) := bl_tr HB2.out hb3
      cases hj
      clear hb3
      obtain ⟨g, hg⟩ : ∃ g, sb (we s) = g := ⟨_, rfl⟩
      have hT2 : t = g := HT.out.trans hg
      rw [hg]
      subst hT2
      clear hg HT
      go_wp2_with fail
      refine (astext_txt t w3).mono ?_
      rintro e w4 ⟨rfl, rfl⟩
      go_wp2
      go_ret
      exact ⟨by simp, HB3.out⟩
end Go.Proofs.YtefaohokmhdplaaDoor
/- Texts of runes: what is read is made of runes, and runes written stay as they are. -/
namespace Go.Proofs.YtefaohokmhdplaaDoor
open Go Go.RowKit
set_option linter.unusedSimpArgs false
set_option linter.unusedVariables false
set_option maxRecDepth 100000

theorem cutb_one (s : ByteArray) (i : Nat) : cutb s i 1 = [gb s i] := by simp [cutb]
theorem cutb_two (s : ByteArray) (i : Nat) : cutb s i 2 = [gb s i, gb s (i + 1)] := by simp [cutb, List.range_succ]
theorem cutb_thr (s : ByteArray) (i : Nat) : cutb s i 3 = [gb s i, gb s (i + 1), gb s (i + 2)] := by simp [cutb, List.range_succ]
theorem cutb_fou (s : ByteArray) (i : Nat) : cutb s i 4 = [gb s i, gb s (i + 1), gb s (i + 2), gb s (i + 3)] := by simp [cutb, List.range_succ]
set_option maxHeartbeats 8000000 in
/-- A rune that stands in a text is written as it stands. -/
theorem dec_cut {s : ByteArray} {i : Nat} (h : i < s.size) (hr : rl s i ≠ 0) : cutb s i (rl s i) = Lib.encodeRuneZ (Utf8.decode s i).1 ∧ (Utf8.decode s i).2 = rl s i := by
  have hd2 : (Utf8.decode s i).2 = rl s i := by
    unfold rl at hr ⊢
    split
    · rename_i e; rw [if_pos e] at hr; exact absurd rfl hr
    · rfl
  refine ⟨?_, hd2⟩
  obtain ⟨x0, e0⟩ : ∃ x, (s.get! i).toNat = x := ⟨_, rfl⟩
  obtain ⟨x1, e1⟩ : ∃ x, (s.get! (i + 1)).toNat = x := ⟨_, rfl⟩
  obtain ⟨x2, e2⟩ : ∃ x, (s.get! (i + 2)).toNat = x := ⟨_, rfl⟩
  obtain ⟨x3, e3⟩ : ∃ x, (s.get! (i + 3)).toNat = x := ⟨_, rfl⟩
  have b0 := (s.get! i).toNat_lt; have b1 := (s.get! (i + 1)).toNat_lt; have b2 := (s.get! (i + 2)).toNat_lt; have b3 := (s.get! (i + 3)).toNat_lt
  rw [e0] at b0; rw [e1] at b1; rw [e2] at b2; rw [e3] at b3
  have g0 : gb s i = (x0 : Int) := by rw [← get_gb, e0]
  have g1 : gb s (i + 1) = (x1 : Int) := by rw [← get_gb, e1]
  have g2 : gb s (i + 2) = (x2 : Int) := by rw [← get_gb, e2]
  have g3 : gb s (i + 3) = (x3 : Int) := by rw [← get_gb, e3]
  have hD : Utf8.decode s i = Utf8.decode s i := rfl
  rw [← hd2]
  have hne : ¬ ((Utf8.decode s i).1 = 65533 ∧ (Utf8.decode s i).2 = 1) := fun e => hr (by unfold rl; rw [if_pos e])
  clear hr hd2 hD
  revert hne
  unfold Utf8.decode
  simp only [Nat.add_zero, e0, e1, e2, e3]
  split
  · intro _
    simp only
    rw [cutb_one, g0, Lib.encodeRuneZ_one (by omega) (by omega)]
  · split
    · rename_i c1 c2
      simp only [Bool.and_eq_true, beq_iff_eq, decide_eq_true_eq] at c2
      split
      · rename_i c3
        intro _
        simp only
        rw [cutb_two, g0, g1, Lib.encodeRuneZ_two (by omega) (by omega)]
        congr 1
        · omega
        · congr 1; omega
      · intro hn; exact absurd ⟨rfl, rfl⟩ hn
    · split
      · rename_i c1 c2 c3
        simp only [Bool.and_eq_true, beq_iff_eq, decide_eq_true_eq] at c3
        split
        · rename_i c4
          intro _
          simp only [Utf8.valid, Bool.and_eq_true, Bool.or_eq_true, decide_eq_true_eq] at c4
          simp only
          rw [cutb_thr, g0, g1, g2, Lib.encodeRuneZ_three (by omega)]
          congr 1
          · omega
          · congr 1
            · omega
            · congr 1; omega
        · intro hn; exact absurd ⟨rfl, rfl⟩ hn
      · split
        · rename_i c1 c2 c3 c4
          simp only [Bool.and_eq_true, beq_iff_eq, decide_eq_true_eq] at c4
          split
          · rename_i c5
            intro _
            simp only [Utf8.valid, Bool.and_eq_true, Bool.or_eq_true, decide_eq_true_eq] at c5
            simp only
            rw [cutb_fou, g0, g1, g2, g3, Lib.encodeRuneZ_four (by omega) (by omega)]
            congr 1
            · omega
            · congr 1
              · omega
              · congr 1
                · omega
                · congr 1; omega
          · intro hn; exact absurd ⟨rfl, rfl⟩ hn
        · intro hn; exact absurd ⟨rfl, rfl⟩ hn
/-- Bytes that are runes, one behind the other. -/
def UV (xs : List Int) : Prop := ∃ rs : List Int, (∀ r ∈ rs, 0 ≤ r) ∧ xs = rs.flatMap Lib.encodeRuneZ
theorem UV.nil : UV [] := ⟨[], by simp, rfl⟩
theorem UV.snoc {xs : List Int} (h : UV xs) {r : Int} (hr : 0 ≤ r) : UV (xs ++ Lib.encodeRuneZ r) := by
  obtain ⟨rs, h1, rfl⟩ := h
  exact ⟨rs ++ [r], fun x hx => by
    rcases List.mem_append.1 hx with q | q
    · exact h1 x q
    · simp at q; omega, by simp⟩
theorem txf_uv (s : ByteArray) : ∀ (f i : Nat) (a : List Int), UV a → UV (txf s f i a).1.1
  | 0, i, a, h => h
  | f + 1, i, a, h => by
    simp only [txf]
    split
    · exact h
    · rename_i h1
      split
      · exact h
      · split
        · exact h
        · split
          · cases he : esc s i with
            | none => exact h
            | some q =>
              obtain ⟨r, n⟩ := q
              have := esc_in he
              exact txf_uv s f _ _ (h.snoc (by omega))
          · split
            · exact h
            · rename_i h2
              rw [(dec_cut (by omega) h2).1]
              exact txf_uv s f _ _ (h.snoc (by omega))
theorem tx_uv (s : ByteArray) (i : Nat) : UV (tx s i []).1.1 := txf_uv s _ i [] UV.nil
theorem uv_byt {xs : List Int} (h : UV xs) : Byt xs := by
  obtain ⟨rs, -, rfl⟩ := h
  intro x hx
  obtain ⟨r, -, hr⟩ := List.mem_flatMap.1 hx
  exact enc_byt r x hr
theorem wr_uv {S : ByteArray} : ∀ (rs : List Int) (f j : Nat), (∀ r ∈ rs, 0 ≤ r) → At S j (rs.flatMap Lib.encodeRuneZ) → S.size = j + (rs.flatMap Lib.encodeRuneZ).length → S.size ≤ f + j → wr' S f j = rs.flatMap Lib.encodeRuneZ
  | [], f, j, h0, h, hs, hf => by
    cases f with
    | zero => rfl
    | succ f => simp only [wr']; rw [if_pos (by simp at hs; omega)]; rfl
  | r :: rs, f, j, h0, h, hs, hf => by
    simp only [List.flatMap_cons] at h hs ⊢
    have hp := (Lib.encodeRuneZ_length r).1
    have hl := rl_enc (h0 r (by simp)) h.left
    have hj : j < S.size := by rw [List.length_append] at hs; omega
    obtain ⟨d1, d2⟩ := dec_cut hj (by omega)
    rw [hl, h.left.cut] at d1
    rw [hl] at d2
    cases f with
    | zero => omega
    | succ f =>
      simp only [wr']
      rw [if_neg (by omega), ← d1, d2, wr_uv rs f _ (fun x hx => h0 x (by simp [hx])) h.right (by rw [List.length_append] at hs; omega) (by omega)]
theorem we_uv {xs : List Int} (h : UV xs) : we (sb xs) = xs := by
  have hb := uv_byt h
  obtain ⟨rs, h0, rfl⟩ := h
  unfold we
  exact wr_uv rs _ 0 h0 (At.sb hb) (by rw [sb_size]; omega) (by omega)
theorem sb_nb (t : ByteArray) : sb (nb t) = t := (sb_of (nb_byt t) rfl).symm
theorem we_nb {t : ByteArray} (h : UV (nb t)) : we t = nb t := by have := we_uv h; rwa [sb_nb] at this
end Go.Proofs.YtefaohokmhdplaaDoor
