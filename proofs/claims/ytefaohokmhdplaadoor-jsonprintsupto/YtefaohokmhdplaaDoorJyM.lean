/- A text that was put between quotation marks is read as its runes. -/
import Derived.Test.YtefaohokmhdplaaDoorJyB
import Derived.Test.YtefaohokmhdplaaDoorJxF
import Derived.Laws.Runes
namespace Go.Proofs.YtefaohokmhdplaaDoor
open Go Go.RowKit
set_option linter.unusedSimpArgs false
set_option linter.unusedVariables false
set_option maxRecDepth 100000

theorem nb_append (a b : ByteArray) : nb (a ++ b) = nb a ++ nb b := by simp [nb, ByteArray.data_append]
theorem u8n {n : Nat} (h : n < 256) : ((UInt8.ofNat n).toNat : Int) = (n : Int) := by simp; omega
theorem nb_enc (r : Int) : nb (Utf8.encode r) = Lib.encodeRuneZ r := by
  by_cases v : Utf8.valid r = true
  · have hv : (0 ≤ r ∧ r < 55296) ∨ (57344 ≤ r ∧ r ≤ 1114111) := by simpa [Utf8.valid] using v
    obtain ⟨n, rfl⟩ := Int.eq_ofNat_of_zero_le (by omega : 0 ≤ r)
    unfold Utf8.encode
    simp only [v, if_true, Int.toNat_natCast]
    by_cases c1 : n < 128
    · rw [Lib.encodeRuneZ_one (by omega) (by omega), if_pos c1]
      show [((UInt8.ofNat n).toNat : Int)] = _
      rw [u8n (by omega)]
    rw [if_neg c1]
    by_cases c2 : n < 2048
    · rw [Lib.encodeRuneZ_two (by omega) (by omega), if_pos c2]
      show [((UInt8.ofNat (192 + n / 64)).toNat : Int), ((UInt8.ofNat (128 + n % 64)).toNat : Int)] = _
      rw [u8n (by omega), u8n (by omega)]; rfl
    rw [if_neg c2]
    by_cases c3 : n < 65536
    · rw [Lib.encodeRuneZ_three (by omega), if_pos c3]
      show [((UInt8.ofNat (224 + n / 4096)).toNat : Int), ((UInt8.ofNat (128 + n / 64 % 64)).toNat : Int), ((UInt8.ofNat (128 + n % 64)).toNat : Int)] = _
      rw [u8n (by omega), u8n (by omega), u8n (by omega)]; rfl
    rw [if_neg c3, Lib.encodeRuneZ_four (by omega) (by omega)]
    show [((UInt8.ofNat (240 + n / 262144)).toNat : Int), ((UInt8.ofNat (128 + n / 4096 % 64)).toNat : Int), ((UInt8.ofNat (128 + n / 64 % 64)).toNat : Int), ((UInt8.ofNat (128 + n % 64)).toNat : Int)] = _
    rw [u8n (by omega), u8n (by omega), u8n (by omega), u8n (by omega)]; rfl
  · have hv : ¬ ((0 ≤ r ∧ r < 55296) ∨ (57344 ≤ r ∧ r ≤ 1114111)) := fun h => v (by simpa [Utf8.valid] using h)
    rw [Lib.encodeRuneZ_bad (by omega)]
    unfold Utf8.encode
    simp only [v, Bool.false_eq_true, if_false]
    decide
theorem nb_inj {a b : ByteArray} (h : nb a = nb b) : a = b := by
  have h1 : a.data.toList = b.data.toList := by
    unfold nb at h
    exact (List.map_inj_right (fun x y e => by have : x.toNat = y.toNat := by omega
                                               exact UInt8.toNat_inj.1 this)).1 h
  obtain ⟨⟨a⟩⟩ := a; obtain ⟨⟨b⟩⟩ := b
  simp at h1; subst h1; rfl
/-- These bytes stand at a place. -/
def At (S : ByteArray) (i : Nat) (l : List Int) : Prop := ∀ k v, l[k]? = some v → gb S (i + k) = v ∧ i + k < S.size
theorem At.left {S : ByteArray} {i : Nat} {a b : List Int} (h : At S i (a ++ b)) : At S i a := fun k v hk => h k v (by
  rw [List.getElem?_append_left (List.getElem?_eq_some_iff.1 hk).1]; exact hk)
theorem At.right {S : ByteArray} {i : Nat} {a b : List Int} (h : At S i (a ++ b)) : At S (i + a.length) b := fun k v hk => by
  have := h (a.length + k) v (by rw [List.getElem?_append_right (by omega)]; simpa using hk)
  rw [Nat.add_assoc]; exact this
theorem At.cut {S : ByteArray} {i : Nat} {l : List Int} (h : At S i l) : cutb S i l.length = l := by
  apply List.ext_getElem?
  intro k
  unfold cutb
  rw [List.getElem?_map]
  rcases Nat.lt_or_ge k l.length with q | q
  · rw [List.getElem?_range q, List.getElem?_eq_getElem q]
    simp only [Option.map_some]
    rw [(h k _ (List.getElem?_eq_getElem q)).1]
  · rw [List.getElem?_eq_none (by simpa using q), List.getElem?_eq_none q]; rfl
theorem At.head {S : ByteArray} {i : Nat} {c : Int} {l : List Int} (h : At S i (c :: l)) : gb S i = c ∧ i < S.size := h 0 c rfl
theorem hxv_hx {n : Int} (h0 : 0 ≤ n) (h1 : n ≤ 15) : hxv (hx n) = n := by
  unfold hxv hx
  by_cases h : n < 10
  · rw [if_pos h, if_pos (by omega)]; omega
  · rw [if_neg h, if_neg (by omega), if_pos (by omega)]; omega
/-- A rune's bytes are a rune. -/
theorem rl_enc {S : ByteArray} {i : Nat} {r : Int} (h0 : 0 ≤ r) (h : At S i (Lib.encodeRuneZ r)) : rl S i = (Lib.encodeRuneZ r).length := by
  have key : ((rl S i : Nat) : Int) = ((Lib.encodeRuneZ r).length : Nat) := by
    unfold Lib.encodeRuneZ at h ⊢
    by_cases c1 : 0 ≤ r ∧ r ≤ 127
    · rw [if_pos c1] at h ⊢
      obtain ⟨a0, b0⟩ := h 0 _ rfl
      rw [Nat.add_zero] at a0 b0
      rw [rl_eq b0, a0, if_pos (by omega)]; rfl
    rw [if_neg c1] at h ⊢
    by_cases c2 : 128 ≤ r ∧ r ≤ 2047
    · rw [if_pos c2] at h ⊢
      obtain ⟨a0, b0⟩ := h 0 _ rfl; obtain ⟨a1, b1⟩ := h 1 _ rfl
      rw [Nat.add_zero] at a0 b0
      rw [rl_eq b0, a0, if_neg (by omega), if_pos (by omega)]
      unfold rgo; rw [if_neg (by omega)]
      simp only [ct, Nat.add_one_sub_one, a1]
      rw [if_pos (by omega)]
      unfold rfin; rw [if_neg (by omega)]; rfl
    rw [if_neg c2] at h ⊢
    by_cases c3 : (2048 ≤ r ∧ r < 55296) ∨ (57343 < r ∧ r ≤ 65535)
    · rw [if_pos c3] at h ⊢
      obtain ⟨a0, b0⟩ := h 0 _ rfl; obtain ⟨a1, b1⟩ := h 1 _ rfl; obtain ⟨a2, b2⟩ := h 2 _ rfl
      rw [Nat.add_zero] at a0 b0
      rw [rl_eq b0, a0, if_neg (by omega), if_neg (by omega), if_pos (by omega)]
      unfold rgo; rw [if_neg (by omega)]
      simp only [ct, Nat.add_one_sub_one, a1, a2]
      rw [if_pos (by omega), if_pos (by omega)]
      unfold rfin; rw [if_neg (by omega)]; rfl
    rw [if_neg c3] at h ⊢
    by_cases c4 : 65536 ≤ r ∧ r ≤ 1114111
    · rw [if_pos c4] at h ⊢
      obtain ⟨a0, b0⟩ := h 0 _ rfl; obtain ⟨a1, b1⟩ := h 1 _ rfl; obtain ⟨a2, b2⟩ := h 2 _ rfl; obtain ⟨a3, b3⟩ := h 3 _ rfl
      rw [Nat.add_zero] at a0 b0
      rw [rl_eq b0, a0, if_neg (by omega), if_neg (by omega), if_neg (by omega), if_pos (by omega)]
      unfold rgo; rw [if_neg (by omega)]
      simp only [ct, Nat.add_one_sub_one, a1, a2, a3]
      rw [if_pos (by omega), if_pos (by omega), if_pos (by omega)]
      unfold rfin; rw [if_neg (by omega)]; rfl
    rw [if_neg c4] at h ⊢
    obtain ⟨a0, b0⟩ := h 0 _ rfl; obtain ⟨a1, b1⟩ := h 1 _ rfl; obtain ⟨a2, b2⟩ := h 2 _ rfl
    rw [Nat.add_zero] at a0 b0
    rw [rl_eq b0, a0, if_neg (by omega), if_neg (by omega), if_pos (by omega)]
    unfold rgo; rw [if_neg (by omega)]
    simp only [ct, Nat.add_one_sub_one, a1, a2]
    rw [if_pos (by omega), if_pos (by omega)]
    unfold rfin; rw [if_neg (by omega)]; rfl
  exact Int.ofNat_inj.1 key
theorem enc_first {r : Int} (h0 : 128 ≤ r) : ∃ c l, Lib.encodeRuneZ r = c :: l ∧ 128 ≤ c := by
  unfold Lib.encodeRuneZ
  rw [if_neg (by omega)]
  split
  · exact ⟨_, _, rfl, by omega⟩
  · split
    · exact ⟨_, _, rfl, by omega⟩
    · split
      · exact ⟨_, _, rfl, by omega⟩
      · exact ⟨_, _, rfl, by omega⟩
/-- One rune. -/
theorem tx_rq {S : ByteArray} {j : Nat} {r : Int} {a : List Int} (h0 : 0 ≤ r) (h : At S j (rq r)) : tx S j a = tx S (j + (rq r).length) (a ++ Lib.encodeRuneZ r) := by
  unfold rq at h ⊢
  by_cases h1 : r = 34 ∨ r = 92
  · rw [if_pos h1] at h ⊢
    obtain ⟨a0, b0⟩ := h 0 _ rfl; obtain ⟨a1, b1⟩ := h 1 _ rfl
    rw [Nat.add_zero] at a0 b0
    rw [tx_eq S j a, if_neg (by omega), a0, if_neg (by omega), if_neg (by omega), if_pos rfl]
    have he : esc S j = some (r, 2) := by
      unfold esc; rw [if_neg (by omega), a1, if_pos (by omega)]
    rw [he]; rfl
  rw [if_neg h1] at h ⊢
  by_cases h2 : r < 32
  · rw [if_pos h2] at h ⊢
    obtain ⟨a0, b0⟩ := h 0 _ rfl; obtain ⟨a1, b1⟩ := h 1 _ rfl; obtain ⟨a2, b2⟩ := h 2 _ rfl; obtain ⟨a3, b3⟩ := h 3 _ rfl; obtain ⟨a4, b4⟩ := h 4 _ rfl; obtain ⟨a5, b5⟩ := h 5 _ rfl
    rw [Nat.add_zero] at a0 b0
    rw [tx_eq S j a, if_neg (by omega), a0, if_neg (by omega), if_neg (by omega), if_pos rfl]
    have hu : u4 S j = r := by
      unfold u4; rw [if_pos ⟨by omega, a0, a1⟩]
      unfold u4d
      rw [show j + 2 + 1 = j + 3 by omega, show j + 2 + 2 = j + 4 by omega, show j + 2 + 3 = j + 5 by omega, a2, a3, a4, a5, hxv_hx (n := r / 16) (by omega) (by omega), hxv_hx (n := r % 16) (by omega) (by omega), show hxv 48 = 0 from rfl]
      rw [if_neg (by omega)]; omega
    have he : esc S j = some (r, 6) := by
      unfold esc; rw [if_neg (by omega), a1, if_neg (by omega), if_neg (by omega), if_neg (by omega), if_neg (by omega), if_neg (by omega), if_neg (by omega), if_pos rfl]
      unfold lng; rw [hu, if_neg (by omega), if_pos (by omega)]
    rw [he]; rfl
  rw [if_neg h2] at h ⊢
  have hl := rl_enc h0 h
  have hp := (Lib.encodeRuneZ_length r).1
  have hc := h.cut
  have hf : j < S.size ∧ gb S j ≠ 34 ∧ ¬ gb S j < 32 ∧ gb S j ≠ 92 := by
    by_cases h3 : r ≤ 127
    · rw [Lib.encodeRuneZ_one h0 h3] at h
      obtain ⟨a0, b0⟩ := h.head
      rw [a0]; exact ⟨b0, by omega, by omega, by omega⟩
    · obtain ⟨c, l, e, hc'⟩ := enc_first (r := r) (by omega)
      rw [e] at h
      obtain ⟨a0, b0⟩ := h.head
      rw [a0]; exact ⟨b0, by omega, by omega, by omega⟩
  rw [tx_eq S j a, if_neg (by omega), if_neg hf.2.1, if_neg hf.2.2.1, if_neg hf.2.2.2, hl, if_neg (by omega), hc]
/-- The runes of a text, written anew. -/
def wr' (s : ByteArray) : Nat → Nat → List Int
  | 0, _ => []
  | f + 1, i => if s.size ≤ i then [] else Lib.encodeRuneZ (Utf8.decode s i).1 ++ wr' s f (i + (Utf8.decode s i).2)
theorem tx_qr (s S : ByteArray) : ∀ (f i j : Nat) (a : List Int), At S j (qr s f i ++ [34]) → tx S j a = ((a ++ wr' s f i, j + (qr s f i).length + 1), true)
  | 0, i, j, a, h => by
    obtain ⟨a0, b0⟩ := h.right.head
    simp only [qr, List.length_nil, Nat.add_zero] at a0 b0
    rw [tx_eq S j a, if_neg (by omega), if_pos a0]; simp [qr, wr']
  | f + 1, i, j, a, h => by
    simp only [qr, wr'] at h ⊢
    split
    · rename_i q
      rw [if_pos q] at h
      obtain ⟨a0, b0⟩ := h.right.head
      simp only [List.length_nil, Nat.add_zero] at a0 b0
      rw [tx_eq S j a, if_neg (by omega), if_pos a0]; simp
    · rename_i q
      rw [if_neg q, List.append_assoc] at h
      rw [tx_rq (by omega) h.left, tx_qr s S f _ _ _ h.right]
      simp [Nat.add_assoc]
def we (s : ByteArray) : List Int := wr' s s.size 0
theorem rq_byt {r : Int} (h0 : 0 ≤ r) : Byt (rq r) := by
  unfold rq
  split
  · rename_i h; intro x hx; simp at hx; omega
  · split
    · rename_i h1 h2
      intro x hx
      simp only [List.mem_cons, List.not_mem_nil, or_false] at hx
      have e1 : hx = hx := rfl
      rcases hx with rfl | rfl | rfl | rfl | rfl | rfl
      all_goals first
        | omega
        | (unfold Go.Proofs.YtefaohokmhdplaaDoor.hx; split <;> omega)
    · exact enc_byt r
theorem byt_append {a b : List Int} (h : Byt a) (k : Byt b) : Byt (a ++ b) := fun x hx => (List.mem_append.1 hx).elim (h x) (k x)
theorem qr_byt (s : ByteArray) : ∀ f i, Byt (qr s f i)
  | 0, i => fun x hx => by cases hx
  | f + 1, i => by
    simp only [qr]; split
    · exact fun x hx => by cases hx
    · exact byt_append (rq_byt (by omega)) (qr_byt s f _)
theorem qt_byt (s : ByteArray) : Byt (qt s) := by
  unfold qt
  exact byt_append (fun x hx => by simp at hx; omega) (byt_append (qr_byt s _ _) (fun x hx => by simp at hx; omega))
theorem At.sb {l : List Int} (h : Byt l) : At (sb l) 0 l := by
  intro k v hk
  obtain ⟨hlt, rfl⟩ := List.getElem?_eq_some_iff.1 hk
  have hz : (Go.Proofs.YtefaohokmhdplaaDoor.sb l).size = l.length := by unfold Go.Proofs.YtefaohokmhdplaaDoor.sb strOfNums; simp [ByteArray.size]
  have hk' : k < (Go.Proofs.YtefaohokmhdplaaDoor.sb l).size := by rw [hz]; exact hlt
  rw [Nat.zero_add]
  refine ⟨?_, hk'⟩
  have e := nb_sb h
  have e2 := nb_get hk'
  rw [gbD hk'] at e2
  rw [← e2, e, gi_get hlt]
theorem sb_size (l : List Int) : (sb l).size = l.length := by unfold sb strOfNums; simp [ByteArray.size]
theorem qr_len (s : ByteArray) : ∀ f i, s.size ≤ f + i → (qr s f i).length ≤ 6 * (s.size - i)
  | 0, i, h => by simp [qr]
  | f + 1, i, h => by
    simp only [qr]; split
    · simp
    · rename_i q
      have hw := dec_wid s i (by omega)
      have h1 := qr_len s f (i + (Utf8.decode s i).2) (by omega)
      have h2 := rq_len (Utf8.decode s i).1
      rw [List.length_append]; omega
/-- What was put between quotation marks is parsed to its runes. -/
theorem whole_qt {s : ByteArray} (h : s.size ≤ 1300) : whole (sb (qt s)) = .val (.txt (sb (we s))) := by
  have hat := At.sb (qt_byt s)
  have hz := sb_size (qt s)
  have hl := qr_len s s.size 0 (by omega)
  obtain ⟨S, hS⟩ : ∃ S, sb (qt s) = S := ⟨_, rfl⟩
  rw [hS] at hat hz ⊢
  unfold qt at hat hz
  have h0 := (hat.left).head
  have ht := tx_qr s S s.size 0 1 [] (by have := hat.right; simpa using this)
  simp only [List.length_append, List.length_cons, List.length_nil] at hz
  have hk0 : sk S 0 = 0 := rn_stop (by rw [h0.1]; decide)
  have hv : val S 16 0 = .ok (.txt (sb (we s))) S.size := by
    unfold val
    rw [h0.1, if_neg (by decide), if_neg (by decide), if_pos rfl, show 0 + 1 = 1 from rfl, ht]
    simp only [if_true, List.nil_append]
    rw [show (1 + (qr s s.size 0).length + 1) = S.size by omega]; rfl
  unfold whole
  rw [if_neg (by omega), hk0, hv]
  simp only
  rw [show sk S S.size = S.size from rn_stop (by rw [gb_out (Nat.le_refl _)]; decide), if_neg (by omega)]
end Go.Proofs.YtefaohokmhdplaaDoor
