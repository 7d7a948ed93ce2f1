/- What a label is made of: flag, Input, the reference's Input. -/
import Derived.Test.YtddgdaggdgeclaaDoorWirO
import Derived.Test.YtddgdaggdgeclaaDoorWirH
import Derived.Test.YtddgdaggdgeclaaDoorWirN
import Derived.Lib.ConvBytes
namespace Go.Proofs.YtddgdaggdgeclaaDoor
open Go Go.RowKit
set_option linter.unusedSimpArgs false
set_option linter.unusedVariables false
set_option maxRecDepth 100000

/-- A text's bytes. -/
def nb (s : ByteArray) : List Int := s.data.toList.map (fun b => (b.toNat : Int))
theorem nb_length (s : ByteArray) : (nb s).length = s.size := by unfold nb; rw [List.length_map, Array.length_toList]; rfl
theorem nb_get {s : ByteArray} {i : Nat} (h : i < s.size) : gi (nb s) i = ((s.data.toList.getD i 0).toNat : Int) := by
  have h' : i < s.data.toList.length := by rw [Array.length_toList]; exact h
  unfold gi nb
  simp [List.getD, h]
theorem nb_inj {s t : ByteArray} (h : nb s = nb t) : s = t := by
  unfold nb at h
  have : s.data.toList = t.data.toList := by
    refine List.map_inj_right (f := fun b : UInt8 => (b.toNat : Int)) (fun x y e => ?_) |>.1 h
    exact UInt8.toNat_inj.1 (by simpa using Int.ofNat.inj e)
  cases s; cases t
  simp only at this
  rw [Array.toList_inj.1 this]
/-- []byte(s). -/
theorem conv_any (w : World) (s : ByteArray) : ∃ w1 c, (convert 9 30 (.string s)).run Tryd.prog w = .ok (.slice (some ⟨w.heap.size, 0, none⟩) s.size c) w1 ∧ Sl w1 (.slice (some ⟨w.heap.size, 0, none⟩) s.size c) (nb s) ∧ Below w.heap.size w w1 ∧ w1.heap.size = w.heap.size + 1 := by
  have hr := Lib.run_convert_string_bytes (P := Tryd.prog) w 9 30 5 s Tryd.underlying9 Tryd.underlying30 Tryd.underlying5
  refine ⟨_, _, hr, ?_, ⟨?_, ?_, ?_, by rw [Lib.bytesWorld_size]; omega, fun k hk => Lib.bytesWorld_at_old w _ s k hk⟩, Lib.bytesWorld_size _ _ _⟩
  · refine ⟨_, _, by rw [nb_length], by rw [nb_length]; exact grownCap_ge _ _ _ _, .inr ⟨w.heap.size, 0, rfl, by rw [Lib.bytesWorld_size]; omega, fun i hi => ?_⟩⟩
    rw [nb_length] at hi
    rw [nb_get hi, Nat.zero_add]; exact Lib.bytesWorld_cell w _ s i hi
  · rfl
  · rfl
  · rfl
theorem size_al (w : World) (X : Obj) : (w.alloc X).heap.size = w.heap.size + 1 := by simp
theorem conv_al (w : World) (X : Obj) (s : ByteArray) : ∃ w1 c, (convert 9 30 (.string s)).run Tryd.prog (w.alloc X) = .ok (.slice (some ⟨w.heap.size + 1, 0, none⟩) s.size c) w1 ∧ Sl w1 (.slice (some ⟨w.heap.size + 1, 0, none⟩) s.size c) (nb s) ∧ Below (w.heap.size + 1) (w.alloc X) w1 ∧ w1.heap.size = w.heap.size + 1 + 1 := by
  obtain ⟨w1, c, h1, h2, h3, h4⟩ := conv_any (w.alloc X) s
  rw [size_al] at h1 h2 h3 h4
  exact ⟨w1, c, h1, h2, h3, h4⟩
theorem size_al_le (w : World) (X : Obj) : w.heap.size ≤ (w.alloc X).heap.size := by rw [size_al]; omega
theorem sl_cast {w : World} {v : Value} {a b : List Int} (e : a = b) (h : Sl w v a) : Sl w v b := e ▸ h
theorem Sl.none (w : World) : Sl w (.slice none 0 0) [] := ⟨_, 0, rfl, Nat.le_refl _, .inl ⟨rfl, fun _ => rfl⟩⟩
def fl1 (f : Bool) : List Int := [if f = true then 1 else 0]
/-- What a label is made of. -/
def lin (s : ByteArray) (n : Int) (f : Bool) : List (List Int) := [[108, 97, 98, 101, 108], nb s, be 8 n, fl1 f]
def inOk (s : ByteArray) (n : Int) : Bool := acct s && !decide (n = 0)
def inE (s : ByteArray) (n : Int) : Int := if inOk s n = true then 0 else 1
def inB (s : ByteArray) (n : Int) (f : Bool) : List Int := if inOk s n = true then encB (lin s n f) else []
theorem in_no {s : ByteArray} {n : Int} (h : inOk s n = false) (f : Bool) : inE s n = 1 ∧ inB s n f = [] := by unfold inE inB; rw [h]; exact ⟨rfl, rfl⟩
theorem in_yes {s : ByteArray} {n : Int} (h : inOk s n = true) (f : Bool) : inE s n = 0 ∧ inB s n f = encB (lin s n f) := by unfold inE inB; rw [h]; exact ⟨rfl, rfl⟩
theorem acct_size {s : ByteArray} (h : acct s = true) : s.size ≤ 32 := (of_decide_eq_true h).2.1
theorem lin_len (s : ByteArray) (n : Int) (f : Bool) : (lin s n f).length = 4 := rfl
theorem lin_lens {s : ByteArray} (n : Int) (f : Bool) (h : s.size ≤ 32) : Lens (lin s n f) := fun i hi => by
  have hi' : i < 4 := hi
  have h1 := nb_length s
  rcases (show i = 0 ∨ i = 1 ∨ i = 2 ∨ i = 3 by omega) with rfl | rfl | rfl | rfl
  · simp [mi, lin]
  · simp [mi, lin]; omega
  · simp [mi, lin, be_length]
  · simp [mi, lin, fl1]
theorem lin_sz (s : ByteArray) (n : Int) (f : Bool) : sz (lin s n f) 4 = 34 + s.size := by
  have h1 : mi (lin s n f) 0 = [108, 97, 98, 101, 108] := rfl
  have h2 : mi (lin s n f) 1 = nb s := rfl
  have h3 : mi (lin s n f) 2 = be 8 n := rfl
  have h4 : mi (lin s n f) 3 = fl1 f := rfl
  simp only [sz, h1, h2, h3, h4, nb_length, be_length]
  simp [fl1]; omega
theorem lin_small {s : ByteArray} (n : Int) (f : Bool) (h : s.size ≤ 32) : big (lin s n f) = false := by
  unfold big
  rw [decide_eq_false_iff_not, lin_len, lin_sz]; omega
theorem inB_len {s : ByteArray} {n : Int} (h : inOk s n = true) (f : Bool) : (inB s n f).length = 34 + s.size := by
  have ha : acct s = true := by unfold inOk at h; simp at h; exact h.1
  rw [(in_yes h f).2, (encE_ok (lin_small n f (acct_size ha))).2, encK_length, lin_len, lin_sz]
theorem fl1_inj {f g : Bool} (h : fl1 f = fl1 g) : f = g := by cases f <;> cases g <;> simp [fl1] at h ⊢
theorem lin_inj {s t : ByteArray} {n m : Int} {f g : Bool} (hn : 0 ≤ n ∧ n < 18446744073709551616) (hm : 0 ≤ m ∧ m < 18446744073709551616) (h : lin s n f = lin t m g) : s = t ∧ n = m ∧ f = g := by
  unfold lin at h
  simp only [List.cons.injEq, and_true, true_and] at h
  exact ⟨nb_inj h.1, by rw [← nm_be8 n hn.1 hn.2, ← nm_be8 m hm.1 hm.2, h.2.1], fl1_inj h.2.2⟩
theorem encB_inj {xs ys : List (List Int)} (h1 : big xs = false) (h2 : big ys = false) (h : encB xs = encB ys) : xs = ys := by
  rw [← (decode_enc xs h1).2, ← (decode_enc ys h2).2, h]
/-- No two have one input. -/
theorem in_inj {s t : ByteArray} {n m : Int} {f g : Bool} (hn : 0 ≤ n ∧ n < 18446744073709551616) (hm : 0 ≤ m ∧ m < 18446744073709551616) (h1 : inOk s n = true) (h2 : inOk t m = true) (h : inB s n f = inB t m g) : s = t ∧ n = m ∧ f = g := by
  have a1 : acct s = true := by unfold inOk at h1; simp at h1; exact h1.1
  have a2 : acct t = true := by unfold inOk at h2; simp at h2; exact h2.1
  rw [(in_yes h1 f).2, (in_yes h2 g).2] at h
  exact lin_inj hn hm (encB_inj (lin_small n f (acct_size a1)) (lin_small m g (acct_size a2)) h)
/-- The four members, laid in a new row. -/
theorem lin_LL {w2 w3 w4 w5 : World} {s : ByteArray} {n : Int} {f : Bool} {v0 v1 v2 v3 : Value} (h0 : Sl w2 v0 [108, 97, 98, 101, 108]) (h1 : Sl w3 v1 (nb s)) (h2 : Sl w4 v2 (be 8 n)) (h3 : Sl w5 v3 (fl1 f)) (b3 : Below w2.heap.size w2 w3) (b4 : Below w3.heap.size w3 w4) (b5 : Below w4.heap.size w4 w5) :
    LL (w5.alloc (.cells #[v0, v1, v2, v3] 30)) (.slice (some ⟨w5.heap.size, 0, none⟩) 4 4) (lin s n f) ∧ Below w5.heap.size w5 (w5.alloc (.cells #[v0, v1, v2, v3] 30)) := by
  have hbl : Below w5.heap.size w5 (w5.alloc (.cells #[v0, v1, v2, v3] 30)) := (Below.refl _ w5).alloc (Nat.le_refl _) _
  refine ⟨⟨_, 4, rfl, Nat.le_refl _, .inr ⟨w5.heap.size, 0, rfl, by simp, fun i hi => ?_⟩⟩, hbl⟩
  have hi' : i < 4 := hi
  rw [Nat.zero_add, cell_alloc]
  rcases (show i = 0 ∨ i = 1 ∨ i = 2 ∨ i = 3 by omega) with rfl | rfl | rfl | rfl
  · exact ⟨_, rfl, (((h0.below b3 (Nat.le_refl _)).below b4 (Nat.le_refl _)).below b5 (Nat.le_refl _)).below hbl (Nat.le_refl _)⟩
  · exact ⟨_, rfl, ((h1.below b4 (Nat.le_refl _)).below b5 (Nat.le_refl _)).below hbl (Nat.le_refl _)⟩
  · exact ⟨_, rfl, (h2.below b5 (Nat.le_refl _)).below hbl (Nat.le_refl _)⟩
  · exact ⟨_, rfl, h3.below hbl (Nat.le_refl _)⟩
theorem flag_any (f : Bool) (w : World) : Calls Tryd.prog 19 #[.bool f] w fun e w' => ∃ v', e = .returned v' ∧ Sl w' v' (fl1 f) ∧ Below w.heap.size w w' := by
  go_enter Tryd.func19, Tryd.ntmps19
  cases f
  · go_wp2_with fail
    go_ret
    exact ⟨_, rfl, Sl.one w 0 _, (Below.refl _ w).alloc (Nat.le_refl _) _⟩
  · go_wp2_with fail
    go_ret
    exact ⟨_, rfl, Sl.one w 1 _, (Below.refl _ w).alloc (Nat.le_refl _) _⟩
def C5 : Array Value := #[.int .u8 108, .int .u8 97, .int .u8 98, .int .u8 101, .int .u8 108]
theorem sl_c5 (w : World) : Sl (w.alloc (.cells #[.int .u8 108, .int .u8 97, .int .u8 98, .int .u8 101, .int .u8 108] 5 (5, 6))) (.slice (some ⟨w.heap.size, 0, none⟩) 5 5) [108, 97, 98, 101, 108] := by
  refine ⟨_, 5, rfl, Nat.le_refl _, .inr ⟨w.heap.size, 0, rfl, by simp, fun i hi => ?_⟩⟩
  have hi' : i < 5 := hi
  rw [Nat.zero_add, cell_alloc]
  rcases (show i = 0 ∨ i = 1 ∨ i = 2 ∨ i = 3 ∨ i = 4 by omega) with rfl | rfl | rfl | rfl | rfl <;> rfl
set_option maxHeartbeats 2000000 in
theorem input_any (s : ByteArray) (n : Int) (f : Bool) (w : World) (hs : s.size ≤ 140737488355328) (hn : 0 ≤ n ∧ n < 18446744073709551616) :
    Calls Tryd.prog 9 #[.string s, .int .u64 n, .bool f] w fun e w' => ∃ v', e = .returned (.tuple #[v', .int .i64 (inE s n)]) ∧ Sl w' v' (inB s n f) ∧ Below w.heap.size w w' := by
  obtain ⟨A, hA⟩ : ∃ A, acct s = A := ⟨_, rfl⟩
  have EA : Hid (acct s = A) := hA
  have HN : Hid (0 ≤ n ∧ n < 18446744073709551616) := hn
  clear hA
  obtain ⟨E, hE⟩ : ∃ E, inE s n = E := ⟨_, rfl⟩
  obtain ⟨B, hB⟩ : ∃ B, inB s n f = B := ⟨_, rfl⟩
  have HE : Hid (inE s n = E) := hE
  have HB : Hid (inB s n f = B) := hB
  rw [hE, hB]
  clear hE hB
  go_enter Tryd.func9, Tryd.ntmps9
  cases A with
  | false =>
    have hno : inOk s n = false := by unfold inOk; rw [EA.out]; rfl
    have e1 : E = 1 := by rw [← HE.out]; exact (in_no hno f).1
    have e2 : B = [] := by rw [← HB.out]; exact (in_no hno f).2
    subst e1
    subst e2
    clear hn hno
    go_wp2_with (go_at_call 16; refine (account_any s w hs).mono ?_; rintro e w1 ⟨rfl, h1⟩; rw [EA.out]; have H1 : Hid (Below w.heap.size w w1) := h1; clear h1)
    go_ret2
    exact ⟨_, rfl, Sl.none _, H1.out⟩
  | true =>
    by_cases h0 : n = 0
    · have hno : inOk s n = false := by unfold inOk; rw [EA.out, h0]; rfl
      have e1 : E = 1 := by rw [← HE.out]; exact (in_no hno f).1
      have e2 : B = [] := by rw [← HB.out]; exact (in_no hno f).2
      subst e1
      subst e2
      subst h0
      clear hn hno
      go_wp2_with (go_at_call 16; refine (account_any s w hs).mono ?_; rintro e w1 ⟨rfl, h1⟩; rw [EA.out]; have H1 : Hid (Below w.heap.size w w1) := h1; clear h1)
      go_ret2
      exact ⟨_, rfl, Sl.none _, H1.out⟩
    · have hyes : inOk s n = true := by unfold inOk; rw [EA.out]; simp [h0]
      have e1 : E = 0 := by rw [← HE.out]; exact (in_yes hyes f).1
      have HBB : Hid (encB (lin s n f) = B) := by show _ = _; rw [← HB.out]; exact (in_yes hyes f).2.symm
      have HEE : Hid (encE (lin s n f) = 0) := (encE_ok (lin_small n f (acct_size EA.out))).1
      have HLN : Hid ((lin s n f).length ≤ 140737488355328) := by show _ ≤ _; rw [lin_len]; omega
      have HLE : Hid (Lens (lin s n f)) := lin_lens n f (acct_size EA.out)
      subst e1
      clear hn hyes
      go_wp2_with (first
        | (go_at_call 16; refine (account_any s w hs).mono ?_; rintro e w1 ⟨rfl, h1⟩; rw [EA.out]; have H1 : Hid (Below w.heap.size w w1) := h1; clear h1
           have hcv := conv_same 5 5 #[.int .u8 108, .int .u8 97, .int .u8 98, .int .u8 101, .int .u8 108] 5 w1
           obtain ⟨w3, cp, hr, q1, q2, q3⟩ := conv_al w1 (.cells #[.int .u8 108, .int .u8 97, .int .u8 98, .int .u8 101, .int .u8 108] 5 (5, 6)) s
           have S0 : Hid (Sl (w1.alloc (.cells #[.int .u8 108, .int .u8 97, .int .u8 98, .int .u8 101, .int .u8 108] 5 (5, 6))) (.slice (some ⟨w1.heap.size, 0, none⟩) 5 5) [108, 97, 98, 101, 108]) := sl_c5 w1
           have B2 : Hid (Below w.heap.size w (w1.alloc (.cells #[.int .u8 108, .int .u8 97, .int .u8 98, .int .u8 101, .int .u8 108] 5 (5, 6)))) := H1.out.alloc H1.out.size _
           have S1 : Hid (Sl w3 (.slice (some ⟨w1.heap.size + 1, 0, none⟩) s.size cp) (nb s)) := q1
           have B3 : Hid (Below (w1.alloc (.cells #[.int .u8 108, .int .u8 97, .int .u8 98, .int .u8 101, .int .u8 108] 5 (5, 6))).heap.size (w1.alloc (.cells #[.int .u8 108, .int .u8 97, .int .u8 98, .int .u8 101, .int .u8 108] 5 (5, 6))) w3) := by show Below _ _ _; rw [size_al]; exact q2
           clear q1 q2 q3)
        | (go_at_call 18; refine (num_any n w3 HN.out.1 HN.out.2).mono ?_; rintro e w4 ⟨v4, rfl, h1, h2⟩
           obtain ⟨a4, c4, e4, -, -⟩ := h1.sl
           rw [be_length] at e4
           subst e4
           have S4 : Hid (Sl w4 (.slice a4 8 c4) (be 8 n)) := h1.sl
           have B4 : Hid (Below w3.heap.size w3 w4) := h2
           clear h1 h2)
        | (go_at_call 19; refine (flag_any f w4).mono ?_; rintro e w5 ⟨v5, rfl, h1, h2⟩
           obtain ⟨a5, c5, e5, -, -⟩ := id h1
           rw [show (fl1 f).length = 1 from rfl] at e5
           subst e5
           have S5 : Hid (Sl w5 (.slice a5 1 c5) (fl1 f)) := h1
           have B5 : Hid (Below w4.heap.size w4 w5) := h2
           clear h1 h2))
      have hq := (lin_LL (n := n) (f := f) S0.out S1.out S4.out S5.out B3.out B4.out B5.out).1
      refine (encode_any (lin s n f) _ _ (id hq) HLE.out HLN.out).mono ?_
      rintro e w6 ⟨v6, rfl, h1, h2⟩
      rw [HEE.out]
      have S6 : Hid (Sl w6 v6 B) := sl_cast HBB.out h1.sl
      have B6 : Hid (Below (w5).heap.size (w5) w6) := (lin_LL (n := n) (f := f) S0.out S1.out S4.out S5.out B3.out B4.out B5.out).2.trans (h2.mono (size_al_le _ _))
      clear h1 h2 hq
      go_wp2_with fail
      go_ret2
      have k5 := B5.out.trans (B6.out.mono B5.out.size)
      have k4 := B4.out.trans (k5.mono B4.out.size)
      have k3 := B3.out.trans (k4.mono B3.out.size)
      exact ⟨_, rfl, S6.out, B2.out.trans (k3.mono B2.out.size)⟩
end Go.Proofs.YtddgdaggdgeclaaDoor
