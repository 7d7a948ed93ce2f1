/- The reference for JSON: strings. -/
import Derived.Test.YtefaohokmhdplaaDoorJxC
import Derived.Test.YtefaohokmhdplaaDoorJxE
namespace Go.Proofs.YtefaohokmhdplaaDoor
open Go Go.RowKit
set_option linter.unusedSimpArgs false
set_option linter.unusedVariables false
set_option maxRecDepth 100000

variable {w : World} {g : Nat} {s : ByteArray} {i d : Nat} {l : Bool}
theorem nb_sb {xs : List Int} (h : Byt xs) : nb (sb xs) = xs := by
  have hz : (sb xs).size = xs.length := by unfold sb strOfNums; simp [ByteArray.size]
  apply List.ext_getElem (by rw [nb_length, hz])
  intro k h1 h2
  have hk : k < (sb xs).size := by rw [hz]; exact h2
  rw [← gi_get h1, nb_get hk, gbD hk, gb_in hk]
  have hx := h _ (List.getElem_mem h2)
  have e : (sb xs)[k]'hk = UInt8.ofNat (xs[k]).toNat := by
    show (strOfNums xs).data[k]'_ = _
    simp [strOfNums]
  rw [e]
  simp; omega
theorem enc_byt (r : Int) : Byt (Lib.encodeRuneZ r) := fun x hx => by have := Lib.encodeRuneZ_byte r x hx; omega
def rt10 (g j n k : Nat) (s t : ByteArray) (u4 : Value) : Nat → Value
  | 0 => u4
  | 1 => .pointer (some ⟨g, 0, none⟩)
  | 2 => .pointer (some ⟨g, 0, none⟩)
  | 3 => .pointer (some ⟨g, 0, none⟩)
  | 4 => .string s
  | 5 => .pointer (some ⟨g, 0, none⟩)
  | 6 => .pointer (some ⟨g, 0, none⟩)
  | 7 => .pointer (some ⟨g, 1, none⟩)
  | 8 => .int .i64 (j : Int)
  | 9 => .pointer (some ⟨g, 0, none⟩)
  | 10 => .pointer (some ⟨g, 0, none⟩)
  | 11 => .pointer (some ⟨g, 1, none⟩)
  | 12 => .int .i64 (j : Int)
  | 13 => .int .i64 (n : Int)
  | 14 => .int .i64 (k : Int)
  | 15 => .string t
  | 16 => undef
  | 17 => undef
  | _ => undef
/-- What a string's reading answers. -/
def rtV (x : (List Int × Nat) × Bool) : Value := match x with
  | ((xs, _), true) => .tuple #[.string (sb xs), .bool true]
  | (_, false) => .tuple #[.string ⟨#[]⟩, .bool false]
set_option maxHeartbeats 16000000 in
theorem rtext_any (h : RB w g s i d l) (hi : i < s.size) (h34 : gb s i = 34) (hs : s.size ≤ 8192) :
    Calls Tryd.prog 49 #[.pointer (some ⟨g, 0, none⟩)] w fun e w' => e = .returned (rtV (tx s (i + 1) [])) ∧ RB w' g s (tx s (i + 1) []).1.2 d l ∧ Cg g w w' := by
  have H : Hid (RB w g s i d l) := h
  have HS : Hid (s.size ≤ 8192) := hs
  have hglt := h.lt
  obtain ⟨q0, q1, q2, q3⟩ := h.cells
  have f1 := h.froz 1
  have hb9 : (i : Int) ≤ 8192 := by omega
  have hb8 : (0 : Int) ≤ (i : Int) := by omega
  have hil : (i : Int) < (s.size : Int) := by omega
  have HI : Hid (i ≤ s.size) := Nat.le_of_lt hi
  have HI1 : Hid (i + 1 ≤ s.size) := hi
  obtain ⟨R, hR⟩ : ∃ R, tx s (i + 1) [] = R := ⟨_, rfl⟩
  have HR : Hid (tx s (i + 1) [] = R) := hR
  rw [hR]
  have H34 : Hid (gb s i = 34) := h34
  have HST : Hid (∀ n, RB ((w.drewN n).setCell ⟨g, 1, none⟩ (.int .i64 ((i : Int) + 1))) g s (i + 1) d l ∧ Cg g w ((w.drewN n).setCell ⟨g, 1, none⟩ (.int .i64 ((i : Int) + 1)))) := fun n => ⟨(H.out.drew n).set1 (i + 1), Chg.setCell (F := fun b => b = g) (Chg.drew (Chg.refl _ _) n) rfl⟩
  clear h hs hR
  go_enter Tryd.func49, Tryd.ntmps49
  go_wp2
  go_quiet ((go_at_call 46; exact Calls.quiet_of (rhere_at H.out (by rfl) HI.out HS.out)))
  go_wp2_with fail
  rw [show decide (s.size ≤ i) = false from decide_eq_false (by omega)]
  go_loopw [4] (fun v4 W => ∃ (j : Nat) (L : List Int), RB W g s j d l ∧ Cg g w W ∧ j ≤ s.size ∧ Ow w.heap.size W v4 L ∧ Hid (tx s j L = R ∧ L.length ≤ 4 * j)) (fun _ W => s.size + 1 - posOf W g)
  case atStart => exact ⟨i + 1, [], (HST.out _).1, (HST.out _).2, HI1.out, Ow.nil _ _, HR.out, by simp⟩
  case round =>
    obtain ⟨j, L, hp, hc, hj, how, hh⟩ := hrel
    have HPU : Hid (RB wr g s j d l) := hp
    have HCU : Hid (Cg g w wr) := hc
    have HOW0 : Hid (Ow w.heap.size wr u4 L) := how
    have HSZ0 : Hid (w.heap.size ≤ wr.heap.size) := hc.size
    have HH : Hid (tx s j L = R ∧ L.length ≤ 4 * j) := hh
    have HPS : Hid (posOf wr g = j) := hp.pos
    obtain ⟨r0, r1, r2, r3⟩ := hp.cells
    have f2 := hp.froz 1
    have hb5 : (j : Int) ≤ 8192 := by have := HS.out; omega
    have hb6 : (0 : Int) ≤ (j : Int) := by omega
    have HE := tx_eq s j L
    rw [show tx s j L = R from hh.1] at HE
    clear hp hc how hh h34 q0 q1 q2 q3 f1
    by_cases hjl : s.size ≤ j
    · have hjl' : (s.size : Int) ≤ (j : Int) := by omega
      have HRR : Hid (R = ((L, j), false)) := by rw [if_pos hjl] at HE; exact HE
      clear HE
      go_wp2
      go_quiet (fail)
      go_wp2
      go_ret2
      rw [HRR.out]
      exact ⟨rfl, HPU.out.drew _, HCU.out.drawn _⟩
    have hjl' : ¬ (s.size : Int) ≤ (j : Int) := by omega
    have hjl'' : (j : Int) < (s.size : Int) := by omega
    have hlt : j < s.size := by omega
    rw [if_neg hjl] at HE
    have X0 := idx_gb hlt
    obtain ⟨c, hc⟩ : ∃ c, (s[j]'hlt).toNat = c := ⟨_, rfl⟩
    rw [hc] at X0
    rw [← X0] at HE
    have HX : Hid ((c : Int) = gb s j) := X0
    clear X0
    by_cases e34 : (c : Int) = 34
    · have HRR : Hid (R = ((L, j + 1), true)) := by rw [if_pos e34] at HE; exact HE
      have HF : Hid (∀ n, RB ((wr.drewN n).setCell ⟨g, 1, none⟩ (.int .i64 ((j : Int) + 1))) g s (j + 1) d l ∧ Cg g w ((wr.drewN n).setCell ⟨g, 1, none⟩ (.int .i64 ((j : Int) + 1))) ∧ (convert 76 9 u4).run Tryd.prog ((wr.drewN n).setCell ⟨g, 1, none⟩ (.int .i64 ((j : Int) + 1))) = .ok (.string (strOfNums L)) ((wr.drewN n).setCell ⟨g, 1, none⟩ (.int .i64 ((j : Int) + 1)))) := fun n => ⟨(HPU.out.drew n).set1 (j + 1), Chg.setCell (F := fun b => b = g) (HCU.out.drawn n) rfl, ((show Ow w.heap.size (wr.drewN n) u4 L from HOW0.out).keep (fun b e => Below.heap_setCell _ _ _ _ (by have := HOW0.out.blk b e; show b ≠ g; omega))).sl.str⟩
      obtain rfl : c = 34 := by omega
      clear HE
      go_wp2
      go_quiet (fail)
      go_wp2
      go_quiet (fail)
      try simp only [World.drewN_drewN]
      have hcv := fun n => (HF.out n).2.2
      go_wp2
      go_ret2
      rw [HRR.out]
      exact ⟨rfl, (HF.out _).1, (HF.out _).2.1⟩
    rw [if_neg e34] at HE
    by_cases e32 : (c : Int) < 32
    · have HRR : Hid (R = ((L, j), false)) := by rw [if_pos e32] at HE; exact HE
      clear HE
      go_wp2
      go_quiet (fail)
      go_wp2
      go_quiet (fail)
      go_wp2
      go_ret2
      rw [HRR.out]
      try simp only [World.drewN_drewN]
      exact ⟨rfl, HPU.out.drew _, HCU.out.drawn _⟩
    rw [if_neg e32] at HE
    by_cases e92 : (c : Int) = 92
    · have HES : Hid (∀ n, Calls Tryd.prog 64 #[.pointer (some ⟨g, 0, none⟩)] (wr.drewN n) fun e w' => e = .returned (reV (esc s j)) ∧ RB w' g s (j + reN (esc s j)) d l ∧ Cg g (wr.drewN n) w') := fun n => rescape_any (HPU.out.drew n) hlt HS.out
      have hin := fun r n => @esc_in s j n r
      rw [if_pos e92] at HE
      obtain ⟨o, ho⟩ : ∃ o, esc s j = o := ⟨_, rfl⟩
      rw [ho] at HE HES
      simp only [ho] at hin
      obtain rfl : c = 92 := by omega
      clear ho e34 e32 e92
      cases o with
      | none =>
        have HRR : Hid (R = ((L, j), false)) := HE
        clear HE hin
        go_wp2
        go_quiet (fail)
        go_wp2
        go_quiet (fail)
        go_wp2_with fail
        try simp only [World.drewN_drewN]
        refine (HES.out _).mono ?_
        rw [show reV none = .tuple #[.string ⟨#[]⟩, .bool false] from rfl]
        rintro e W2 ⟨rfl, p, cc⟩
        have HP2 : Hid (RB W2 g s j d l) := p
        have HC2 : Hid (Cg g w W2) := Chg.trans (HCU.out.drawn _) cc
        clear p cc
        go_wp2
        go_ret2
        rw [HRR.out]
        exact ⟨rfl, HP2.out, HC2.out⟩
      | some rn =>
        obtain ⟨r, m⟩ := rn
        have HRR : Hid (tx s (j + m) (L ++ Lib.encodeRuneZ r) = R) := HE.symm
        obtain ⟨z1, z2, z3, z4, -⟩ := hin r m rfl
        clear HE hin
        go_wp2
        go_quiet (fail)
        go_wp2
        go_quiet (fail)
        go_wp2_with fail
        try simp only [World.drewN_drewN]
        refine (HES.out _).mono ?_
        obtain ⟨t, ht⟩ : ∃ t, sb (Lib.encodeRuneZ r) = t := ⟨_, rfl⟩
        rw [show reV (some (r, m)) = .tuple #[.string t, .bool true] from by rw [← ht]; rfl]
        rintro e W2 ⟨rfl, p, cc⟩
        have HNB : Hid (nb t = Lib.encodeRuneZ r) := by rw [← ht]; exact nb_sb (enc_byt r)
        have HTL : Hid (t.size ≤ 4) := by show _ ≤ _; rw [← nb_length, HNB.out]; exact (Lib.encodeRuneZ_length r).2
        have HP2 : Hid (RB W2 g s (j + m) d l) := p
        have HC2 : Hid (Cg g w W2) := Chg.trans (HCU.out.drawn _) cc
        have HO2 : Hid (Ow w.heap.size W2 u4 L) := (show Ow w.heap.size _ u4 L from HOW0.out).keep (fun b e => cc.other b (HOW0.out.lt b e) (by have := HOW0.out.blk b e; omega))
        have HB2 : Hid (w.heap.size ≤ W2.heap.size) := HC2.out.size
        have HLK : Hid (L.length + t.size ≤ 140737488355328) := by show _ ≤ _; have := HTL.out; have := HH.out.2; have := HS.out; omega
        clear p cc ht
        go_wp2_with (at_builtin; refine app_str rfl (.tmp 112) (.tmp 113) rfl HB2.out u4 L rfl HO2.out t rfl HLK.out ?_; intro v' W3 o1 o2 o3; have HO3 : Hid (Ow w.heap.size W3 v' (L ++ nb t)) := o1; have HG3 : Hid (Below w.heap.size W2 W3) := o3; clear o1 o2 o3)
        have HO4 : Hid (Ow w.heap.size W3 v' (L ++ Lib.encodeRuneZ r)) := by rw [← HNB.out]; exact HO3.out
        have HL4 : Hid ((L ++ Lib.encodeRuneZ r).length ≤ 4 * (j + m)) := by show _ ≤ _; rw [List.length_append]; have := (Lib.encodeRuneZ_length r).2; have := HH.out.2; omega
        go_roundw
        case rel => exact ⟨j + m, L ++ Lib.encodeRuneZ r, HP2.out.keep (HG3.out.block _ hglt), HC2.out.then HG3.out (Nat.le_refl _), z1, HO4.out, HRR.out, HL4.out⟩
        case measure => rw [(HP2.out.keep (HG3.out.block _ hglt)).pos, HPS.out]; omega
    rw [if_neg e92] at HE
    have HRU : Hid (∀ w, Calls Tryd.prog 58 #[.string s, .int .i64 (j : Int)] w fun e w' => e = .returned (.int .i64 ((rl s j : Nat) : Int)) ∧ w' = w) := fun w => rRune_any hlt (by have := HS.out; omega) w
    have hrl := rl_in (s := s) (i := j) hlt
    obtain ⟨n, hn⟩ : ∃ n, rl s j = n := ⟨_, rfl⟩
    have HCB : Hid (nb (s.extract j (j + n)) = cutb s j n) := by
      have := nb_piece (s := s) (i := j) (j := j + n) (by omega)
      rw [show j + n - j = n by omega] at this; exact this
    rw [hn] at HE HRU hrl
    clear hn
    by_cases e0 : n = 0
    · have HRR : Hid (R = ((L, j), false)) := by rw [if_pos e0] at HE; exact HE
      subst e0
      clear HE
      go_wp2
      go_quiet (fail)
      go_wp2
      go_quiet (fail)
      go_wp2
      go_quiet ((go_at_call 58; exact quiet_add (HRU.out _)))
      go_wp2
      go_ret2
      rw [HRR.out]
      try simp only [World.drewN_drewN]
      exact ⟨rfl, HPU.out.drew _, HCU.out.drawn _⟩
    · rw [if_neg e0] at HE
      have HRR : Hid (tx s (j + n) (L ++ cutb s j n) = R) := HE.symm
      have e0' : ¬ (n : Int) = 0 := by omega
      clear HE e0
      go_wp2
      go_quiet (fail)
      go_wp2
      go_quiet (fail)
      go_wp2
      go_quiet ((go_at_call 58; exact quiet_add (HRU.out _)))
      try simp only [World.drewN_drewN]
      generalize hW1 : wr.drewN _ = W1
      have HP1 : Hid (RB W1 g s j d l) := by show RB _ _ _ _ _ _; rw [← hW1]; exact HPU.out.drew _
      have HC1 : Hid (Cg g w W1) := by show Cg _ _ _; rw [← hW1]; exact HCU.out.drawn _
      have HOW : Hid (Ow w.heap.size W1 u4 L) := by show Ow _ _ _ _; rw [← hW1]; exact HOW0.out
      have HSZ : Hid (w.heap.size ≤ W1.heap.size) := HC1.out.size
      clear hW1 HPU HCU HOW0 HSZ0 HRU r0 r1 r2 r3 f2
      obtain ⟨k, hk⟩ : ∃ k, j + n = k := ⟨_, rfl⟩
      have hks : k ≤ s.size := by omega
      have hjk' : (j : Int) ≤ (k : Int) := by omega
      have hks' : (k : Int) ≤ (s.size : Int) := by omega
      have HWJ : Hid (IntKind.i64.wrap ((j : Int) + (n : Int)) = (k : Int)) := by show _ = _; have := HS.out; rw [IntKind.wrap_i64]; omega
      have HK : Hid ((j : Int) + (n : Int) = (k : Int)) := by show (_ : Int) = _; omega
      obtain ⟨t, ht⟩ : ∃ t, s.extract j k = t := ⟨_, rfl⟩
      have HT : Hid (s.extract j k = t) := ht
      have HNB : Hid (nb t = cutb s j n) := by rw [← ht, ← hk]; exact HCB.out
      have HTS : Hid (t.size = n) := by rw [← ht, ByteArray.size_extract]; show _ = _; omega
      have HLT : Hid (L.length + t.size ≤ 140737488355328) := by show _ ≤ _; rw [HTS.out]; have := HH.out.2; have := HS.out; omega
      clear ht
      go_upto_region 10 with (fail)
      refine RU.wp_rgn' [16, 17] (rt10 g j n k s t u4) apK (apO w.heap.size W1 (L ++ nb t)) (by kernel_rfl) (by kernel_rfl) (show Below W1.heap.size W1 _ from (Below.refl _ _).drew) ?_ ?_
      · refine ⟨?_, ?_, ?_, ?_, ?_, ?_, ?_, ?_, ?_, ?_, ?_, ?_, ?_, ?_, ?_, ?_, ?_, ?_, trivial⟩
        · refine RU.ObT.pure rfl rfl rfl (fun a V hf hp ev he hc W => ?_)
          have q4 : ev (.tmp 4) = u4 := (he (.tmp 4)).trans (hf 4 rfl)
          simp only [List.getElem_toArray, List.getElem_cons_succ, List.getElem_cons_zero, execOp, Option.map_some, Option.map_none]; rw [q4]
          first | (go_simp; done) | (go_simp; rfl) | rfl
        · refine RU.ObT.pure rfl rfl rfl (fun a V hf hp ev he hc W => ?_)
          have q0 : ev (.tmp 0) = .pointer (some ⟨g, 0, none⟩) := (he (.tmp 0)).trans (hf 0 rfl)
          simp only [List.getElem_toArray, List.getElem_cons_succ, List.getElem_cons_zero, execOp, Option.map_some, Option.map_none]; rw [q0]
          first | (go_simp; done) | (go_simp; rfl) | rfl
        · refine RU.ObT.pure rfl rfl rfl (fun a V hf hp ev he hc W => ?_)
          have q62 : ev (.tmp 62) = .pointer (some ⟨g, 0, none⟩) := (he (.tmp 62)).trans (hp 1 62 rfl)
          simp only [List.getElem_toArray, List.getElem_cons_succ, List.getElem_cons_zero, execOp, Option.map_some, Option.map_none]; rw [q62]
          first | (go_simp; done) | (go_simp; rfl) | rfl
        · refine RU.ObT.pure rfl rfl rfl (fun a V hf hp ev he hc W => ?_)
          have q63 : ev (.tmp 63) = .pointer (some ⟨g, 0, none⟩) := (he (.tmp 63)).trans (hp 2 63 rfl)
          simp only [List.getElem_toArray, List.getElem_cons_succ, List.getElem_cons_zero, execOp, Option.map_some, Option.map_none]; rw [q63]
          first | (go_simp; done) | (go_simp; rfl) | rfl
        · refine RU.ObT.silent rfl (fun a W k0 V hO hf hp hk => ?_)
          have hO' : Below w.heap.size W1 W := apO.low HSZ.out hO
          have hcell := (HP1.out.keep (hO'.block _ hglt)).cells.1
          refine RU.ob_val rfl (RU.wanted_none rfl) (fun ev he hc => ?_) ⟨rfl, hO⟩
          have q64 : ev (.tmp 64) = .pointer (some ⟨g, 0, none⟩) := (he (.tmp 64)).trans (hp 3 64 rfl)
          simp only [List.getElem_toArray, List.getElem_cons_succ, List.getElem_cons_zero, execOp, Option.map_some, Option.map_none]; rw [q64]
          first | (go_simp; done) | (go_simp; rfl) | rfl
        · refine RU.ObT.pure rfl rfl rfl (fun a V hf hp ev he hc W => ?_)
          have q0 : ev (.tmp 0) = .pointer (some ⟨g, 0, none⟩) := (he (.tmp 0)).trans (hf 0 rfl)
          simp only [List.getElem_toArray, List.getElem_cons_succ, List.getElem_cons_zero, execOp, Option.map_some, Option.map_none]; rw [q0]
          first | (go_simp; done) | (go_simp; rfl) | rfl
        · refine RU.ObT.pure rfl rfl rfl (fun a V hf hp ev he hc W => ?_)
          have q66 : ev (.tmp 66) = .pointer (some ⟨g, 0, none⟩) := (he (.tmp 66)).trans (hp 5 66 rfl)
          simp only [List.getElem_toArray, List.getElem_cons_succ, List.getElem_cons_zero, execOp, Option.map_some, Option.map_none]; rw [q66]
          first | (go_simp; done) | (go_simp; rfl) | rfl
        · refine RU.ObT.pure rfl rfl rfl (fun a V hf hp ev he hc W => ?_)
          have q67 : ev (.tmp 67) = .pointer (some ⟨g, 0, none⟩) := (he (.tmp 67)).trans (hp 6 67 rfl)
          simp only [List.getElem_toArray, List.getElem_cons_succ, List.getElem_cons_zero, execOp, Option.map_some, Option.map_none]; rw [q67]
          first | (go_simp; done) | (go_simp; rfl) | rfl
        · refine RU.ObT.silent rfl (fun a W k0 V hO hf hp hk => ?_)
          have hO' : Below w.heap.size W1 W := apO.low HSZ.out hO
          have hcell := (HP1.out.keep (hO'.block _ hglt)).cells.2.1
          refine RU.ob_val rfl (RU.wanted_none rfl) (fun ev he hc => ?_) ⟨rfl, hO⟩
          have q68 : ev (.tmp 68) = .pointer (some ⟨g, 1, none⟩) := (he (.tmp 68)).trans (hp 7 68 rfl)
          simp only [List.getElem_toArray, List.getElem_cons_succ, List.getElem_cons_zero, execOp, Option.map_some, Option.map_none]; rw [q68]
          first | (go_simp; done) | (go_simp; rfl) | rfl
        · refine RU.ObT.pure rfl rfl rfl (fun a V hf hp ev he hc W => ?_)
          have q0 : ev (.tmp 0) = .pointer (some ⟨g, 0, none⟩) := (he (.tmp 0)).trans (hf 0 rfl)
          simp only [List.getElem_toArray, List.getElem_cons_succ, List.getElem_cons_zero, execOp, Option.map_some, Option.map_none]; rw [q0]
          first | (go_simp; done) | (go_simp; rfl) | rfl
        · refine RU.ObT.pure rfl rfl rfl (fun a V hf hp ev he hc W => ?_)
          have q70 : ev (.tmp 70) = .pointer (some ⟨g, 0, none⟩) := (he (.tmp 70)).trans (hp 9 70 rfl)
          simp only [List.getElem_toArray, List.getElem_cons_succ, List.getElem_cons_zero, execOp, Option.map_some, Option.map_none]; rw [q70]
          first | (go_simp; done) | (go_simp; rfl) | rfl
        · refine RU.ObT.pure rfl rfl rfl (fun a V hf hp ev he hc W => ?_)
          have q71 : ev (.tmp 71) = .pointer (some ⟨g, 0, none⟩) := (he (.tmp 71)).trans (hp 10 71 rfl)
          simp only [List.getElem_toArray, List.getElem_cons_succ, List.getElem_cons_zero, execOp, Option.map_some, Option.map_none]; rw [q71]
          first | (go_simp; done) | (go_simp; rfl) | rfl
        · refine RU.ObT.silent rfl (fun a W k0 V hO hf hp hk => ?_)
          have hO' : Below w.heap.size W1 W := apO.low HSZ.out hO
          have hcell := (HP1.out.keep (hO'.block _ hglt)).cells.2.1
          refine RU.ob_val rfl (RU.wanted_none rfl) (fun ev he hc => ?_) ⟨rfl, hO⟩
          have q72 : ev (.tmp 72) = .pointer (some ⟨g, 1, none⟩) := (he (.tmp 72)).trans (hp 11 72 rfl)
          simp only [List.getElem_toArray, List.getElem_cons_succ, List.getElem_cons_zero, execOp, Option.map_some, Option.map_none]; rw [q72]
          first | (go_simp; done) | (go_simp; rfl) | rfl
        · refine RU.ObT.pure rfl rfl rfl (fun a V hf hp ev he hc W => ?_)
          have q8 : ev (.tmp 8) = .int .i64 (n : Int) := (he (.tmp 8)).trans (hf 8 rfl)
          simp only [List.getElem_toArray, List.getElem_cons_succ, List.getElem_cons_zero, execOp, Option.map_some, Option.map_none]; rw [q8]
          first | (go_simp; done) | (go_simp; rfl) | rfl
        · refine RU.ObT.pure rfl rfl rfl (fun a V hf hp ev he hc W => ?_)
          have q73 : ev (.tmp 73) = .int .i64 (j : Int) := (he (.tmp 73)).trans (hp 12 73 rfl)
          have q74 : ev (.tmp 74) = .int .i64 (n : Int) := (he (.tmp 74)).trans (hp 13 74 rfl)
          simp only [List.getElem_toArray, List.getElem_cons_succ, List.getElem_cons_zero, execOp, Option.map_some, Option.map_none]; rw [q73, q74]
          (go_simp; rw [HWJ.out]; rfl)
        · refine RU.ObT.pure rfl rfl rfl (fun a V hf hp ev he hc W => ?_)
          have q65 : ev (.tmp 65) = .string s := (he (.tmp 65)).trans (hp 4 65 rfl)
          have q69 : ev (.tmp 69) = .int .i64 (j : Int) := (he (.tmp 69)).trans (hp 8 69 rfl)
          have q75 : ev (.tmp 75) = .int .i64 (k : Int) := (he (.tmp 75)).trans (hp 14 75 rfl)
          simp only [List.getElem_toArray, List.getElem_cons_succ, List.getElem_cons_zero, execOp, Option.map_some, Option.map_none]; rw [q65, q69, q75]
          rw [← HT.out]
          first | (go_simp; done) | (go_simp; rfl) | rfl
        · refine RU.ObT.loud (j := 0) rfl (fun a W V hO hf hp => ?_)
          have hO' : Below W1.heap.size W1 W := hO
          have q26 : a.eval (.tmp 61) = u4 := hp 0 61 rfl
          have q41 : a.eval (.tmp 76) = .string t := hp 15 76 rfl
          obtain ⟨v', W2, hr, p1, p2⟩ := run_str (Nat.le_trans HSZ.out hO'.size) (HOW.out.below hO') t HLT.out
          refine RU.ob_run (v := v') (w' := W2) rfl (RU.wanted_none rfl) (fun ev he hc => ?_) ⟨_, rfl, (hO'.mono HSZ.out).trans p2, p1⟩
          have e1 := (he (.tmp 61)).trans q26
          have e2 := (he (.tmp 76)).trans q41
          simp only [List.getElem_toArray, List.getElem_cons_succ, List.getElem_cons_zero, execOp, resolve, invoke, builtin, Sem.run_bind, Sem.run_pure, Result.andThen_ok, List.map_toArray, List.map_cons, List.map_nil, e1, e2, hr]
        · refine RU.ObT.loud (j := 1) rfl (fun a W V hO hf hp => ?_)
          have q42 : a.eval (.tmp 77) = V 0 := hp 16 77 rfl
          refine RU.ob_val (v := V 0) rfl (RU.wanted_none rfl) (fun ev he hc => ?_) ⟨_, rfl, hO⟩
          have e1 := (he (.tmp 77)).trans q42
          simp only [List.getElem_toArray, List.getElem_cons_succ, List.getElem_cons_zero, execOp]
          rw [e1]
          first | rfl | go_simp
      intro W2 VW2 hOW2
      have P2 : Hid (Below w.heap.size W1 W2 ∧ Ow w.heap.size W2 (VW2 1) (L ++ nb t)) := hOW2
      clear hOW2
      simp only [RU.lay, RU.val, show RU.at' [16, 17] 0 = none from rfl, show RU.at' [16, 17] 1 = none from rfl, show RU.at' [16, 17] 2 = none from rfl, show RU.at' [16, 17] 3 = none from rfl, show RU.at' [16, 17] 4 = none from rfl, show RU.at' [16, 17] 5 = none from rfl, show RU.at' [16, 17] 6 = none from rfl, show RU.at' [16, 17] 7 = none from rfl, show RU.at' [16, 17] 8 = none from rfl, show RU.at' [16, 17] 9 = none from rfl, show RU.at' [16, 17] 10 = none from rfl, show RU.at' [16, 17] 11 = none from rfl, show RU.at' [16, 17] 12 = none from rfl, show RU.at' [16, 17] 13 = none from rfl, show RU.at' [16, 17] 14 = none from rfl, show RU.at' [16, 17] 15 = none from rfl, show RU.at' [16, 17] 16 = some 0 from rfl, show RU.at' [16, 17] 17 = some 1 from rfl, rt10, Act.put]
      simp only [List.setIfInBounds_toArray, List.set_cons_succ, List.set_cons_zero]
      obtain ⟨v, hv⟩ : ∃ v, VW2 1 = v := ⟨_, rfl⟩
      rw [hv] at P2 ⊢
      have HP2 : Hid (RB W2 g s j d l) := HP1.out.keep (P2.out.1.block _ hglt)
      have HC2 : Hid (Cg g w W2) := HC1.out.then P2.out.1 (Nat.le_refl _)
      have HOW2 : Hid (Ow w.heap.size W2 v (L ++ cutb s j n)) := by rw [← HNB.out]; exact P2.out.2
      have HL2 : Hid ((L ++ cutb s j n).length ≤ 4 * (j + n)) := by show _ ≤ _; rw [List.length_append, cutb_length]; have := HH.out.2; omega
      clear hv P2 HP1 HC1 HOW HSZ HLT
      obtain ⟨r0, r1, r2, r3⟩ := HP2.out.cells
      have f2 := HP2.out.froz 1
      have hb5 : (j : Int) + (n : Int) ≤ 8192 := by have := HS.out; omega
      have hb7 : (0 : Int) ≤ (n : Int) := by omega
      have hjn : j + n ≤ s.size := by omega
      have HPX : Hid (posOf (W2.setCell ⟨g, 1, none⟩ (.int .i64 ((j : Int) + (n : Int)))) g = j + n) := (HP2.out.set1 (j + n)).pos
      have hn0 : 0 < n := by omega
      have HOW3 : Hid (Ow w.heap.size (W2.setCell ⟨g, 1, none⟩ (.int .i64 ((j : Int) + (n : Int)))) v (L ++ cutb s j n)) := HOW2.out.keep (fun b e => Below.heap_setCell _ _ _ _ (by have := HOW2.out.blk b e; show b ≠ g; omega))
      go_wp2
      go_roundw
      case rel => exact ⟨j + n, L ++ cutb s j n, HP2.out.set1 (j + n), HC2.out.setCell rfl, hjn, HOW3.out, HRR.out, HL2.out⟩
      case measure => rw [HPX.out, HPS.out]; omega
end Go.Proofs.YtefaohokmhdplaaDoor
