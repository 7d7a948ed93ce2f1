/- The reference's quoted texts. -/
import Derived.Test.YtefaohokmhdplaaDoorJzD
namespace Go.Proofs.YtefaohokmhdplaaDoor
open Go Go.RowKit
set_option linter.unusedSimpArgs false
set_option linter.unusedVariables false
set_option maxRecDepth 100000

def rq11 (u : Value) (r : Int) : Nat → Value
  | 0 => u
  | 1 => .int .u8 r
  | 2 => .int .u8 (r / 16)
  | 3 => .int .u8 (hx (r / 16))
  | 4 => .int .u8 r
  | 5 => .int .u8 (r % 16)
  | 6 => .int .u8 (hx (r % 16))
  | 7 => undef
  | 8 => undef
  | 9 => undef
  | _ => undef
/-- How a rune is read and how many bytes it has, as the reference sees it. -/
theorem dec_ref {s : ByteArray} {i : Nat} (h : i < s.size) : (gb s i < 128 ∧ ((Utf8.decode s i).1 : Int) = gb s i ∧ (Utf8.decode s i).2 = 1 ∧ rl s i = 1) ∨ (128 ≤ gb s i ∧ 128 ≤ ((Utf8.decode s i).1 : Int) ∧ ((rl s i = 0 ∧ Lib.encodeRuneZ (Utf8.decode s i).1 = [239, 191, 189] ∧ (Utf8.decode s i).2 = 1) ∨ (rl s i ≠ 0 ∧ cutb s i (rl s i) = Lib.encodeRuneZ (Utf8.decode s i).1 ∧ (Utf8.decode s i).2 = rl s i))) := by
  have hg := gb_in h
  by_cases ha : (s[i]'h).toNat < 128
  · have hd := decode_ascii s i h ha
    refine .inl ⟨by omega, ?_, by rw [hd], ?_⟩
    · rw [hd, hg]
    · unfold rl; rw [hd]; simp only; rw [if_neg (by omega)]
  · have hd := decode_high s i h (by omega)
    refine .inr ⟨by omega, by omega, ?_⟩
    by_cases hr : rl s i = 0
    · refine .inl ⟨hr, ?_⟩
      unfold rl at hr
      split at hr
      · rename_i e
        rw [e.1]; exact ⟨by decide, e.2⟩
      · omega
    · exact .inr ⟨hr, dec_cut h hr⟩
set_option maxHeartbeats 16000000 in
theorem rquoted_any {s : ByteArray} (hs : s.size ≤ 1048576) (w : World) : Calls Tryd.prog 35 #[.string s] w fun e w' => e = .returned (.string (sb (qt s))) ∧ Below w.heap.size w w' := by
  have HS : Hid (s.size ≤ 1048576) := hs
  have hs' : (s.size : Int) ≤ 1048576 := by omega
  have hql := qt_len s
  rw [qt_eq] at hql ⊢
  obtain ⟨E, hE⟩ : ∃ E, qe s 0 = E := ⟨_, rfl⟩
  have HE : Hid (qe s 0 = E) := hE
  rw [hE] at hql ⊢
  have HL : Hid (E.length ≤ 6291460) := by show _ ≤ _; simp at hql; omega
  have HO0 : Hid (Ow w.heap.size (w.alloc (.cells #[.int .u8 34] 5)) (.slice (some ⟨w.heap.size, 0, none⟩) 1 1) [34]) := ⟨rfl, .inr ⟨_, 1, #[.int .u8 34], rfl, Nat.le_refl _, heap_alloc_new _ _, Nat.le_refl _, by unfold maxLen; omega, rfl, rfl⟩⟩
  clear hs hE hql
  go_enter Tryd.func35, Tryd.ntmps35
  go_wp2_with fail
  have HST : Hid (∃ (pos : Nat) (L : List Int), Value.int .i64 0 = .int .i64 (pos : Int) ∧ Ow w.heap.size (w.alloc (.cells #[.int .u8 34] 5)) (.slice (some ⟨w.heap.size, 0, none⟩) 1 1) ([34] ++ L) ∧ Hid (L ++ qe s pos = E) ∧ Below w.heap.size w (w.alloc (.cells #[.int .u8 34] 5)) ∧ pos ≤ s.size) := ⟨0, [], rfl, HO0.out, HE.out, (Below.refl _ _).alloc (Nat.le_refl _) _, Nat.zero_le _⟩
  clear HO0 HE
  go_loopw [3, 4] (fun v3 v4 W => ∃ (pos : Nat) (L : List Int), v4 = .int .i64 (pos : Int) ∧ Ow w.heap.size W v3 ([34] ++ L) ∧ Hid (L ++ qe s pos = E) ∧ Below w.heap.size w W ∧ pos ≤ s.size) (fun _ v4 _ => s.size - (intOf v4).toNat)
  case atStart => exact HST.out
  case round =>
    obtain ⟨pos, L, rfl, ho, he, hb, hp⟩ := hrel
    have HO1 : Hid (Ow w.heap.size wr u3 ([34] ++ L)) := ho
    have HBW : Hid (Below w.heap.size w wr) := hb
    have hBs : w.heap.size ≤ wr.heap.size := hb.size
    have hp' : (pos : Int) ≤ 1048576 := by omega
    have hp0 : (0 : Int) ≤ (pos : Int) := by omega
    clear HST ho hb
    by_cases hlt : pos < s.size
    · have hlt' : (pos : Int) < (s.size : Int) := by omega
      have hstep := qe_step hlt
      have hw := dec_wid s pos hlt
      have hin := (dec_in s pos hlt).2
      have hdr := dec_ref hlt
      have X0 := idx_gb hlt
      obtain ⟨c, hc⟩ : ∃ c, (s[pos]'hlt).toNat = c := ⟨_, rfl⟩
      rw [hc] at X0
      rw [← X0] at hdr
      obtain ⟨r, hr⟩ : ∃ r : Int, ((Utf8.decode s pos).1 : Int) = r := ⟨_, rfl⟩
      obtain ⟨n, hn⟩ : ∃ n, (Utf8.decode s pos).2 = n := ⟨_, rfl⟩
      rw [hr, hn] at hstep hdr
      rw [hn] at hw hin
      have HX : Hid ((c : Int) = gb s pos) := X0
      have hr0 : (0 : Int) ≤ r := by omega
      have HLL : Hid (1 + L.length + (rq r).length ≤ 6291462) := by
        have h1 := HL.out; have h2 := he.out; rw [hstep] at h2; rw [← h2] at h1; simp at h1; show _ ≤ _; omega
      have HEE : Hid (L ++ rq r ++ qe s (pos + n) = E) := by show _ = _; rw [List.append_assoc, ← hstep]; exact he.out
      have HRU : Hid (Calls Tryd.prog 58 #[.string s, .int .i64 (pos : Int)] wr fun e w' => e = .returned (.int .i64 ((rl s pos : Nat) : Int)) ∧ w' = wr) := rRune_any hlt (by have := HS.out; omega) wr
      have HB1 : Hid (w.heap.size ≤ wr.heap.size) := hBs
      obtain ⟨q, hq⟩ : ∃ q, rl s pos = q := ⟨_, rfl⟩
      rw [hq] at hdr HRU
      clear he hstep hr hn X0
      rcases hdr with ⟨a1, a2, a3, a4⟩ | ⟨a1, a2, a3⟩
      · -- one byte
        obtain rfl : r = (c : Int) := a2
        obtain rfl : n = 1 := a3
        obtain rfl : q = 1 := a4
        by_cases h34 : (c : Int) = 34 ∨ (c : Int) = 92
        · have HRQ : Hid (rq (c : Int) = [92, (c : Int)]) := by show _ = _; unfold rq; rw [if_pos h34]
          have HO2 : Hid (Ow w.heap.size (wr.alloc (.cells (bv [92, (c : Int)]).toArray 5)) u3 ([34] ++ L)) := HO1.out.alloc _
          have HS2 : Hid (Sl (wr.alloc (.cells (bv [92, (c : Int)]).toArray 5)) (.slice (some ⟨wr.heap.size, 0, none⟩) 2 2) [92, (c : Int)]) := Sl.new wr [92, (c : Int)] _
          have HB2 : Hid (w.heap.size ≤ (wr.alloc (.cells (bv [92, (c : Int)]).toArray 5)).heap.size) := by show _ ≤ _; simp; omega
          have HL2 : Hid (([34] ++ L).length + ([92, (c : Int)] : List Int).length ≤ 140737488355328) := by show _ ≤ _; have h1 := HLL.out; simp; omega
          have HKT : Hid (∀ W4, Below w.heap.size (wr.alloc (.cells (bv [92, (c : Int)]).toArray 5)) W4 → Below w.heap.size w W4) := fun W4 o => (HBW.out.alloc hBs _).trans o
          have hc34 : c = 34 ∨ c = 92 := by omega
          clear h34 a1
          rcases hc34 with rfl | rfl
          all_goals (
            go_wp2_with (first
              | (go_at_call 58; refine HRU.out.mono ?_; rintro e w2 ⟨rfl, rfl⟩)
              | (at_builtin; refine app_u8 rfl (.tmp 33) (.tmp 35) rfl HB2.out u3 _ rfl HO2.out _ rfl _ HS2.out HL2.out ?_
                 intro v4 W4 o1 o2 o3 o4
                 have HFIN : Hid (Ow w.heap.size W4 v4 ([34] ++ (L ++ rq _)) ∧ Below w.heap.size w W4) := ⟨by rw [HRQ.out, ← List.append_assoc]; exact o1, HKT.out W4 o3⟩
                 clear o1 o2 o3 o4))
            go_roundw
            case rel => exact ⟨pos + 1, L ++ rq _, by first | rfl | go_num | (congr 1; omega), HFIN.out.1, HEE.out, HFIN.out.2, hin⟩
            case measure => simp [intOf]; omega)
        have hn34 : ((c : Int) == 34) = false := beq_eq_false_iff_ne.2 (fun e => h34 (.inl e))
        have hn92 : ((c : Int) == 92) = false := beq_eq_false_iff_ne.2 (fun e => h34 (.inr e))
        by_cases h32 : (c : Int) < 32
        · have HRQ : Hid (rq (c : Int) = [92, 117, 48, 48] ++ [hx ((c : Int) / 16), hx ((c : Int) % 16)]) := by show _ = _; unfold rq; rw [if_neg h34, if_pos h32]; rfl
          have HL2 : Hid (([34] ++ L).length + (⟨#[92, 117, 48, 48]⟩ : ByteArray).size ≤ 140737488355328) := by show _ ≤ _; have h1 := HLL.out; simp [ByteArray.size]; omega
          have HLT : Hid (L.length ≤ 6291462) := by show _ ≤ _; have h1 := HLL.out; omega
          have HBW0 : Hid (∀ W4, Below w.heap.size wr W4 → Below w.heap.size w W4) := fun W4 o => HBW.out.trans o
          clear h34
          go_wp2_with (first
            | (go_at_call 58; refine HRU.out.mono ?_; rintro e w2 ⟨rfl, rfl⟩)
            | (at_builtin; refine app_str rfl (.tmp 40) (.const (.string ⟨#[92, 117, 48, 48]⟩)) rfl HB1.out u3 _ rfl HO1.out ⟨#[92, 117, 48, 48]⟩ rfl HL2.out ?_
               intro u W3 o1 o2 o3
               have HO3 : Hid (Ow w.heap.size W3 u ([34] ++ L ++ [92, 117, 48, 48])) := o1
               have HB3 : Hid (Below w.heap.size w W3) := HBW0.out W3 o3
               clear o1 o2 o3))
          have HO := HO3
          obtain ⟨ys, hys⟩ : ∃ ys, [34] ++ L ++ [92, 117, 48, 48] = ys := ⟨_, rfl⟩
          have HYS : Hid ([34] ++ L ++ [92, 117, 48, 48] = ys) := hys
          rw [hys] at HO
          have hyl : ys.length + 2 ≤ 140737488355000 := by rw [← hys]; have := HLT.out; simp; omega
          have hB : w.heap.size ≤ W3.heap.size := HB3.out.size
          obtain ⟨r, hr⟩ : ∃ r : Int, (c : Int) = r := ⟨_, rfl⟩
          have H32 : Hid (r = 0 ∨ r = 1 ∨ r = 2 ∨ r = 3 ∨ r = 4 ∨ r = 5 ∨ r = 6 ∨ r = 7 ∨ r = 8 ∨ r = 9 ∨ r = 10 ∨ r = 11 ∨ r = 12 ∨ r = 13 ∨ r = 14 ∨ r = 15 ∨ r = 16 ∨ r = 17 ∨ r = 18 ∨ r = 19 ∨ r = 20 ∨ r = 21 ∨ r = 22 ∨ r = 23 ∨ r = 24 ∨ r = 25 ∨ r = 26 ∨ r = 27 ∨ r = 28 ∨ r = 29 ∨ r = 30 ∨ r = 31) := by show _ ∨ _; omega
          rw [hr] at HRQ HEE ⊢
          clear hys hn34 hn92 a1 h32 hr0 HLL
          refine RU.wp_rgn' [7, 8, 9] (rq11 u r) (fun i => if i = 0 then 1 else 0) (atΩ w.heap.size W3 ys [hx (r / 16), hx (r % 16)]) (by kernel_rfl) (by kernel_rfl) rfl ?_ ?_
          · refine ⟨?_, ?_, ?_, ?_, ?_, ?_, ?_, ?_, ?_, ?_, trivial⟩
            · refine RU.ObT.pure rfl rfl rfl (fun a V hf hp ev he hc W => ?_)
              have q3 : ev (.tmp 3) = u := (he (.tmp 3)).trans (hf 3 rfl)
              simp only [List.getElem_toArray, List.getElem_cons_succ, List.getElem_cons_zero, execOp, Option.map_some, Option.map_none]; rw [q3]
              first | (go_simp; done) | (go_simp; rfl) | rfl
            · refine RU.ObT.pure rfl rfl rfl (fun a V hf hp ev he hc W => ?_)
              have q5 : ev (.tmp 5) = .int .u8 r := (he (.tmp 5)).trans (hf 5 rfl)
              simp only [List.getElem_toArray, List.getElem_cons_succ, List.getElem_cons_zero, execOp, Option.map_some, Option.map_none]; rw [q5]
              first | (go_simp; done) | (go_simp; rfl) | rfl
            · refine RU.ObT.pure rfl rfl rfl (fun a V hf hp ev he hc W => ?_)
              have q43 : ev (.tmp 43) = .int .u8 r := (he (.tmp 43)).trans (hp 1 43 rfl)
              simp only [List.getElem_toArray, List.getElem_cons_succ, List.getElem_cons_zero, execOp, Option.map_some, Option.map_none]; rw [q43]
              try simp only [hc]
              rcases H32.out with rfl | rfl | rfl | rfl | rfl | rfl | rfl | rfl | rfl | rfl | rfl | rfl | rfl | rfl | rfl | rfl | rfl | rfl | rfl | rfl | rfl | rfl | rfl | rfl | rfl | rfl | rfl | rfl | rfl | rfl | rfl | rfl <;> first | (go_simp; done) | (go_simp; rfl) | rfl
            · refine RU.ObT.pure rfl rfl rfl (fun a V hf hp ev he hc W => ?_)
              have q44 : ev (.tmp 44) = .int .u8 (r / 16) := (he (.tmp 44)).trans (hp 2 44 rfl)
              simp only [List.getElem_toArray, List.getElem_cons_succ, List.getElem_cons_zero, execOp, Option.map_some, Option.map_none]; rw [q44]
              try simp only [hc]
              rcases H32.out with rfl | rfl | rfl | rfl | rfl | rfl | rfl | rfl | rfl | rfl | rfl | rfl | rfl | rfl | rfl | rfl | rfl | rfl | rfl | rfl | rfl | rfl | rfl | rfl | rfl | rfl | rfl | rfl | rfl | rfl | rfl | rfl <;> first | (go_simp; done) | (go_simp; rfl) | rfl
            · refine RU.ObT.pure rfl rfl rfl (fun a V hf hp ev he hc W => ?_)
              have q5 : ev (.tmp 5) = .int .u8 r := (he (.tmp 5)).trans (hf 5 rfl)
              simp only [List.getElem_toArray, List.getElem_cons_succ, List.getElem_cons_zero, execOp, Option.map_some, Option.map_none]; rw [q5]
              first | (go_simp; done) | (go_simp; rfl) | rfl
            · refine RU.ObT.pure rfl rfl rfl (fun a V hf hp ev he hc W => ?_)
              have q46 : ev (.tmp 46) = .int .u8 r := (he (.tmp 46)).trans (hp 4 46 rfl)
              simp only [List.getElem_toArray, List.getElem_cons_succ, List.getElem_cons_zero, execOp, Option.map_some, Option.map_none]; rw [q46]
              try simp only [hc]
              rcases H32.out with rfl | rfl | rfl | rfl | rfl | rfl | rfl | rfl | rfl | rfl | rfl | rfl | rfl | rfl | rfl | rfl | rfl | rfl | rfl | rfl | rfl | rfl | rfl | rfl | rfl | rfl | rfl | rfl | rfl | rfl | rfl | rfl <;> first | (go_simp; done) | (go_simp; rfl) | rfl
            · refine RU.ObT.pure rfl rfl rfl (fun a V hf hp ev he hc W => ?_)
              have q47 : ev (.tmp 47) = .int .u8 (r % 16) := (he (.tmp 47)).trans (hp 5 47 rfl)
              simp only [List.getElem_toArray, List.getElem_cons_succ, List.getElem_cons_zero, execOp, Option.map_some, Option.map_none]; rw [q47]
              try simp only [hc]
              rcases H32.out with rfl | rfl | rfl | rfl | rfl | rfl | rfl | rfl | rfl | rfl | rfl | rfl | rfl | rfl | rfl | rfl | rfl | rfl | rfl | rfl | rfl | rfl | rfl | rfl | rfl | rfl | rfl | rfl | rfl | rfl | rfl | rfl <;> first | (go_simp; done) | (go_simp; rfl) | rfl
            · refine RU.ObT.loud (j := 0) rfl (fun a W V hO hf hp => ?_)
              have hO' : W = { W3 with drawn := W3.drawn + 1 } := hO
              subst hO'
              have q38 : a.eval (.tmp 45) = .int .u8 (hx (r / 16)) := hp 3 45 rfl
              have q41 : a.eval (.tmp 48) = .int .u8 (hx (r % 16)) := hp 6 48 rfl
              refine RU.ob_run (v := .slice (some ⟨W3.heap.size, 0, none⟩) 2 2) (w' := ({ W3 with drawn := W3.drawn + 1 } : World).alloc (.cells (bv [hx (r / 16), hx (r % 16)]).toArray 5)) rfl (RU.wanted_none rfl) (fun ev he hc => ?_) ⟨_, rfl, rfl, rfl⟩
              have e1 := (he (.tmp 45)).trans q38
              have e2 := (he (.tmp 48)).trans q41
              have hr2 := run_two { W3 with drawn := W3.drawn + 1 } (hx (r / 16)) (hx (r % 16))
              simp only [List.getElem_toArray, List.getElem_cons_succ, List.getElem_cons_zero, execOp, Option.map_some, Option.map_none, List.map_toArray, List.map_cons, List.map_nil, e1, e2, Sem.run_bind, hr2, Result.andThen_ok, Sem.run_pure]
            · refine RU.ObT.loud (j := 1) rfl (fun a W V hO hf hp => ?_)
              obtain ⟨hO', hV⟩ : W = ({ W3 with drawn := W3.drawn + 1 } : World).alloc (.cells (bv [hx (r / 16), hx (r % 16)]).toArray 5) ∧ V 0 = .slice (some ⟨W3.heap.size, 0, none⟩) 2 2 := hO
              subst hO'
              have q35 : a.eval (.tmp 42) = u := hp 0 42 rfl
              have q42 : a.eval (.tmp 49) = .slice (some ⟨W3.heap.size, 0, none⟩) 2 2 := (hp 7 49 rfl).trans hV
              refine RD.ob_list rfl (RU.wanted_none rfl) ?_
              refine app_u8 rfl (.tmp 42) (.tmp 49) rfl (by simp; exact Nat.le_succ_of_le hB) u ys q35 (HO.out.alloc _) _ q42 [hx (r / 16), hx (r % 16)] (Sl.new { W3 with drawn := W3.drawn + 1 } [hx (r / 16), hx (r % 16)] 5) (by simp; omega) ?_
              intro v' W9 o1 o2 o3 o4
              exact ⟨_, rfl, o1, Kq.grown (Kq.alloc (w' := { W3 with drawn := W3.drawn + 1 }) ⟨(Below.refl _ _).drew, fun _ _ h _ => h⟩ hB _) hB (Ow.alloc (w := { W3 with drawn := W3.drawn + 1 }) HO.out _) o2⟩
            · refine RU.ObT.loud (j := 2) rfl (fun a W V hO hf hp => ?_)
              have q43 : a.eval (.tmp 50) = V 1 := hp 8 50 rfl
              refine RU.ob_val (v := V 1) rfl (RU.wanted_none rfl) (fun ev he hc => ?_) ⟨_, rfl, hO⟩
              have e1 := (he (.tmp 50)).trans q43
              simp only [List.getElem_toArray, List.getElem_cons_succ, List.getElem_cons_zero, execOp]
              rw [e1]
              first | rfl | go_simp
          intro W4 VW4 hOW4
          have P4 : Hid (Ow w.heap.size W4 (VW4 2) (ys ++ [hx (r / 16), hx (r % 16)]) ∧ Kq w.heap.size W3 W4) := hOW4
          clear hOW4
          simp only [RU.lay, RU.val, show RU.at' [7, 8, 9] 0 = none from rfl, show RU.at' [7, 8, 9] 1 = none from rfl, show RU.at' [7, 8, 9] 2 = none from rfl, show RU.at' [7, 8, 9] 3 = none from rfl, show RU.at' [7, 8, 9] 4 = none from rfl, show RU.at' [7, 8, 9] 5 = none from rfl, show RU.at' [7, 8, 9] 6 = none from rfl, show RU.at' [7, 8, 9] 7 = some 0 from rfl, show RU.at' [7, 8, 9] 8 = some 1 from rfl, show RU.at' [7, 8, 9] 9 = some 2 from rfl, rq11, Act.put]
          simp only [List.setIfInBounds_toArray, List.set_cons_succ, List.set_cons_zero]
          obtain ⟨v38, hv38⟩ : ∃ v, VW4 0 = v := ⟨_, rfl⟩
          obtain ⟨v39, hv39⟩ : ∃ v, VW4 1 = v := ⟨_, rfl⟩
          obtain ⟨v40, hv40⟩ : ∃ v, VW4 2 = v := ⟨_, rfl⟩
          rw [hv40] at P4
          simp only [hv38, hv39, hv40]
          clear hv38 hv39 hv40
          have HFIN : Hid (Ow w.heap.size W4 v40 ([34] ++ (L ++ rq r)) ∧ Below w.heap.size w W4) := by
            refine ⟨?_, HB3.out.trans P4.out.2.1⟩
            rw [HRQ.out, ← List.append_assoc, ← List.append_assoc, HYS.out]; exact P4.out.1
          clear hr
          go_wp2_with fail
          go_roundw
          case rel => exact ⟨pos + 1, L ++ rq r, by first | rfl | go_num | (congr 1; omega), HFIN.out.1, HEE.out, HFIN.out.2, hin⟩
          case measure => simp [intOf]; omega
        · have HRQ : Hid (rq (c : Int) = [(c : Int)]) := by show _ = _; unfold rq; rw [if_neg h34, if_neg h32, Lib.encodeRuneZ_one (by omega) (by omega)]
          have HNB : Hid (nb (s.extract pos (pos + 1)) = [(c : Int)]) := by show _ = _; rw [nb_piece hin, show pos + 1 - pos = 1 by omega, cutb_one, HX.out]
          have HL2 : Hid (([34] ++ L).length + (s.extract pos (pos + 1)).size ≤ 140737488355328) := by show _ ≤ _; rw [← nb_length, HNB.out]; have h1 := HLL.out; simp; omega
          have HBW0 : Hid (∀ W4, Below w.heap.size wr W4 → Below w.heap.size w W4) := fun W4 o => HBW.out.trans o
          have hin' : (pos : Int) + 1 ≤ (s.size : Int) := by omega
          go_wp2_with (first
            | (go_at_call 58; refine HRU.out.mono ?_; rintro e w2 ⟨rfl, rfl⟩)
            | (at_builtin; refine app_str rfl (.tmp 18) (.tmp 24) rfl HB1.out u3 _ rfl HO1.out (s.extract pos (pos + 1)) (by rfl) HL2.out ?_
               intro v4 W4 o1 o2 o3
               have HFIN : Hid (Ow w.heap.size W4 v4 ([34] ++ (L ++ rq (c : Int))) ∧ Below w.heap.size w W4) := ⟨by rw [HRQ.out, ← HNB.out, ← List.append_assoc]; exact o1, HBW0.out W4 o3⟩
               clear o1 o2 o3))
          go_roundw
          case rel => exact ⟨pos + 1, L ++ rq (c : Int), by first | rfl | go_num | (congr 1; omega), HFIN.out.1, HEE.out, HFIN.out.2, hin⟩
          case measure => simp [intOf]; omega
      · have hn34 : ((c : Int) == 34) = false := beq_eq_false_iff_ne.2 (by omega)
        have hn92 : ((c : Int) == 92) = false := beq_eq_false_iff_ne.2 (by omega)
        have h32 : ¬ (c : Int) < 32 := by omega
        have HRQ : Hid (rq r = Lib.encodeRuneZ r) := by show _ = _; unfold rq; rw [if_neg (by omega), if_neg (by omega)]
        have HBW0 : Hid (∀ W4, Below w.heap.size wr W4 → Below w.heap.size w W4) := fun W4 o => HBW.out.trans o
        rcases a3 with ⟨rfl, b1, rfl⟩ | ⟨b0, b1, rfl⟩
        · have HNB : Hid (nb (sb (Lib.encodeRuneZ 65533)) = Lib.encodeRuneZ r) := by show _ = _; rw [nb_sb (enc_byt _), b1]; rfl
          have HL2 : Hid (([34] ++ L).length + (sb (Lib.encodeRuneZ 65533)).size ≤ 140737488355328) := by show _ ≤ _; rw [← nb_length, HNB.out]; have h1 := HLL.out; rw [HRQ.out] at h1; simp; omega
          have HUT : Hid (Calls Tryd.prog 59 #[.int .i64 65533] wr fun e w' => e = .returned (.string (sb (Lib.encodeRuneZ 65533))) ∧ Below wr.heap.size wr w') := rutf_any (by omega) (by omega) (.inr (by omega)) wr
          clear a1 a2 b1
          go_wp2_with (first
            | (go_at_call 58; refine HRU.out.mono ?_; rintro e w2 ⟨rfl, rfl⟩)
            | fail)
          refine HUT.out.mono ?_
          rintro e W2 ⟨rfl, hb2⟩
          have HO2 : Hid (Ow w.heap.size W2 u3 ([34] ++ L)) := HO1.out.below hb2
          have HBB2 : Hid (Below w.heap.size w W2) := bl_tr HBW.out hb2
          have HB2 : Hid (w.heap.size ≤ W2.heap.size) := HBB2.out.size
          clear hb2
          go_wp2_with (at_builtin; refine app_str rfl (.tmp 54) (.tmp 55) rfl HB2.out u3 _ rfl HO2.out (sb (Lib.encodeRuneZ 65533)) rfl HL2.out ?_
                       intro v4 W4 o1 o2 o3
                       have HFIN : Hid (Ow w.heap.size W4 v4 ([34] ++ (L ++ rq r)) ∧ Below w.heap.size w W4) := ⟨by rw [HRQ.out, ← HNB.out, ← List.append_assoc]; exact o1, HBB2.out.trans o3⟩
                       clear o1 o2 o3)
          go_roundw
          case rel => exact ⟨pos + 1, L ++ rq r, by first | rfl | go_num | (congr 1; omega), HFIN.out.1, HEE.out, HFIN.out.2, hin⟩
          case measure => simp [intOf]; omega
        · have HNB : Hid (nb (s.extract pos (pos + n)) = Lib.encodeRuneZ r) := by show _ = _; rw [nb_piece hin, show pos + n - pos = n by omega, b1]
          have HL2 : Hid (([34] ++ L).length + (s.extract pos (pos + n)).size ≤ 140737488355328) := by show _ ≤ _; rw [← nb_length, HNB.out]; have h1 := HLL.out; rw [HRQ.out] at h1; simp; omega
          have hin' : (pos : Int) + (n : Int) ≤ (s.size : Int) := by omega
          have hq1 : (1 : Int) ≤ (n : Int) := by omega
          have hq0 : ((n : Int) == 0) = false := beq_eq_false_iff_ne.2 (by omega)
          have hq4 : (n : Int) ≤ 1048576 := by omega
          clear a1 a2 b1 b0
          go_wp2_with (first
            | (go_at_call 58; refine HRU.out.mono ?_; rintro e w2 ⟨rfl, rfl⟩)
            | (at_builtin; refine app_str rfl (.tmp 18) (.tmp 24) rfl HB1.out u3 _ rfl HO1.out (s.extract pos (pos + n)) (by rfl) HL2.out ?_
               intro v4 W4 o1 o2 o3
               have HFIN : Hid (Ow w.heap.size W4 v4 ([34] ++ (L ++ rq r)) ∧ Below w.heap.size w W4) := ⟨by rw [HRQ.out, ← HNB.out, ← List.append_assoc]; exact o1, HBW0.out W4 o3⟩
               clear o1 o2 o3))
          go_roundw
          case rel => exact ⟨pos + n, L ++ rq r, by first | rfl | go_num | (congr 1; omega), HFIN.out.1, HEE.out, HFIN.out.2, hin⟩
          case measure => simp [intOf]; omega
    · have HLE : Hid (L = E) := by show _ = _; have := he.out; rw [qe_end (by omega), List.append_nil] at this; exact this
      have hlt' : ¬ (pos : Int) < (s.size : Int) := by omega
      have HO2 : Hid (Ow w.heap.size (wr.alloc (.cells #[.int .u8 34] 5)) u3 ([34] ++ L)) := HO1.out.alloc _
      have HS2 : Hid (Sl (wr.alloc (.cells #[.int .u8 34] 5)) (.slice (some ⟨wr.heap.size, 0, none⟩) 1 1) [34]) := Sl.one wr 34 _
      have HB2 : Hid (w.heap.size ≤ (wr.alloc (.cells #[.int .u8 34] 5)).heap.size) := by show _ ≤ _; simp; omega
      have HL2 : Hid (([34] ++ L).length + ([34] : List Int).length ≤ 140737488355328) := by show _ ≤ _; have h1 := HL.out; rw [← HLE.out] at h1; simp; omega
      clear he
      go_wp2_with (first
        | (at_builtin; refine app_u8 rfl (.tmp 61) (.tmp 62) rfl HB2.out u3 _ rfl HO2.out _ rfl [34] HS2.out HL2.out ?_
           intro v1 w2 o1 o2 o3 o4
           have hcv := o1.sl.str
           have HF : Hid (([34] ++ L ++ [34] : List Int) = [34] ++ (E ++ [34])) := by show _ = _; rw [← HLE.out]; simp
           have HFB : Hid (Below w.heap.size w w2) := HBW.out.trans ((Below.refl _ _).alloc hBs _ |>.trans o3)
           rw [HF.out] at hcv
           clear o1 o2 o3 o4))
      go_ret
      exact ⟨rfl, HFB.out⟩
end Go.Proofs.YtefaohokmhdplaaDoor
