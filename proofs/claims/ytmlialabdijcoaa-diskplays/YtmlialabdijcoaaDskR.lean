/- The reference's Sync. -/
import Derived.Test.YtmlialabdijcoaaDskQ
namespace Go.Proofs.Ytmlialabdijcoaa
open Go Go.RowKit
set_option linter.unusedSimpArgs false
set_option linter.unusedVariables false
set_option maxRecDepth 100000

def MX (F : Nat → Prop) (w0 w : World) (g : Nat) (s : Dk) (gs : Nat) (wv : Value) (fz : Int) (k : Nat) : Prop := QX F w g { s with st := look s.st (s.wt.take k) } gs wv fz ∧ Chg F w0 w
def mΩ (F : Nat → Prop) (w0 : World) (g : Nat) (s : Dk) (gs : Nat) (wv : Value) (fz : Int) (j : Nat) : Nat → (Nat → Value) → World → Prop
  | 0, _, w => MX F w0 w g s gs wv fz j
  | _, _, w => MX F w0 w g s gs wv fz (j + 1)
def mf (g gs b k cap : Nat) (t : Dk) (p : Nat × List Int) : Nat → Value
  | 0 => .pointer (some ⟨g, 0, none⟩)
  | 1 => .pointer (some ⟨g, 0, none⟩)
  | 2 => .pointer (some ⟨g, 0, none⟩)
  | 3 => .slice (some ⟨gs, 0, none⟩) t.n t.n
  | 4 => .pointer (some ⟨g, 0, none⟩)
  | 5 => .pointer (some ⟨g, 0, none⟩)
  | 6 => .pointer (some ⟨g, 1, none⟩)
  | 7 => .slice (some ⟨b, 0, none⟩) t.wt.length cap
  | 8 => .int .i64 (k : Int)
  | 9 => .pointer (some ⟨b, k * 65, none⟩)
  | 10 => .pointer (some ⟨b, k * 65, none⟩)
  | 11 => .int .i64 (p.1 : Int)
  | 12 => .pointer (some ⟨g, 0, none⟩)
  | 13 => .pointer (some ⟨g, 0, none⟩)
  | 14 => .pointer (some ⟨g, 1, none⟩)
  | 15 => .slice (some ⟨b, 0, none⟩) t.wt.length cap
  | 16 => .int .i64 (k : Int)
  | 17 => .pointer (some ⟨b, k * 65, none⟩)
  | 18 => .pointer (some ⟨b, k * 65 + 1, none⟩)
  | 19 => .agg (bv p.2).toArray
  | 20 => .pointer (some ⟨gs, p.1 * 64, none⟩)
  | _ => undef
variable {F : Nat → Prop} {w : World} {g : Nat} {s : Dk} {gs : Nat} {wv : Value} {fz : Int}
theorem MX.step {w0 : World} {j : Nat} {p : Nat × List Int} (h : MX F w0 w g s gs wv fz j) (hp : s.wt[j]? = some p) : MX F w0 (w.setCells gs (p.1 * 64) (bv p.2)) g s gs wv fz (j + 1) := by
  obtain ⟨h, hc⟩ := h
  have hok := h.wb.ok p (List.mem_of_getElem? hp)
  have hne : ∀ c, c ≠ gs → (w.setCells gs (p.1 * 64) (bv p.2)).heap[c]? = w.heap[c]? := fun c hc => heap_past gs c hc _ _ _
  refine ⟨⟨h.db.keep (hne g h.ggs), h.fz, ?_, h.wb.keep (fun c hc => hne c (fun e => h.wgs (by rw [hc, e]))), h.ggs, h.wg, h.wgs, h.Fg, h.Fgs, h.Fw, fun c hc => by rw [size_setCells]; exact h.Flt c hc, h.n1, h.n2⟩, hc.setCells h.Fgs⟩
  show SB _ gs s.n (look s.st (s.wt.take (j + 1)))
  rw [take_snoc' hp, look_snoc]
  exact h.sb.store hok.1 hok.2
theorem MX.wait {w0 : World} {j k l b cap : Nat} {p : Nat × List Int} (h : MX F w0 w g s gs (.slice (some ⟨b, 0, none⟩) l cap) fz j) (hp : s.wt[k]? = some p) : w.rangeAt b (k * 65) (wc p) := by
  obtain ⟨ad, cp, hv, -, -, hsh⟩ := h.1.wb.shape
  cases hv
  obtain ⟨b', e, -, hm⟩ := hsh _ rfl
  cases e
  exact hm k p hp
theorem QX.cleared (h : QX F w g s gs wv fz) : QX F (w.setCell ⟨g, 1, none⟩ (.slice none 0 0)) g { s with wt := [] } gs (.slice none 0 0) fz := by
  have hne : ∀ c, c ≠ g → (w.setCell ⟨g, 1, none⟩ (.slice none 0 0)).heap[c]? = w.heap[c]? := fun c hc => Below.heap_setCell _ _ _ _ hc
  have hs : (w.setCell ⟨g, 1, none⟩ (.slice none 0 0)).heap.size = w.heap.size := by simp [World.setCell]
  exact ⟨h.db.set1 _, h.fz, h.sb.keep (hne gs (Ne.symm h.ggs)), ⟨World.ownsRow_nil _ _ _ _, fun p hp => by cases hp⟩, h.ggs, by simp [Value.ownBlock], by simp [Value.ownBlock], h.Fg, h.Fgs, fun b hb => by simp [Value.ownBlock] at hb, fun c hc => by rw [hs]; exact h.Flt c hc, h.n1, h.n2⟩
set_option maxHeartbeats 2000000 in
theorem rsync_QX (h : QX F w g s gs wv fz) :
    Calls Try.prog 16 #[.pointer (some ⟨g, 0, none⟩)] w fun e w' => e = .returned (.int .i64 (syE s)) ∧ QAft F w w' g (syS s) := by
  have H : Hid (QX F w g s gs wv fz) := h
  clear h
  go_enter Try.func16, Try.ntmps16
  go_wp2_with fail
  refine (lost_QX H.out).mono ?_
  rintro e w2 ⟨rfl, ⟨fz', h1⟩, h2, h3⟩
  have H1 : Hid (QX F w2 g s.burn gs wv fz') := h1
  have C1 : Hid (Chg F w w2) := h2.mono (fun b hb => by subst hb; exact H.out.Fg)
  clear h1 h2 h3
  have HB : Hid (s.burn.n = s.n ∧ s.burn.wt = s.wt ∧ s.burn.fu = s.fu ∧ s.burn.st = s.st) := burn_n s
  generalize ht : s.burn = t at H1 HB
  have HT : Hid (s.burn = t) := ht
  clear ht
  cases hl : s.lost with
  | true =>
    go_wp2_with fail
    go_ret
    exact ⟨by simp [syE, hl], F, by simp only [syS, hl]; rw [HT.out]; exact ⟨_, _, _, H1.out⟩, C1.out, fun b hb => .inl hb⟩
  | false =>
    obtain ⟨ad, cap, hv, hcap, hn0, -⟩ := H1.out.wb.shape
    obtain ⟨-, k1, -, -, -⟩ := H1.out.db.cells
    subst hv
    have hle := H1.out.wb.le
    go_wp2_with fail
    go_loopw [11] (fun c wr => ∃ k : Nat, k ≤ t.wt.length ∧ c = .int .i64 (k : Int) ∧ Hid (MX F w wr g t gs (.slice ad t.wt.length cap) fz' k)) (fun c _ => t.wt.length - (intOf c).toNat)
    case atStart => exact ⟨0, Nat.zero_le _, rfl, ⟨H1.out, C1.out⟩⟩
    case round =>
      obtain ⟨k, hk, rfl, HK⟩ := hrel
      by_cases hlt : k < t.wt.length
      · obtain ⟨p, hp⟩ : ∃ p, t.wt[k]? = some p := ⟨t.wt[k], List.getElem?_eq_getElem hlt⟩
        cases ad with
        | none => rw [hn0 rfl] at hp; simp at hp
        | some ad =>
        obtain ⟨ad', cap', hv', -, -, hsh⟩ := HK.out.1.wb.shape
        cases hv'
        obtain ⟨b, rfl, hb, hm⟩ := hsh ad rfl
        have HP : Hid (t.wt[k]? = some p) := hp
        have hok := H1.out.wb.ok p (List.mem_of_getElem? hp)
        have HO : Hid (p.1 < t.n ∧ p.2.length = 64) := hok
        clear hm hsh hp hok hn0 hb k1
        go_wp2_with fail
        refine RT.wp_rgn' [21] (mf g gs b k cap t p) sK (mΩ F w g t gs (.slice (some ⟨b, 0, none⟩) t.wt.length cap) fz' k) (by kernel_rfl) (by kernel_rfl) ?_ ?_ ?_
        · exact ⟨HK.out.1.keep (Nat.le_refl _) (fun _ _ => rfl), HK.out.2.trans ⟨rfl, rfl, rfl, Nat.le_refl _, fun _ _ _ => rfl⟩⟩
        · refine ⟨?_, ?_, ?_, ?_, ?_, ?_, ?_, ?_, ?_, ?_, ?_, ?_, ?_, ?_, ?_, ?_, ?_, ?_, ?_, ?_, ?_, ?_, trivial⟩
          · refine RT.ObT.pure rfl rfl rfl (fun a U hf hp ev he hc W => ?_)
            have q0 : ev (.tmp 0) = .pointer (some ⟨g, 0, none⟩) := (he (.tmp 0)).trans (hf 0 rfl)
            simp only [List.getElem_toArray, List.getElem_cons_succ, List.getElem_cons_zero, execOp]; rw [q0]
            first | rfl | (go_simp; done) | (go_simp; rfl)
          · refine RT.ObT.pure rfl rfl rfl (fun a U hf hp ev he hc W => ?_)
            have q14 : ev (.tmp 14) = .pointer (some ⟨g, 0, none⟩) := (he (.tmp 14)).trans (hp 0 14 rfl)
            simp only [List.getElem_toArray, List.getElem_cons_succ, List.getElem_cons_zero, execOp]; rw [q14]
            first | rfl | (go_simp; done) | (go_simp; rfl)
          · refine RT.ObT.pure rfl rfl rfl (fun a U hf hp ev he hc W => ?_)
            have q15 : ev (.tmp 15) = .pointer (some ⟨g, 0, none⟩) := (he (.tmp 15)).trans (hp 1 15 rfl)
            simp only [List.getElem_toArray, List.getElem_cons_succ, List.getElem_cons_zero, execOp]; rw [q15]
            first | rfl | (go_simp; done) | (go_simp; rfl)
          · refine RT.ObT.silent rfl (fun a W k0 U hO hf hp hk => ?_)
            have hk0 : k0 ≤ 0 := hk
            obtain rfl : k0 = 0 := by omega
            have hc1 := hO.1.db.cells.1
            refine RT.ob_val rfl (RT.wanted_none rfl) (fun ev he hc => ?_) ⟨rfl, hO⟩
            have q16 : ev (.tmp 16) = .pointer (some ⟨g, 0, none⟩) := (he (.tmp 16)).trans (hp 2 16 rfl)
            simp only [List.getElem_toArray, List.getElem_cons_succ, List.getElem_cons_zero, execOp]; rw [q16]; go_simp; rfl
          · refine RT.ObT.pure rfl rfl rfl (fun a U hf hp ev he hc W => ?_)
            have q0 : ev (.tmp 0) = .pointer (some ⟨g, 0, none⟩) := (he (.tmp 0)).trans (hf 0 rfl)
            simp only [List.getElem_toArray, List.getElem_cons_succ, List.getElem_cons_zero, execOp]; rw [q0]
            first | rfl | (go_simp; done) | (go_simp; rfl)
          · refine RT.ObT.pure rfl rfl rfl (fun a U hf hp ev he hc W => ?_)
            have q18 : ev (.tmp 18) = .pointer (some ⟨g, 0, none⟩) := (he (.tmp 18)).trans (hp 4 18 rfl)
            simp only [List.getElem_toArray, List.getElem_cons_succ, List.getElem_cons_zero, execOp]; rw [q18]
            first | rfl | (go_simp; done) | (go_simp; rfl)
          · refine RT.ObT.pure rfl rfl rfl (fun a U hf hp ev he hc W => ?_)
            have q19 : ev (.tmp 19) = .pointer (some ⟨g, 0, none⟩) := (he (.tmp 19)).trans (hp 5 19 rfl)
            simp only [List.getElem_toArray, List.getElem_cons_succ, List.getElem_cons_zero, execOp]; rw [q19]
            first | rfl | (go_simp; done) | (go_simp; rfl)
          · refine RT.ObT.silent rfl (fun a W k0 U hO hf hp hk => ?_)
            have hk0 : k0 ≤ 0 := hk
            obtain rfl : k0 = 0 := by omega
            have hc1 := hO.1.db.cells.2.1
            refine RT.ob_val rfl (RT.wanted_none rfl) (fun ev he hc => ?_) ⟨rfl, hO⟩
            have q20 : ev (.tmp 20) = .pointer (some ⟨g, 1, none⟩) := (he (.tmp 20)).trans (hp 6 20 rfl)
            simp only [List.getElem_toArray, List.getElem_cons_succ, List.getElem_cons_zero, execOp]; rw [q20]; go_simp; rfl
          · refine RT.ObT.pure rfl rfl rfl (fun a U hf hp ev he hc W => ?_)
            have q3 : ev (.tmp 3) = .int .i64 (k : Int) := (he (.tmp 3)).trans (hf 3 rfl)
            simp only [List.getElem_toArray, List.getElem_cons_succ, List.getElem_cons_zero, execOp]; rw [q3]
            first | rfl | (go_simp; done) | (go_simp; rfl)
          · refine RT.ObT.pure rfl rfl rfl (fun a U hf hp ev he hc W => ?_)
            have q1 : ev (.tmp 21) = .slice (some ⟨b, 0, none⟩) t.wt.length cap := (he (.tmp 21)).trans (hp 7 21 rfl)
            have q2 : ev (.tmp 22) = .int .i64 (k : Int) := (he (.tmp 22)).trans (hp 8 22 rfl)
            have hi1 : ((k : Nat) : Int) < (t.wt.length : Int) := by have := HO.out.1; omega
            simp only [List.getElem_toArray, List.getElem_cons_succ, List.getElem_cons_zero, execOp]; rw [q1, q2]; go_simp; rfl
          · refine RT.ObT.pure rfl rfl rfl (fun a U hf hp ev he hc W => ?_)
            have q23 : ev (.tmp 23) = .pointer (some ⟨b, k * 65, none⟩) := (he (.tmp 23)).trans (hp 9 23 rfl)
            simp only [List.getElem_toArray, List.getElem_cons_succ, List.getElem_cons_zero, execOp]; rw [q23]
            first | rfl | (go_simp; done) | (go_simp; rfl)
          · refine RT.ObT.silent rfl (fun a W k0 U hO hf hp hk => ?_)
            have hk0 : k0 ≤ 0 := hk
            obtain rfl : k0 = 0 := by omega
            have hc1 := (show W.cell? ⟨b, k * 65, none⟩ = some (.int .i64 (p.1 : Int)) from hO.wait HP.out 0 _ rfl)
            refine RT.ob_val rfl (RT.wanted_none rfl) (fun ev he hc => ?_) ⟨rfl, hO⟩
            have q24 : ev (.tmp 24) = .pointer (some ⟨b, k * 65, none⟩) := (he (.tmp 24)).trans (hp 10 24 rfl)
            simp only [List.getElem_toArray, List.getElem_cons_succ, List.getElem_cons_zero, execOp]; rw [q24]; go_simp; rfl
          · refine RT.ObT.pure rfl rfl rfl (fun a U hf hp ev he hc W => ?_)
            have q0 : ev (.tmp 0) = .pointer (some ⟨g, 0, none⟩) := (he (.tmp 0)).trans (hf 0 rfl)
            simp only [List.getElem_toArray, List.getElem_cons_succ, List.getElem_cons_zero, execOp]; rw [q0]
            first | rfl | (go_simp; done) | (go_simp; rfl)
          · refine RT.ObT.pure rfl rfl rfl (fun a U hf hp ev he hc W => ?_)
            have q26 : ev (.tmp 26) = .pointer (some ⟨g, 0, none⟩) := (he (.tmp 26)).trans (hp 12 26 rfl)
            simp only [List.getElem_toArray, List.getElem_cons_succ, List.getElem_cons_zero, execOp]; rw [q26]
            first | rfl | (go_simp; done) | (go_simp; rfl)
          · refine RT.ObT.pure rfl rfl rfl (fun a U hf hp ev he hc W => ?_)
            have q27 : ev (.tmp 27) = .pointer (some ⟨g, 0, none⟩) := (he (.tmp 27)).trans (hp 13 27 rfl)
            simp only [List.getElem_toArray, List.getElem_cons_succ, List.getElem_cons_zero, execOp]; rw [q27]
            first | rfl | (go_simp; done) | (go_simp; rfl)
          · refine RT.ObT.silent rfl (fun a W k0 U hO hf hp hk => ?_)
            have hk0 : k0 ≤ 0 := hk
            obtain rfl : k0 = 0 := by omega
            have hc1 := hO.1.db.cells.2.1
            refine RT.ob_val rfl (RT.wanted_none rfl) (fun ev he hc => ?_) ⟨rfl, hO⟩
            have q28 : ev (.tmp 28) = .pointer (some ⟨g, 1, none⟩) := (he (.tmp 28)).trans (hp 14 28 rfl)
            simp only [List.getElem_toArray, List.getElem_cons_succ, List.getElem_cons_zero, execOp]; rw [q28]; go_simp; rfl
          · refine RT.ObT.pure rfl rfl rfl (fun a U hf hp ev he hc W => ?_)
            have q3 : ev (.tmp 3) = .int .i64 (k : Int) := (he (.tmp 3)).trans (hf 3 rfl)
            simp only [List.getElem_toArray, List.getElem_cons_succ, List.getElem_cons_zero, execOp]; rw [q3]
            first | rfl | (go_simp; done) | (go_simp; rfl)
          · refine RT.ObT.pure rfl rfl rfl (fun a U hf hp ev he hc W => ?_)
            have q1 : ev (.tmp 29) = .slice (some ⟨b, 0, none⟩) t.wt.length cap := (he (.tmp 29)).trans (hp 15 29 rfl)
            have q2 : ev (.tmp 30) = .int .i64 (k : Int) := (he (.tmp 30)).trans (hp 16 30 rfl)
            have hi1 : ((k : Nat) : Int) < (t.wt.length : Int) := by have := HO.out.1; omega
            simp only [List.getElem_toArray, List.getElem_cons_succ, List.getElem_cons_zero, execOp]; rw [q1, q2]; go_simp; rfl
          · refine RT.ObT.pure rfl rfl rfl (fun a U hf hp ev he hc W => ?_)
            have q31 : ev (.tmp 31) = .pointer (some ⟨b, k * 65, none⟩) := (he (.tmp 31)).trans (hp 17 31 rfl)
            simp only [List.getElem_toArray, List.getElem_cons_succ, List.getElem_cons_zero, execOp]; rw [q31]
            first | rfl | (go_simp; done) | (go_simp; rfl)
          · refine RT.ObT.silent rfl (fun a W k0 U hO hf hp hk => ?_)
            have hk0 : k0 ≤ 0 := hk
            obtain rfl : k0 = 0 := by omega
            have hr : W.rangeAt b (k * 65 + 1) (bv p.2) := fun m u hu => by
              have := hO.wait HP.out (m + 1) u (by simpa [wc] using hu)
              rwa [show k * 65 + (m + 1) = k * 65 + 1 + m by omega] at this
            refine RT.ob_op rfl (RT.wanted_none rfl) (wp_load_mid 35 (.tmp 32) rfl b (k * 65 + 1) (hp 18 32 rfl) (bv p.2) _ hr Try.underlying35 rfl (by rw [bv_length, HO.out.2]; exact size64) ⟨rfl, hO⟩)
          · refine RT.ObT.pure rfl rfl rfl (fun a U hf hp ev he hc W => ?_)
            have q1 : ev (.tmp 17) = .slice (some ⟨gs, 0, none⟩) t.n t.n := (he (.tmp 17)).trans (hp 3 17 rfl)
            have q2 : ev (.tmp 25) = .int .i64 (p.1 : Int) := (he (.tmp 25)).trans (hp 11 25 rfl)
            have hi1 : ((p.1 : Nat) : Int) < (t.n : Int) := by have := HO.out.1; omega
            simp only [List.getElem_toArray, List.getElem_cons_succ, List.getElem_cons_zero, execOp]; rw [q1, q2]; go_simp; rfl
          · refine RT.ObT.loud (j := 0) rfl (fun a W U hO hf hp => ?_)
            refine RT.ob_op rfl (RT.wanted_none rfl) (wp_store_mid 35 (.tmp 34) (.tmp 33) rfl gs (p.1 * 64) (bv p.2).toArray (hp 20 34 rfl) (hp 19 33 rfl) (there_sec HO.out.2 (hO.1.sb.there HO.out.1)) (size_sec HO.out.2) (bv_one' _) ⟨_, rfl, ?_⟩)
            exact hO.step HP.out
        · intro w' U hO
          have HO' : Hid (MX F w w' g t gs (.slice (some ⟨b, 0, none⟩) t.wt.length cap) fz' (k + 1)) := hO
          clear hO
          simp only [RT.lay, RT.val, RT.at', mf, Act.put]
          go_wp2_with fail
          exact ⟨⟨k + 1, hlt, by go_num, HO'⟩, by simp [intOf]; omega⟩
      · obtain rfl : k = t.wt.length := by omega
        obtain ⟨-, k1, -, -, -⟩ := HK.out.1.db.cells
        have f1 := HK.out.1.db.froz 1
        go_wp2_with fail
        go_ret
        refine ⟨by simp [syE, hl], F, ⟨gs, .slice none 0 0, fz', ?_⟩, HK.out.2.setCell H1.out.Fg, fun b hb => .inl hb⟩
        have e1 : syS s = { t with st := look t.st t.wt, wt := [] } := by
          simp only [syS, hl]; rw [HT.out, ← HB.out.2.1, ← HB.out.2.2.2]
        rw [e1]
        have h := HK.out.1.cleared
        rw [List.take_of_length_le (Nat.le_refl _)] at h
        exact h
end Go.Proofs.Ytmlialabdijcoaa
