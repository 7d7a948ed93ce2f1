/- Sync. -/
import Derived.Test.YtphjjjijdbljaaaDoorDskE
namespace Go.Proofs.YtphjjjijdbljaaaDoor
open Go Go.RowKit
set_option linter.unusedSimpArgs false
set_option linter.unusedVariables false
set_option maxRecDepth 100000

def syE (s : Dk) : Int := match s.lost with
  | true => 9
  | false => 0
def syS (s : Dk) : Dk := match s.lost with
  | true => s.burn
  | false => { s.burn with st := look s.st s.wt, wt := [] }
theorem zero_write (w : World) : (zeroValue 81).run Tryd.prog w = .ok (.agg (wc (0, z64)).toArray) w := by kernel_rfl
theorem size_write : (Tryd.prog.info? 81).map (·.size) = some 65 := by kernel_rfl
theorem write_start {w W : World} {p : Nat × List Int} (hp : p.2.length = 64) (eW : (w.alloc (.cells (wc (0, z64)).toArray 81)).setCells w.heap.size 0 (wc p) = W) : Hid (Below w.heap.size w W ∧ W.rangeAt w.heap.size 0 (wc p)) := by
  have h1 : (w.alloc (.cells (wc (0, z64)).toArray 81)).there w.heap.size 0 65 := there_of_row' (cs := (wc (0, z64)).toArray) (t := 81) (by rw [World.alloc]; simp only [Array.getElem?_push, if_true]) 0 65 (by rw [List.size_toArray, wc_length z64_length]; omega)
  subst eW
  exact ⟨below_setCells _ (Nat.le_refl _) _ _ _ ((Below.refl _ _).alloc (Nat.le_refl _) _), World.rangeAt_setCells_same _ _ _ _ (by rw [wc_length hp]; exact h1)⟩
theorem write_there (w : World) {p : Nat × List Int} (hp : p.2.length = 64) : (w.alloc (.cells (wc (0, z64)).toArray 81)).there w.heap.size 0 (wc p).toArray.size := by
  have e : (wc p).toArray.size = 65 := wc_length hp
  rw [e]
  exact there_of_row' (cs := (wc (0, z64)).toArray) (t := 81) (by rw [World.alloc]; simp only [Array.getElem?_push, if_true]) 0 65 (by rw [List.size_toArray, wc_length z64_length]; omega)
theorem write_size {p : Nat × List Int} (hp : p.2.length = 64) : (Tryd.prog.info? 81).map (·.size) = some (wc p).toArray.size := by rw [List.size_toArray, wc_length hp]; exact size_write
/-- Within Sync: the first k writes are done. -/
def LX (F : Nat → Prop) (w0 w : World) (g : Nat) (s : Dk) (gs : Nat) (wv : Value) (fd : Bool) (fz : Int) (k : Nat) : Prop := PX F w g { s with st := look s.st (s.wt.take k) } gs wv fd fz ∧ Chg F w0 w
def sΩ (F : Nat → Prop) (w0 : World) (g : Nat) (s : Dk) (gs : Nat) (wv : Value) (fd : Bool) (fz : Int) (j b4 : Nat) (p : Nat × List Int) : Nat → (Nat → Value) → World → Prop
  | 0, _, w => LX F w0 w g s gs wv fd fz j ∧ w.rangeAt b4 0 (wc p)
  | _, _, w => LX F w0 w g s gs wv fd fz (j + 1)
def sf (g gs n b4 : Nat) (p : Nat × List Int) : Nat → Value
  | 0 => .pointer (some ⟨g, 0, none⟩)
  | 1 => .pointer (some ⟨g, 0, none⟩)
  | 2 => .pointer (some ⟨g, 0, none⟩)
  | 3 => .slice (some ⟨gs, 0, none⟩) n n
  | 4 => .pointer (some ⟨b4, 0, none⟩)
  | 5 => .int .i64 (p.1 : Int)
  | 6 => .pointer (some ⟨b4, 1, none⟩)
  | 7 => .agg (bv p.2).toArray
  | 8 => .pointer (some ⟨gs, p.1 * 64, none⟩)
  | _ => undef
def sK : Nat → Nat := fun _ => 0
theorem take_snoc' {l : List (Nat × List Int)} {j : Nat} {p : Nat × List Int} (h : l[j]? = some p) : l.take (j + 1) = l.take j ++ [p] := by
  have hj := (List.getElem?_eq_some_iff.1 h).1
  rw [List.take_succ_eq_append_getElem hj, (List.getElem?_eq_some_iff.1 h).2]
variable {F : Nat → Prop} {w : World} {g : Nat} {s : Dk} {gs : Nat} {wv : Value} {fd : Bool} {fz : Int}
theorem LX.keep {w0 w' : World} {k : Nat} (h : LX F w0 w g s gs wv fd fz k) (hb : Below w.heap.size w w') : LX F w0 w' g s gs wv fd fz k :=
  ⟨h.1.keep hb.size (fun b hb' => hb.block b (h.1.Flt b hb')), h.2.trans (Chg.ofBelow hb)⟩
/-- One write more. -/
theorem LX.step {w0 : World} {j : Nat} {p : Nat × List Int} (h : LX F w0 w g s gs wv fd fz j) (hp : s.wt[j]? = some p) : LX F w0 (w.setCells gs (p.1 * 64) (bv p.2)) g s gs wv fd fz (j + 1) := by
  obtain ⟨h, hc⟩ := h
  have hok := h.wb.ok p (List.mem_of_getElem? hp)
  have hne : ∀ c, c ≠ gs → (w.setCells gs (p.1 * 64) (bv p.2)).heap[c]? = w.heap[c]? := fun c hc => heap_past gs c hc _ _ _
  refine ⟨⟨h.db.keep (hne g h.ggs), h.fz, ?_, h.wb.keep (fun c hc => hne c (fun e => h.wgs (by rw [hc, e]))), h.ggs, h.wg, h.wgs, h.Fg, h.Fgs, h.Fw, fun c hc => by rw [size_setCells]; exact h.Flt c hc, h.n1, h.n2⟩, hc.setCells h.Fgs⟩
  show SB _ gs s.n (look s.st (s.wt.take (j + 1)))
  rw [take_snoc' hp, look_snoc]
  exact h.sb.store hok.1 hok.2
theorem PX.cleared (h : PX F w g s gs wv fd fz) : PX F (w.setCell ⟨g, 1, none⟩ (.slice none 0 0)) g { s with wt := [] } gs (.slice none 0 0) fd fz := by
  have hne : ∀ c, c ≠ g → (w.setCell ⟨g, 1, none⟩ (.slice none 0 0)).heap[c]? = w.heap[c]? := fun c hc => Below.heap_setCell _ _ _ _ hc
  have hs : (w.setCell ⟨g, 1, none⟩ (.slice none 0 0)).heap.size = w.heap.size := by simp [World.setCell]
  exact ⟨h.db.set1 _, h.fz, h.sb.keep (hne gs (Ne.symm h.ggs)), ⟨World.ownsRow_nil _ _ _ _, fun p hp => by cases hp⟩, h.ggs, by simp [Value.ownBlock], by simp [Value.ownBlock], h.Fg, h.Fgs, fun b hb => by simp [Value.ownBlock] at hb, fun c hc => by rw [hs]; exact h.Flt c hc, h.n1, h.n2⟩
set_option maxHeartbeats 2000000 in
theorem sync_PX (h : PX F w g s gs wv fd fz) :
    Calls Tryd.prog 26 #[.pointer (some ⟨g, 0, none⟩)] w fun e w' => e = .returned (.int .i64 (syE s)) ∧ Aft F w w' g (syS s) := by
  have H : Hid (PX F w g s gs wv fd fz) := h
  clear h
  have hz := zero_write
  go_enter Tryd.func26, Tryd.ntmps26
  go_wp2_with fail
  refine (operates_PX H.out).mono ?_
  rintro e w2 ⟨rfl, ⟨fd', fz', h1⟩, h2, h3⟩
  have H1 : Hid (PX F w2 g s.burn gs wv fd' fz') := h1
  have C1 : Hid (Chg F w w2) := h2.mono (fun b hb => by subst hb; exact H.out.Fg)
  clear h1 h2 h3
  have HB : Hid (s.burn.n = s.n ∧ s.burn.wt = s.wt ∧ s.burn.fu = s.fu ∧ s.burn.st = s.st) := burn_n s
  generalize ht : s.burn = t at H1 HB
  have HT : Hid (s.burn = t) := ht
  clear ht
  cases hl : s.lost with
  | true =>
    go_wp2_with fail
    go_ret
    exact ⟨by simp [syE, hl], F, by simp only [syS, hl]; rw [HT.out]; exact ⟨_, _, _, _, H1.out⟩, C1.out, fun b hb => .inl hb⟩
  | false =>
    obtain ⟨ad, cap, hv, hcap, hn0, -⟩ := H1.out.wb.shape
    obtain ⟨-, k1, -, -, -, -⟩ := H1.out.db.cells
    subst hv
    have hle := H1.out.wb.le
    go_wp2_with fail
    go_loopw [15] (fun c wr => ∃ k : Nat, k ≤ t.wt.length ∧ c = .int .i64 (k : Int) ∧ Hid (LX F w wr g t gs (.slice ad t.wt.length cap) fd' fz' k)) (fun c _ => t.wt.length - (intOf c).toNat)
    case atStart => exact ⟨0, Nat.zero_le _, rfl, ⟨H1.out, C1.out⟩⟩
    case round =>
      obtain ⟨k, hk, rfl, HK⟩ := hrel
      by_cases hlt : k < t.wt.length
      · obtain ⟨p, hp⟩ : ∃ p, t.wt[k]? = some p := ⟨t.wt[k], List.getElem?_eq_getElem hlt⟩
        cases ad with
        | none => rw [hn0 rfl] at hp; simp at hp
        | some ad =>
          obtain ⟨ad', cap', hv', -, -, hsh⟩ := HK.out.1.wb.shape
          cases hv'
          obtain ⟨b, rfl, hb, hm⟩ := hsh ad rfl
          have HR : Hid (wr.rangeAt b (k * 65) (wc p)) := hm k p hp
          have HP : Hid (t.wt[k]? = some p) := hp
          have hok := H1.out.wb.ok p (List.mem_of_getElem? hp)
          have HO : Hid (p.1 < t.n ∧ p.2.length = 64) := hok
          clear hm hsh hp hok hn0 hb
          go_wp2_with (first
            | (refine wpList_load_mid rfl 81 _ rfl b (k * 65) rfl (wc p) _ HR.out Tryd.underlying81 rfl (by rw [wc_length HO.out.2]; exact size_write) ?_)
            | (refine wpList_store_mid rfl 81 _ _ rfl wr.heap.size 0 (wc p).toArray rfl rfl (write_there wr HO.out.2) (write_size HO.out.2) (all_oneCell_toArray (wc_one p)) ?_; generalize hW3 : World.setCells _ _ _ _ = W3; have H3 := write_start HO.out.2 hW3; clear hW3; have HK3 : Hid (LX F w W3 g t gs (.slice (some ⟨b, 0, none⟩) t.wt.length cap) fd' fz' k) := HK.out.keep H3.out.1))
          generalize hb4 : wr.heap.size = b4 at H3 ⊢
          refine RT.wp_rgn' [9] (sf g gs t.n b4 p) sK (sΩ F w g t gs (.slice (some ⟨b, 0, none⟩) t.wt.length cap) fd' fz' k b4 p) (by kernel_rfl) (by kernel_rfl) ?_ ?_ ?_
          · exact ⟨⟨HK3.out.1.keep (Nat.le_refl _) (fun _ _ => rfl), HK3.out.2.trans ⟨rfl, rfl, rfl, Nat.le_refl _, fun _ _ _ => rfl⟩⟩, fun j u hu => H3.out.2 j u hu⟩
          · refine ⟨?_, ?_, ?_, ?_, ?_, ?_, ?_, ?_, ?_, ?_, trivial⟩
            · refine RT.ObT.pure rfl rfl rfl (fun a U hf hp ev he hc W => ?_)
              have q0 : ev (.tmp 0) = .pointer (some ⟨g, 0, none⟩) := (he (.tmp 0)).trans (hf 0 rfl)
              simp only [List.getElem_toArray, List.getElem_cons_succ, List.getElem_cons_zero, execOp]; rw [q0]; rfl
            · refine RT.ObT.pure rfl rfl rfl (fun a U hf hp ev he hc W => ?_)
              have q19 : ev (.tmp 19) = .pointer (some ⟨g, 0, none⟩) := (he (.tmp 19)).trans (hp 0 19 rfl)
              simp only [List.getElem_toArray, List.getElem_cons_succ, List.getElem_cons_zero, execOp]; rw [q19]; rfl
            · refine RT.ObT.pure rfl rfl rfl (fun a U hf hp ev he hc W => ?_)
              have q20 : ev (.tmp 20) = .pointer (some ⟨g, 0, none⟩) := (he (.tmp 20)).trans (hp 1 20 rfl)
              simp only [List.getElem_toArray, List.getElem_cons_succ, List.getElem_cons_zero, execOp]; rw [q20]; rfl
            · refine RT.ObT.silent rfl (fun a W k U hO hf hp hk => ?_)
              have hk0 : k ≤ 0 := hk
              obtain rfl : k = 0 := by omega
              have hc1 := hO.1.1.db.cells.1
              refine RT.ob_val rfl (RT.wanted_none rfl) (fun ev he hc => ?_) ⟨rfl, hO⟩
              have q21 : ev (.tmp 21) = .pointer (some ⟨g, 0, none⟩) := (he (.tmp 21)).trans (hp 2 21 rfl)
              simp only [List.getElem_toArray, List.getElem_cons_succ, List.getElem_cons_zero, execOp]; rw [q21]; go_simp; rfl
            · refine RT.ObT.pure rfl rfl rfl (fun a U hf hp ev he hc W => ?_)
              have q4 : ev (.tmp 4) = .pointer (some ⟨b4, 0, none⟩) := (he (.tmp 4)).trans (hf 4 rfl)
              simp only [List.getElem_toArray, List.getElem_cons_succ, List.getElem_cons_zero, execOp]; rw [q4]; rfl
            · refine RT.ObT.silent rfl (fun a W k U hO hf hp hk => ?_)
              have hk0 : k ≤ 0 := hk
              obtain rfl : k = 0 := by omega
              have hc1 := (show W.cell? ⟨b4, 0, none⟩ = some (.int .i64 (p.1 : Int)) from hO.2 0 _ rfl)
              refine RT.ob_val rfl (RT.wanted_none rfl) (fun ev he hc => ?_) ⟨rfl, hO⟩
              have q23 : ev (.tmp 23) = .pointer (some ⟨b4, 0, none⟩) := (he (.tmp 23)).trans (hp 4 23 rfl)
              simp only [List.getElem_toArray, List.getElem_cons_succ, List.getElem_cons_zero, execOp]; rw [q23]; go_simp; rfl
            · refine RT.ObT.pure rfl rfl rfl (fun a U hf hp ev he hc W => ?_)
              have q4 : ev (.tmp 4) = .pointer (some ⟨b4, 0, none⟩) := (he (.tmp 4)).trans (hf 4 rfl)
              simp only [List.getElem_toArray, List.getElem_cons_succ, List.getElem_cons_zero, execOp]; rw [q4]; rfl
            · refine RT.ObT.silent rfl (fun a W k U hO hf hp hk => ?_)
              have hk0 : k ≤ 0 := hk
              obtain rfl : k = 0 := by omega
              have hr : W.rangeAt b4 1 (bv p.2) := fun m u hu => by
                have := hO.2 (m + 1) u (by simpa [wc] using hu)
                rwa [show 0 + (m + 1) = 1 + m by omega] at this
              refine RT.ob_op rfl (RT.wanted_none rfl) (wp_load_mid 66 (.tmp 25) rfl b4 1 (hp 6 25 rfl) (bv p.2) _ hr Tryd.underlying66 rfl (by rw [bv_length, HO.out.2]; exact size64) ⟨rfl, hO⟩)
            · refine RT.ObT.pure rfl rfl rfl (fun a U hf hp ev he hc W => ?_)
              have q22 : ev (.tmp 22) = .slice (some ⟨gs, 0, none⟩) t.n t.n := (he (.tmp 22)).trans (hp 3 22 rfl)
              have q24 : ev (.tmp 24) = .int .i64 (p.1 : Int) := (he (.tmp 24)).trans (hp 5 24 rfl)
              have hi1 : ((p.1 : Nat) : Int) < (t.n : Int) := by have := HO.out.1; omega
              simp only [List.getElem_toArray, List.getElem_cons_succ, List.getElem_cons_zero, execOp]; rw [q22, q24]; go_simp; rfl
            · refine RT.ObT.loud (j := 0) rfl (fun a W U hO hf hp => ?_)
              refine RT.ob_op rfl (RT.wanted_none rfl) (wp_store_mid 66 (.tmp 27) (.tmp 26) rfl gs (p.1 * 64) (bv p.2).toArray (hp 8 27 rfl) (hp 7 26 rfl) (there_sec HO.out.2 (hO.1.1.sb.there HO.out.1)) (size_sec HO.out.2) (bv_one' _) ⟨_, rfl, ?_⟩)
              exact hO.1.step HP.out
          · intro w' U hO
            have HO' : Hid (LX F w w' g t gs (.slice (some ⟨b, 0, none⟩) t.wt.length cap) fd' fz' (k + 1)) := hO
            clear hO
            simp only [RT.lay, RT.val, RT.at', sf, Act.put]
            go_wp2_with fail
            exact ⟨⟨k + 1, hlt, by go_num, HO'⟩, by simp [intOf]; omega⟩
      · obtain rfl : k = t.wt.length := by omega
        obtain ⟨-, k1, -, -, -, -⟩ := HK.out.1.db.cells
        have f1 := HK.out.1.db.froz 1
        go_wp2_with fail
        go_ret
        refine ⟨by simp [syE, hl], F, ⟨gs, .slice none 0 0, fd', fz', ?_⟩, HK.out.2.setCell H1.out.Fg, fun b hb => .inl hb⟩
        have e1 : syS s = { t with st := look t.st t.wt, wt := [] } := by
          simp only [syS, hl]; rw [HT.out, ← HB.out.2.1, ← HB.out.2.2.2]
        rw [e1]
        have h := HK.out.1.cleared
        rw [List.take_of_length_le (Nat.le_refl _)] at h
        exact h
end Go.Proofs.YtphjjjijdbljaaaDoor
