/- Package store: a Store in its block; Get, Size. -/
import Derived.Test.YtphjjjijdbljaaaDoorStoG
namespace Go.Proofs.YtphjjjijdbljaaaDoor
open Go Go.RowKit
set_option linter.unusedSimpArgs false
set_option linter.unusedVariables false
set_option maxRecDepth 100000

/-- A Store's block: log, room, taken, the table's slice and weight, lost. -/
def SX (w : World) (st lg : Nat) (room taken : Int) (v : Value) (wt : Int) (lost : Bool) : Prop := w.heap[st]? = some (.cells #[.pointer (some ⟨lg, 0, none⟩), .int .i64 room, .int .i64 taken, v, .int .i64 wt, .bool lost] 45 (0, 0))
theorem SX.cells {w : World} {st lg : Nat} {room taken : Int} {v : Value} {wt : Int} {lost : Bool} (h : SX w st lg room taken v wt lost) :
    w.cell? ⟨st, 0, none⟩ = some (.pointer (some ⟨lg, 0, none⟩)) ∧ w.cell? ⟨st, 1, none⟩ = some (.int .i64 room) ∧ w.cell? ⟨st, 2, none⟩ = some (.int .i64 taken) ∧ w.cell? ⟨st, 3, none⟩ = some v ∧ w.cell? ⟨st, 4, none⟩ = some (.int .i64 wt) ∧ w.cell? ⟨st, 5, none⟩ = some (.bool lost) := by
  unfold SX at h
  refine ⟨?_, ?_, ?_, ?_, ?_, ?_⟩ <;> simp [World.cell?, h]
theorem SX.lt {w : World} {st lg : Nat} {room taken : Int} {v : Value} {wt : Int} {lost : Bool} (h : SX w st lg room taken v wt lost) : st < w.heap.size := (Array.getElem?_eq_some_iff.1 h).1
theorem SX.below {w w' : World} {st lg : Nat} {room taken : Int} {v : Value} {wt : Int} {lost : Bool} (h : SX w st lg room taken v wt lost) (hb : Below w.heap.size w w') : SX w' st lg room taken v wt lost := by
  unfold SX; rw [hb.block st h.lt]; exact h
/-- The value under a key. -/
def gv (l : List Cg) (key : ByteArray) (m : Nat) : ByteArray := match l[m]? with | some c => if cp c key = 0 then c.v else ⟨#[]⟩ | none => ⟨#[]⟩
theorem gv_no {l : List Cg} {key : ByteArray} {m : Nat} (h : tr l key m = false) : gv l key m = ⟨#[]⟩ := by
  unfold tr at h; unfold gv
  cases e : l[m]? with
  | none => rfl
  | some c => rw [e] at h; simp only at h ⊢; rw [if_neg (of_decide_eq_false h)]
theorem gv_yes {l : List Cg} {key : ByteArray} {m : Nat} (h : tr l key m = true) : ∃ c, l[m]? = some c ∧ gv l key m = c.v := by
  unfold tr at h; unfold gv
  cases e : l[m]? with
  | none => rw [e] at h; cases h
  | some c => rw [e] at h; simp only at h ⊢; exact ⟨c, rfl, by rw [if_pos (of_decide_eq_true h)]⟩
set_option maxHeartbeats 1000000 in
theorem size_any {w : World} {st lg : Nat} {room taken : Int} {v : Value} {wt : Int} {lost : Bool} (h : SX w st lg room taken v wt lost) (l : List Cg) (hv : CS w v l) :
    Calls Tryd.prog 7 #[.pointer (some ⟨st, 0, none⟩)] w fun e w' => e = .returned (.int .i64 (l.length : Int)) ∧ w' = w := by
  obtain ⟨_, _, _, c3, _, _⟩ := h.cells
  obtain ⟨ad, cap, rfl, -, -⟩ := hv
  go_enter Tryd.func7, Tryd.ntmps7
  go_wp2
  go_ret
  exact ⟨rfl, rfl⟩
set_option maxHeartbeats 1000000 in
theorem get_any {w : World} {st lg : Nat} {room taken : Int} {v : Value} {wt : Int} {lost : Bool} (h : SX w st lg room taken v wt lost) (l : List Cg) (hv : CS w v l) (hn : l.length ≤ 140737488355328) (key : ByteArray) (m : Nat) (hs : Sp l key m) :
    Calls Tryd.prog 5 #[.pointer (some ⟨st, 0, none⟩), .string key] w fun e w' => e = .returned (.tuple #[.string (gv l key m), .bool (tr l key m)]) ∧ Below w.heap.size w w' := by
  have HX : Hid (SX w st lg room taken v wt lost) := h
  have HV : Hid (CS w v l) := hv
  have HS : Hid (Sp l key m) := hs
  have c3 := h.cells.2.2.2.1
  obtain ⟨ad, cap, rfl, -, hx⟩ := hv
  clear h hs
  cases ht : tr l key m with
  | false =>
    have E : Hid (gv l key m = ⟨#[]⟩) := gv_no ht
    go_enter Tryd.func5, Tryd.ntmps5
    go_wp2_with (go_at_call 11; refine (find_any l key m HS.out _ w st 3 c3 HV.out hn).mono ?_; rintro e w2 ⟨rfl, h5⟩; rw [ht]; have H5 : Hid (Below w.heap.size w w2) := h5; clear h5)
    go_ret2
    exact ⟨by rw [E.out]; rfl, H5.out⟩
  | true =>
    obtain ⟨c, hc, hg⟩ := gv_yes ht
    have E : Hid (gv l key m = c.v) := hg
    have hml : m < l.length := (List.getElem?_eq_some_iff.1 hc).1
    rcases hx with ⟨rfl, _⟩ | ⟨b, o, rfl, hlb, hm⟩
    · simp at hml
    · have HR : Hid (∀ w2 : World, Below w.heap.size w w2 → w2.cell? ⟨b, o + m * 3 + 1, none⟩ = some (.string c.v)) := fun w2 hb => (hb.cell (p := ⟨b, o + m * 3 + 1, none⟩) hlb).trans (hm m c hc 1 _ rfl)
      clear hm hlb hc hg
      go_enter Tryd.func5, Tryd.ntmps5
      go_wp2_with (go_at_call 11; refine (find_any l key m HS.out _ w st 3 c3 HV.out hn).mono ?_; rintro e w2 ⟨rfl, h5⟩; rw [ht]; have H5 : Hid (Below w.heap.size w w2) := h5; have d3 : w2.cell? ⟨st, 3, none⟩ = some (.slice (some ⟨b, o, none⟩) l.length cap) := (HX.out.below h5).cells.2.2.2.1; have d1 := HR.out w2 h5; clear h5)
      go_ret2
      exact ⟨by rw [E.out]; rfl, H5.out⟩
end Go.Proofs.YtphjjjijdbljaaaDoor
/- Package store: tableOf of no records. -/
namespace Go.Proofs.YtphjjjijdbljaaaDoor
open Go Go.RowKit
set_option linter.unusedSimpArgs false
set_option linter.unusedVariables false
set_option maxRecDepth 100000

theorem size_tab : (Tryd.prog.info? 43).map (·.size) = some 2 := by kernel_rfl
set_option maxHeartbeats 1000000 in
theorem tableOf_none (v : Value) (w : World) (hv : LL w v []) :
    Calls Tryd.prog 16 #[v] w fun e w' => e = .returned (.agg #[.slice none 0 0, .int .i64 0]) ∧ Below w.heap.size w w' := by
  obtain ⟨ad, cap, rfl, -, -⟩ := hv
  go_enter Tryd.func16, Tryd.ntmps16
  go_wp2_with fail
  go_loopw [8] (fun i wr => i = .int .i64 0 ∧ wr = (w.alloc (.cells #[.slice none 0 0, .int .i64 0] 43 (0, 0))).alloc (.cells #[.slice none 0 0, .int .i64 0] 43 (0, 0))) (fun _ _ => 0)
  case atStart => exact ⟨rfl, rfl⟩
  case round =>
    obtain ⟨rfl, rfl⟩ := hrel
    go_wp2_with fail
    refine bodyPost_ret (v := .agg #[.slice none 0 0, .int .i64 0]) ?_ rfl ⟨rfl, ((Below.refl _ w).alloc (Nat.le_refl _) _).alloc (by simp) _⟩
    have q : ((w.alloc (.cells #[.slice none 0 0, .int .i64 0] 43 (0, 0))).alloc (.cells #[.slice none 0 0, .int .i64 0] 43 (0, 0))).rangeAt w.heap.size 0 [.slice none 0 0, .int .i64 0] := by
      refine World.rangeAt_alloc (fun j u hj => ?_) _
      match j, hj with
      | 0, hj => simp at hj; subst hj; exact cell_alloc w #[.slice none 0 0, .int .i64 0] _ _ 0
      | 1, hj => simp at hj; subst hj; exact cell_alloc w #[.slice none 0 0, .int .i64 0] _ _ 1
      | j + 2, hj => simp at hj
    simp only [results, Tryd.results16]
    simp [asAddr, run_loadVar_mid _ w.heap.size 0 43 [.slice none 0 0, .int .i64 0] _ q Tryd.underlying43 rfl size_tab]
end Go.Proofs.YtphjjjijdbljaaaDoor
/- Package store: Open on a new disk. -/
namespace Go.Proofs.YtphjjjijdbljaaaDoor
open Go Go.RowKit
set_option linter.unusedSimpArgs false
set_option linter.unusedVariables false
set_option maxRecDepth 100000

/-- Records of a log that has none. -/
theorem records_zero {S : Nat → Prop} {w : World} {g n lg : Nat} (h : WL S w g (dk0 n) lg (l0 g)) :
    Calls Tryd.prog 13 #[.pointer (some ⟨lg, 0, none⟩)] w fun e w' => ∃ v, e = .returned v ∧ LL w' v [] ∧ ∃ S' , WL S' w' g (dk0 n) lg (l0 g) ∧ Chg S w w' ∧ (∀ b, S' b → S b ∨ w.heap.size ≤ b) := by
  refine (records_core (l1 := l0 g) (S := S) (s := dk0 n) (g := g) (by simp [l0]) (by simp [l0]) ((refresh_zero h rfl rfl (dk0_rd n _).symm (dk0_rd n _).symm rfl).mono fun e w' ⟨h1, h2⟩ => ⟨h1, S, h.below h2, chg_of_below h2, fun b hb => .inl hb⟩)).mono ?_
  rintro e w' ⟨v, rfl, S', w1, us, h1, h2, h3, h4, h5⟩
  exact ⟨v, rfl, h4.ll, S', h1.below h5, h2.trans (chg_of_below h5), h3⟩
/-- What Open leaves: a Store, its log, and what they have changed. -/
def OpS (F : Nat → Prop) (w w' : World) (g n st lg : Nat) : Prop := ∃ S', WL S' w' g (dk0 n) lg (l0 g) ∧ SX w' st lg ((((n / 2 : Nat) : Int) - 8) * 32) 0 (.slice none 0 0) 0 false ∧ ¬ S' st ∧ w.heap.size ≤ st ∧ Chg F w w' ∧ ∀ b, S' b → F b ∨ w.heap.size ≤ b
set_option maxHeartbeats 2000000 in
theorem sopen_new {F : Nat → Prop} {w : World} {g n : Nat} (h : PD F w g (dk0 n)) (hT : Tb w) (hA : Ap F) (h64 : 64 ≤ n) (hn : n ≤ 1000000000) :
    Calls Tryd.prog 6 #[.pointer (some ⟨g, 0, none⟩)] w fun e w' => ∃ st, e = .returned (.tuple #[.pointer (some ⟨st, 0, none⟩), .int .i64 0]) ∧ OpS F w w' g n st w.heap.size := by
  have HO : Hid (Calls Tryd.prog 12 #[.pointer (some ⟨g, 0, none⟩)] w fun e w' => e = .returned (.tuple #[.pointer (some ⟨w.heap.size, 0, none⟩), .int .i64 0]) ∧ AftL F w w' g (dk0 n) w.heap.size (l0 g)) := open_new h hT hA h64
  obtain ⟨lg, hlg⟩ : ∃ lg, w.heap.size = lg := ⟨_, rfl⟩
  have HLG : Hid (w.heap.size = lg) := hlg
  rw [hlg] at HO ⊢
  clear h hT hA hlg
  go_enter Tryd.func6, Tryd.ntmps6
  go_wp2_with (first
    | (go_at_call 12; refine HO.out.mono ?_; rintro e w1 ⟨rfl, S1, h1, h2, h3⟩; have W1 : Hid (WL S1 w1 g (dk0 n) lg (l0 g)) := h1; have C1 : Hid (Chg F w w1) := h2; have D1 : Hid (∀ b, S1 b → F b ∨ w.heap.size ≤ b) := h3; clear h1 h2 h3)
    | (go_at_call 13; refine (records_zero W1.out).mono ?_; rintro e w2 ⟨v2, rfl, h0, S2, h1, h2, h3⟩; have L2 : Hid (LL w2 v2 []) := h0; obtain ⟨ad2, cp2, hv2, -, -⟩ := h0; subst hv2; have W2 : Hid (WL S2 w2 g (dk0 n) lg (l0 g)) := h1; have C2 : Hid (Chg S1 w1 w2) := h2; have D2 : Hid (∀ b, S2 b → S1 b ∨ w1.heap.size ≤ b) := h3; have RL : Hid (Calls Tryd.prog 14 #[.pointer (some ⟨g, 0, none⟩)] w2 fun e w' => e = .returned (.int .i64 ((((n / 2 : Nat) : Int) - 8) * 32)) ∧ w' = w2) := (by obtain ⟨F2, H2, rv, us, hx⟩ := h1; exact roomOfLog_any hx.pd hn); clear h1 h2 h3)
    | (go_at_call 14; refine RL.out.mono ?_; rintro e w' ⟨rfl, rfl⟩)
    | (go_at_call 15; refine (takenBy_any [] _ _ L2.out (fun i hi => by simp at hi) (by simp)).mono ?_; rintro e w' ⟨rfl, rfl⟩)
    | (go_at_call 16; refine (tableOf_none _ _ L2.out).mono ?_; rintro e w3 ⟨rfl, h1⟩; have B3 : Hid (Below (World.heap _).size _ w3) := h1; clear h1))
  go_ret2
  have hB : Below w3.heap.size w3 (w3.alloc (.cells #[.pointer (some ⟨lg, 0, none⟩), .int .i64 (((n : Int) / 2 - 8) * 32), .int .i64 (tb [] 0 : Int), .slice none 0 0, .int .i64 0, .bool false] 45 (0, 0))) := (Below.refl _ w3).alloc (Nat.le_refl _) _
  have hz2 := B3.out.size
  have hz1 := C2.out.size
  have hz0 := C1.out.size
  refine ⟨_, rfl, S2, (W2.out.below B3.out).below hB, ?_, ?_, ?_, ?_, ?_⟩
  · show (World.alloc _ _).heap[_]? = _
    have e : ((n / 2 : Nat) : Int) = (n : Int) / 2 := by omega
    rw [e]
    show (w3.heap.push _)[w3.heap.size]? = _
    simp [tb]
  · intro hs
    obtain ⟨F2, H2, rv, us, hx⟩ := W2.out
    have := hx.sl _ hs
    omega
  · omega
  · exact ((C1.out.trans' C2.out D1.out).trans (chg_of_below B3.out)).trans (chg_of_below hB)
  · intro b hb
    rcases D2.out b hb with h | h
    · exact D1.out b h
    · exact .inr (by omega)
end Go.Proofs.YtphjjjijdbljaaaDoor
