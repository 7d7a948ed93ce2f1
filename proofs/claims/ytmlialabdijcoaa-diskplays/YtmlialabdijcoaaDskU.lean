/- Two disks side by side. -/
import Derived.Test.YtmlialabdijcoaaDskT
namespace Go.Proofs.Ytmlialabdijcoaa
open Go Go.RowKit
set_option linter.unusedSimpArgs false
set_option linter.unusedVariables false
set_option maxRecDepth 100000

/-- The program's disk at gd and the reference's at gw, none of whose blocks is one of X. -/
def P2 (X : Nat → Prop) (w0 W : World) (gd gw : Nat) (s t : Dk) : Prop := ∃ F G, PD F W gd s ∧ QD G W gw t ∧ (∀ b, F b → ¬ G b) ∧ (∀ b, X b → ¬ F b ∧ ¬ G b ∧ b < W.heap.size) ∧ Kept X w0 W
variable {X Y : Nat → Prop} {w0 W W' : World} {gd gw : Nat} {s t s' : Dk}
theorem QD.flt {G : Nat → Prop} (h : QD G W gw t) : ∀ b, G b → b < W.heap.size := by
  obtain ⟨gs, wv, fz, h⟩ := h; exact h.Flt
theorem PD.flt {F : Nat → Prop} (h : PD F W gd s) : ∀ b, F b → b < W.heap.size := by
  obtain ⟨gs, wv, fd, fz, h⟩ := h; exact h.Flt
theorem P2.prog (h : P2 X w0 W gd gw s t) {f : FuncId} {args : Array Value} {r : Value} (C : ∀ F, PD F W gd s → (∀ b, X b → ¬ F b) → Calls Try.prog f args W fun e W' => e = .returned r ∧ Aft F W W' gd s') :
    Calls Try.prog f args W fun e W' => e = .returned r ∧ P2 X w0 W' gd gw s' t := by
  obtain ⟨F, G, h1, h2, h3, h4, h5⟩ := h
  refine (C F h1 (fun b hb => (h4 b hb).1)).mono fun e W' ⟨he, F', a1, a2, a3⟩ => ⟨he, F', G, a1, h2.chg a2 (fun b hg hf => h3 b hf hg), fun b hf hg => ?_, fun b hb => ?_, h5.trans ⟨a2.os, a2.tape, a2.output, a2.size, fun b hb => a2.other b (h4 b hb).2.2 (h4 b hb).1⟩⟩
  · rcases a3 b hf with h | h
    · exact h3 b h hg
    · have := h2.flt b hg; omega
  · refine ⟨fun hf => ?_, (h4 b hb).2.1, Nat.lt_of_lt_of_le (h4 b hb).2.2 a2.size⟩
    rcases a3 b hf with h | h
    · exact (h4 b hb).1 h
    · have := (h4 b hb).2.2; omega
theorem P2.ref (h : P2 X w0 W gd gw s t) {f : FuncId} {args : Array Value} {r : Value} (C : ∀ G, QD G W gw t → (∀ b, X b → ¬ G b) → Calls Try.prog f args W fun e W' => e = .returned r ∧ QAft G W W' gw s') :
    Calls Try.prog f args W fun e W' => e = .returned r ∧ P2 X w0 W' gd gw s s' := by
  obtain ⟨F, G, h1, h2, h3, h4, h5⟩ := h
  refine (C G h2 (fun b hb => (h4 b hb).2.1)).mono fun e W' ⟨he, G', a1, a2, a3⟩ => ⟨he, F, G', h1.chg a2 (fun b hf hg => h3 b hf hg), a1, fun b hf hg => ?_, fun b hb => ?_, h5.trans ⟨a2.os, a2.tape, a2.output, a2.size, fun b hb => a2.other b (h4 b hb).2.2 (h4 b hb).2.1⟩⟩
  · rcases a3 b hg with h | h
    · exact h3 b hf h
    · have := h1.flt b hf; omega
  · refine ⟨(h4 b hb).1, fun hg => ?_, Nat.lt_of_lt_of_le (h4 b hb).2.2 a2.size⟩
    rcases a3 b hg with h | h
    · exact (h4 b hb).2.1 h
    · have := (h4 b hb).2.2; omega
theorem P2.below (h : P2 X w0 W gd gw s t) (hb : Below W.heap.size W W') : P2 X w0 W' gd gw s t := by
  obtain ⟨F, G, h1, h2, h3, h4, h5⟩ := h
  exact ⟨F, G, h1.below hb, h2.below hb, h3, fun b hx => ⟨(h4 b hx).1, (h4 b hx).2.1, Nat.lt_of_lt_of_le (h4 b hx).2.2 hb.size⟩, h5.trans ⟨hb.os, hb.tape, hb.output, hb.size, fun b hx => hb.block b (h4 b hx).2.2⟩⟩
theorem P2.more (h : P2 X w0 W gd gw s t) (hb : Below W.heap.size W W') : P2 (fun b => X b ∨ (W.heap.size ≤ b ∧ b < W'.heap.size)) W' W' gd gw s t := by
  obtain ⟨F, G, h1, h2, h3, h4, h5⟩ := h
  refine ⟨F, G, h1.below hb, h2.below hb, h3, fun b hx => ?_, Kept.refl _ _⟩
  rcases hx with hx | hx
  · exact ⟨(h4 b hx).1, (h4 b hx).2.1, Nat.lt_of_lt_of_le (h4 b hx).2.2 hb.size⟩
  · exact ⟨fun hf => by have := h1.flt b hf; omega, fun hf => by have := h2.flt b hf; omega, hx.2⟩
theorem P2.kept (h : P2 X w0 W gd gw s t) : Kept X w0 W := by
  obtain ⟨F, G, h1, h2, h3, h4, h5⟩ := h
  exact h5
theorem P2.lt (h : P2 X w0 W gd gw s t) {b : Nat} (hb : X b) : b < W.heap.size := by
  obtain ⟨F, G, h1, h2, h3, h4, h5⟩ := h
  exact (h4 b hb).2.2
/-- A block that is none of the disks' is written. -/
theorem P2.poke (h : P2 X w0 W gd gw s t) {b o : Nat} {vs : List Value} (hb : X b) : P2 X (W.setCells b o vs) (W.setCells b o vs) gd gw s t := by
  obtain ⟨F, G, h1, h2, h3, h4, h5⟩ := h
  have hz : (W.setCells b o vs).heap.size = W.heap.size := size_setCells _ _ _ _
  refine ⟨F, G, h1.keep (by rw [hz]; exact Nat.le_refl _) (fun c hc => heap_past b c (fun e => ?_) _ _ _), h2.keep (by rw [hz]; exact Nat.le_refl _) (fun c hc => heap_past b c (fun e => ?_) _ _ _), h3, fun c hc => ⟨(h4 c hc).1, (h4 c hc).2.1, by rw [hz]; exact (h4 c hc).2.2⟩, Kept.refl _ _⟩
  · subst e; exact (h4 c hb).1 hc
  · subst e; exact (h4 c hb).2.1 hc
theorem P2.back {w : World} (h : P2 X W W' gd gw s t) (hY : ∀ c, Y c → X c) (hW : Kept Y w W) : P2 Y w W' gd gw s t := by
  obtain ⟨F, G, h1, h2, h3, h4, h5⟩ := h
  exact ⟨F, G, h1, h2, h3, fun c hc => h4 c (hY c hc), hW.trans ⟨h5.os, h5.tape, h5.output, h5.size, fun c hc => h5.same c (hY c hc)⟩⟩
theorem P2.new {w1 w2 w3 : World} {n : Nat} (h : NewP w1 w2 gd n) (k : QNewP w2 w3 gw n) (hk : Kept X w0 w1) (hX : ∀ b, X b → b < w1.heap.size) : P2 X w0 w3 gd gw (dk0 n) (dk0 n) := by
  obtain ⟨F, a1, a2, a3⟩ := h
  obtain ⟨G, b1, b2, b3⟩ := k
  refine ⟨F, G, a1.below b2, b1, fun b hf hg => by have h1 := a1.flt b hf; have h2 := b3 b hg; omega, fun b hb => ⟨fun hf => by have h1 := a3 b hf; have h2 := hX b hb; omega, fun hg => by have h1 := b3 b hg; have h2 := hX b hb; have h3 := a2.size; omega, Nat.lt_of_lt_of_le (hX b hb) (Nat.le_trans a2.size b2.size)⟩, ?_⟩
  exact hk.trans ((⟨a2.os, a2.tape, a2.output, a2.size, fun b hb => a2.block b (hX b hb)⟩ : Kept X w1 w2).trans ⟨b2.os, b2.tape, b2.output, b2.size, fun b hb => b2.block b (Nat.lt_of_lt_of_le (hX b hb) a2.size)⟩)
theorem P2.write (h : P2 X w0 W gd gw s t) (i : Int) (x : List Int) (hx : x.length = 64) (hN : (s.wt.length + 1) * 72 ≤ 216000000000000) :
    Calls Try.prog 12 #[.pointer (some ⟨gd, 0, none⟩), .int .i64 i, .agg (bv x).toArray] W fun e W' => e = .returned (.int .i64 (wrE s i)) ∧ P2 X w0 W' gd gw (wrS s i x) t := h.prog fun F hF _ => write_any hF i x hx hN
theorem P2.rwrite (h : P2 X w0 W gd gw s t) (i : Int) (x : List Int) (hx : x.length = 64) (hN : (t.wt.length + 1) * 72 ≤ 216000000000000) :
    Calls Try.prog 14 #[.pointer (some ⟨gw, 0, none⟩), .int .i64 i, .agg (bv x).toArray] W fun e W' => e = .returned (.int .i64 (wrE t i)) ∧ P2 X w0 W' gd gw s (wrS t i x) := h.ref fun G ⟨gs, wv, fz, hG⟩ _ => rwrite_QX hG i x hx hN
theorem P2.sync (h : P2 X w0 W gd gw s t) : Calls Try.prog 15 #[.pointer (some ⟨gd, 0, none⟩)] W fun e W' => e = .returned (.int .i64 (syE s)) ∧ P2 X w0 W' gd gw (syS s) t := h.prog fun F hF _ => sync_any hF
theorem P2.rsync (h : P2 X w0 W gd gw s t) : Calls Try.prog 16 #[.pointer (some ⟨gw, 0, none⟩)] W fun e W' => e = .returned (.int .i64 (syE t)) ∧ P2 X w0 W' gd gw s (syS t) := h.ref fun G ⟨gs, wv, fz, hG⟩ _ => rsync_QX hG
theorem P2.setFull (h : P2 X w0 W gd gw s t) (b : Bool) : Calls Try.prog 19 #[.pointer (some ⟨gd, 0, none⟩), .bool b] W fun e W' => e = .returned (.tuple #[]) ∧ P2 X w0 W' gd gw { s with fu := b } t := h.prog fun F hF _ => setFull_any hF b
theorem P2.rsetFull (h : P2 X w0 W gd gw s t) (b : Bool) : Calls Try.prog 20 #[.pointer (some ⟨gw, 0, none⟩), .bool b] W fun e W' => e = .returned (.tuple #[]) ∧ P2 X w0 W' gd gw s { t with fu := b } := h.ref fun G hG _ => rsetFull_any hG b
theorem P2.setFuse (h : P2 X w0 W gd gw s t) (n : Int) (hn : n ≤ 9223372036854775807) : Calls Try.prog 21 #[.pointer (some ⟨gd, 0, none⟩), .int .i64 n] W fun e W' => e = .returned (.tuple #[]) ∧ P2 X w0 W' gd gw { s with fz := fuseOf n } t := h.prog fun F hF _ => setFuse_any hF n hn
theorem P2.rsetFuse (h : P2 X w0 W gd gw s t) (n : Int) (hn : n ≤ 9223372036854775807) : Calls Try.prog 22 #[.pointer (some ⟨gw, 0, none⟩), .int .i64 n] W fun e W' => e = .returned (.tuple #[]) ∧ P2 X w0 W' gd gw s { t with fz := fuseOf n } := h.ref fun G hG _ => rsetFuse_any hG n hn
theorem P2.restart (h : P2 X w0 W gd gw s t) (cs : List Int) (cv : Value) (hc : Sl W cv cs) (hF : ∀ b, cv.ownBlock = some b → cs ≠ [] → X b) (hcl : cs.length ≤ 140737488355328) :
    Calls Try.prog 23 #[.pointer (some ⟨gd, 0, none⟩), cv] W fun e W' => e = .returned (.tuple #[]) ∧ P2 X w0 W' gd gw (rsS s cs) t := h.prog fun F hP hX => restart_any hP cs cv hc (fun b hb hn => hX b (hF b hb hn)) hcl
theorem P2.rrestart (h : P2 X w0 W gd gw s t) (cs : List Int) (cv : Value) (hc : Sl W cv cs) (hF : ∀ b, cv.ownBlock = some b → cs ≠ [] → X b) (hcl : cs.length ≤ 140737488355328) :
    Calls Try.prog 24 #[.pointer (some ⟨gw, 0, none⟩), cv] W fun e W' => e = .returned (.tuple #[]) ∧ P2 X w0 W' gd gw s (rsS t cs) := h.ref fun G ⟨gs, wv, fz, hG⟩ hX => rrestart_QX hG cs cv hc (fun b hb hn => hX b (hF b hb hn)) hcl
theorem P2.read (h : P2 X w0 W gd gw s t) (i : Int) : Calls Try.prog 17 #[.pointer (some ⟨gd, 0, none⟩), .int .i64 i] W fun e W' => e = .returned (.tuple #[.agg (bv (rdV s i)).toArray, .int .i64 (rdE s i)]) ∧ P2 X w0 W' gd gw s t := by
  obtain ⟨F, G, h1, -⟩ := id h
  exact (read_any h1 i).mono fun e w' ⟨he, hb⟩ => ⟨he, h.below hb⟩
theorem P2.rread (h : P2 X w0 W gd gw s t) (i : Int) : Calls Try.prog 18 #[.pointer (some ⟨gw, 0, none⟩), .int .i64 i] W fun e W' => e = .returned (.tuple #[.agg (bv (rdV t i)).toArray, .int .i64 (rdE t i)]) ∧ P2 X w0 W' gd gw s t := by
  obtain ⟨F, G, -, ⟨gs, wv, fz, h2⟩, -⟩ := id h
  exact (rread_QX h2 i).mono fun e w' ⟨he, hb⟩ => ⟨he, h.below hb⟩
theorem P2.sectors (h : P2 X w0 W gd gw s t) : Calls Try.prog 11 #[.pointer (some ⟨gd, 0, none⟩)] W fun e w' => e = .returned (.int .i64 (s.n : Int)) ∧ w' = W := by
  obtain ⟨F, G, h1, -⟩ := h
  exact sectors_any h1
theorem P2.waiting (h : P2 X w0 W gd gw s t) : Calls Try.prog 25 #[.pointer (some ⟨gd, 0, none⟩)] W fun e w' => e = .returned (.int .i64 (s.wt.length : Int)) ∧ w' = W := by
  obtain ⟨F, G, h1, -⟩ := h
  exact waiting_any h1
theorem P2.rwaiting (h : P2 X w0 W gd gw s t) : Calls Try.prog 26 #[.pointer (some ⟨gw, 0, none⟩)] W fun e w' => e = .returned (.int .i64 (t.wt.length : Int)) ∧ w' = W := by
  obtain ⟨F, G, -, h2, -⟩ := h
  exact rwaiting_any h2
theorem P2.down (h : P2 X w0 W gd gw s t) : Calls Try.prog 27 #[.pointer (some ⟨gd, 0, none⟩)] W fun e w' => e = .returned (.bool s.dn) ∧ w' = W := by
  obtain ⟨F, G, h1, -⟩ := h
  exact down_any h1
theorem P2.rdown (h : P2 X w0 W gd gw s t) : Calls Try.prog 28 #[.pointer (some ⟨gw, 0, none⟩)] W fun e w' => e = .returned (.bool t.dn) ∧ w' = W := by
  obtain ⟨F, G, -, h2, -⟩ := h
  exact rdown_any h2
theorem rdV_length {w : World} {F : Nat → Prop} (h : PD F w gd s) (i : Int) : (rdV s i).length = 64 := by
  obtain ⟨gs, wv, fd, fz, h⟩ := h
  unfold rdV
  cases hh : hasB s.n i with
  | false => exact z64_length
  | true =>
    cases s.dn with
    | true => exact z64_length
    | false =>
      refine look_len h.sb.len h.wb.ok _ ?_
      unfold hasB at hh
      simp only [Bool.and_eq_true, decide_eq_true_eq] at hh
      omega
theorem P2.rdl (h : P2 X w0 W gd gw s t) (i : Int) : (rdV s i).length = 64 := by
  obtain ⟨F, G, h1, -⟩ := h
  exact rdV_length h1 i
theorem wrS_len (s : Dk) (i : Int) (x : List Int) : (wrS s i x).wt.length ≤ s.wt.length + 1 := by
  obtain ⟨-, b2, -, -⟩ := burn_n s
  unfold wrS
  split
  · omega
  · rw [b2]; omega
  · rw [b2]; omega
  · simp
theorem syS_len (s : Dk) : (syS s).wt.length ≤ s.wt.length + 1 := by
  obtain ⟨-, b2, -, -⟩ := burn_n s
  unfold syS
  split
  · rw [b2]; omega
  · simp
/-- One item of a script. -/
structure Itm where
  kind : Int
  n : Int
  b : Int
  cv : Value
  cs : List Int
def Itm.cells (o : Itm) : List Value := [.int .i64 o.kind, .int .i64 o.n, .int .u8 o.b, o.cv]
structure Itm.Ok (w : World) (o : Itm) : Prop where
  n : -9223372036854775808 ≤ o.n ∧ o.n ≤ 9223372036854775807
  b : 0 ≤ o.b ∧ o.b ≤ 255
  sl : Sl w o.cv o.cs
  own : ∀ b, o.cv.ownBlock = some b → o.cs ≠ [] → b < w.heap.size
  len : o.cs.length ≤ 140737488355328
/-- A script. -/
def Scr (w : World) (v : Value) (L : Nat) (f : Nat → Itm) : Prop := ∃ ad cap, v = .slice ad L cap ∧ (L = 0 ∨ ∃ b o, ad = some ⟨b, o, none⟩ ∧ b < w.heap.size ∧ ∀ i, i < L → w.rangeAt b (o + i * 4) (f i).cells ∧ (f i).Ok w)
end Go.Proofs.Ytmlialabdijcoaa
