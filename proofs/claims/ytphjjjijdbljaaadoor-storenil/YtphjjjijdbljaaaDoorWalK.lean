/- A log in memory. -/
import Derived.Test.YtphjjjijdbljaaaDoorWalJ
namespace Go.Proofs.YtphjjjijdbljaaaDoor
open Go Go.RowKit
set_option linter.unusedSimpArgs false
set_option linter.unusedVariables false
set_option maxRecDepth 100000

structure Lo where
  g : Nat
  t : Nat
  f0 : List Int
  f1 : List Int
  rs : List (List Int)
  en : Nat
  lo : Bool
/-- A log's cells. -/
def lc (l : Lo) (rv : Value) : List Value := .pointer (some ⟨l.g, 0, none⟩) :: .int .u64 (l.t : Int) :: (bv l.f0 ++ (bv l.f1 ++ [rv, .int .i64 (l.en : Int), .bool l.lo]))
def LB (w : World) (lg : Nat) (l : Lo) (rv : Value) : Prop := w.heap[lg]? = some (.cells (lc l rv).toArray 70 (0, 0))
theorem lc_length {l : Lo} {rv : Value} (h0 : l.f0.length = 64) (h1 : l.f1.length = 64) : (lc l rv).length = 133 := by simp [lc, bv_length, h0, h1]
theorem lc_low {l : Lo} {rv : Value} : (lc l rv)[0]? = some (.pointer (some ⟨l.g, 0, none⟩)) ∧ (lc l rv)[1]? = some (.int .u64 (l.t : Int)) := ⟨rfl, rfl⟩
theorem lc_hi {l : Lo} {rv : Value} (h0 : l.f0.length = 64) (h1 : l.f1.length = 64) (k : Nat) : (lc l rv)[130 + k]? = [rv, .int .i64 (l.en : Int), .bool l.lo][k]? := by
  have b0 : (bv l.f0).length = 64 := by rw [bv_length, h0]
  have b1 : (bv l.f1).length = 64 := by rw [bv_length, h1]
  unfold lc
  rw [show 130 + k = (128 + k) + 1 + 1 by omega, List.getElem?_cons_succ, List.getElem?_cons_succ, List.getElem?_append_right (by omega), List.getElem?_append_right (by omega), b0, b1]
  congr 1
  omega
theorem lc_set_hi {l : Lo} {rv : Value} (h0 : l.f0.length = 64) (h1 : l.f1.length = 64) (k : Nat) (v : Value) : (lc l rv).set (130 + k) v = .pointer (some ⟨l.g, 0, none⟩) :: .int .u64 (l.t : Int) :: (bv l.f0 ++ (bv l.f1 ++ [rv, .int .i64 (l.en : Int), .bool l.lo].set k v)) := by
  have b0 : (bv l.f0).length = 64 := by rw [bv_length, h0]
  have b1 : (bv l.f1).length = 64 := by rw [bv_length, h1]
  unfold lc
  rw [show 130 + k = (128 + k) + 1 + 1 by omega, List.set_cons_succ, List.set_cons_succ, List.set_append, if_neg (by omega), List.set_append, if_neg (by omega), b0, b1, show 128 + k - 64 - 64 = k by omega]
theorem LB.cells {w : World} {lg : Nat} {l : Lo} {rv : Value} (h : LB w lg l rv) (h0 : l.f0.length = 64) (h1 : l.f1.length = 64) :
    w.cell? ⟨lg, 0, none⟩ = some (.pointer (some ⟨l.g, 0, none⟩)) ∧ w.cell? ⟨lg, 1, none⟩ = some (.int .u64 (l.t : Int)) ∧ w.cell? ⟨lg, 130, none⟩ = some rv ∧ w.cell? ⟨lg, 131, none⟩ = some (.int .i64 (l.en : Int)) ∧ w.cell? ⟨lg, 132, none⟩ = some (.bool l.lo) := by
  refine ⟨?_, ?_, ?_, ?_, ?_⟩
  · rw [cell_of_row w _ _ _ _ _ h, List.getElem?_toArray]; rfl
  · rw [cell_of_row w _ _ _ _ _ h, List.getElem?_toArray]; rfl
  · rw [cell_of_row w _ _ _ _ _ h, List.getElem?_toArray]; exact lc_hi h0 h1 0
  · rw [cell_of_row w _ _ _ _ _ h, List.getElem?_toArray]; exact lc_hi h0 h1 1
  · rw [cell_of_row w _ _ _ _ _ h, List.getElem?_toArray]; exact lc_hi h0 h1 2
theorem LB.froz {w : World} {lg : Nat} {l : Lo} {rv : Value} (h : LB w lg l rv) (k : Nat) : w.frozen? ⟨lg, k, none⟩ = false := by
  unfold World.frozen?; rw [h]; simp
theorem LB.lt {w : World} {lg : Nat} {l : Lo} {rv : Value} (h : LB w lg l rv) : lg < w.heap.size := (Array.getElem?_eq_some_iff.1 h).1
theorem LB.put {w : World} {lg : Nat} {l : Lo} {rv : Value} (h : LB w lg l rv) (k : Nat) (v : Value) : (w.setCell ⟨lg, k, none⟩ v).heap[lg]? = some (.cells ((lc l rv).set k v).toArray 70 (0, 0)) := by
  rw [heap_setCell_same h, List.setIfInBounds_toArray]
theorem LB.setR {w : World} {lg : Nat} {l : Lo} {rv : Value} (h : LB w lg l rv) (h0 : l.f0.length = 64) (h1 : l.f1.length = 64) (rs : List (List Int)) (v : Value) : LB (w.setCell ⟨lg, 130, none⟩ v) lg { l with rs := rs } v := by
  have := h.put 130 v
  rw [lc_set_hi h0 h1 0 v] at this; exact this
theorem LB.setE {w : World} {lg : Nat} {l : Lo} {rv : Value} (h : LB w lg l rv) (h0 : l.f0.length = 64) (h1 : l.f1.length = 64) (e : Nat) : LB (w.setCell ⟨lg, 131, none⟩ (.int .i64 (e : Int))) lg { l with en := e } rv := by
  have := h.put 131 (.int .i64 (e : Int))
  rw [lc_set_hi h0 h1 1 _] at this; exact this
theorem LB.setL {w : World} {lg : Nat} {l : Lo} {rv : Value} (h : LB w lg l rv) (h0 : l.f0.length = 64) (h1 : l.f1.length = 64) (b : Bool) : LB (w.setCell ⟨lg, 132, none⟩ (.bool b)) lg { l with lo := b } rv := by
  have := h.put 132 (.bool b)
  rw [lc_set_hi h0 h1 2 _] at this; exact this
theorem LB.setT {w : World} {lg : Nat} {l : Lo} {rv : Value} (h : LB w lg l rv) (t : Nat) : LB (w.setCell ⟨lg, 1, none⟩ (.int .u64 (t : Int))) lg { l with t := t } rv := h.put 1 _
/-- A log in blocks of H. -/
structure LW (H : Nat → Prop) (w : World) (lg : Nat) (l : Lo) (rv : Value) (us : List Value) : Prop where
  lb : LB w lg l rv
  f0 : l.f0.length = 64
  f1 : l.f1.length = 64
  ol : OL 0 w rv us l.rs
  hg : H lg
  hrv : ∀ b, rv.ownBlock = some b → H b ∧ b ≠ lg
  hus : ∀ (i : Nat) (u : Value), us[i]? = some u → ∀ b, u.ownBlock = some b → H b ∧ b ≠ lg
  hlt : ∀ b, H b → b < w.heap.size
theorem OL.keep {B0 : Nat} {w w' : World} {v : Value} {us : List Value} {xss : List (List Int)} (h : OL B0 w v us xss) (hs : w.heap.size ≤ w'.heap.size) (kv : ∀ b, v.ownBlock = some b → w'.heap[b]? = w.heap[b]?) (ku : ∀ (i : Nat) (u : Value), us[i]? = some u → ∀ b, u.ownBlock = some b → w'.heap[b]? = w.heap[b]?) : OL B0 w' v us xss := by
  refine ⟨h.len, ?_, fun i u hu => (h.mem i u hu).keep (fun b hb => ku i u hu b hb), fun i u hu b e => ⟨Nat.lt_of_lt_of_le (h.apart i u hu b e).1 hs, (h.apart i u hu b e).2⟩, h.dist⟩
  refine ⟨h.row.1, ?_⟩
  rcases h.row.2 with h1 | ⟨g, cap, cur, rfl, hg, hh, rest⟩
  · exact .inl h1
  · exact .inr ⟨g, cap, cur, rfl, hg, by rw [kv g rfl]; exact hh, rest⟩
theorem LW.keep {H : Nat → Prop} {w w' : World} {lg : Nat} {l : Lo} {rv : Value} {us : List Value} (h : LW H w lg l rv us) (hs : w.heap.size ≤ w'.heap.size) (k : ∀ b, H b → w'.heap[b]? = w.heap[b]?) : LW H w' lg l rv us :=
  ⟨(k lg h.hg).trans h.lb, h.f0, h.f1, h.ol.keep hs (fun b e => k b (h.hrv b e).1) (fun i u hu b e => k b (h.hus i u hu b e).1), h.hg, h.hrv, h.hus, fun b hb => Nat.lt_of_lt_of_le (h.hlt b hb) hs⟩
theorem LW.chg {H F : Nat → Prop} {w w' : World} {lg : Nat} {l : Lo} {rv : Value} {us : List Value} (h : LW H w lg l rv us) (c : Chg F w w') (d : ∀ b, H b → ¬ F b) : LW H w' lg l rv us :=
  h.keep c.size (fun b hb => c.other b (h.hlt b hb) (d b hb))
end Go.Proofs.YtphjjjijdbljaaaDoor
/- follow: the frames behind the end. -/
namespace Go.Proofs.YtphjjjijdbljaaaDoor
open Go Go.RowKit
set_option linter.unusedSimpArgs false
set_option linter.unusedVariables false
set_option maxRecDepth 100000

/-- A disk that holds bytes. -/
def Sbt (s : Dk) : Prop := (∀ i, Byt (s.st i)) ∧ ∀ p ∈ s.wt, Byt p.2
theorem z64_byt : Byt z64 := by intro z hz; rw [z64] at hz; have := List.eq_of_mem_replicate hz; subst this; decide
theorem look_byt : ∀ (l : List (Nat × List Int)) (st : Nat → List Int), (∀ i, Byt (st i)) → (∀ p ∈ l, Byt p.2) → ∀ i, Byt (look st l i)
  | [], st, h, _, i => h i
  | p :: l, st, h, hl, i => by
    refine look_byt l (upd st p.1 p.2) (fun j => ?_) (fun q hq => hl q (by simp [hq])) i
    unfold upd; split
    · exact hl p (by simp)
    · exact h j
theorem Sbt.by' {F : Nat → Prop} {w : World} {g : Nat} {s : Dk} (h : Sbt s) (hp : PD F w g s) : Sby s := by
  intro i
  refine ⟨?_, rdV_len hp i⟩
  unfold rdV
  split
  · exact z64_byt
  · exact z64_byt
  · exact look_byt _ _ h.1 h.2 _
theorem Sbt.burn {s : Dk} (h : Sbt s) : Sbt s.burn := by
  obtain ⟨_, h2, _, h4⟩ := burn_n s
  exact ⟨by rw [h4]; exact h.1, by rw [h2]; exact h.2⟩
theorem Sbt.write {s : Dk} (h : Sbt s) (i : Int) {x : List Int} (hx : Byt x) : Sbt (wrS s i x) := by
  unfold wrS
  split
  · exact h
  · exact h.burn
  · exact h.burn
  · refine ⟨h.burn.1, fun p hp => ?_⟩
    rcases List.mem_append.1 hp with hp | hp
    · exact h.2 p hp
    · simp at hp; subst hp; exact hx
theorem Sbt.sync {s : Dk} (h : Sbt s) : Sbt (syS s) := by
  unfold syS
  split
  · exact h.burn
  · exact ⟨look_byt _ _ h.1 h.2, fun p hp => by cases hp⟩
theorem sbt_sto : ∀ (xs : List (List Int)) {s : Dk} (a : Int), Sbt s → (∀ x ∈ xs, Byt x) → Sbt (sto s a xs).2
  | [], s, a, h, _ => h.sync
  | x :: r, s, a, h, hx => by
    simp only [sto]
    split
    · exact sbt_sto r _ (h.write a (hx x (by simp))) (fun y hy => hx y (by simp [hy]))
    · exact h.write a (hx x (by simp))
theorem sec_byt {p : List Int} (h : Byt p) (k : Nat) : Byt (sec p k) := by
  intro z hz
  unfold sec at hz
  rcases List.mem_append.1 hz with x | x
  · exact ((h.drop _).take _) z x
  · have := List.eq_of_mem_replicate x; subst this; decide
theorem hd_byt (p : List Int) : Byt (hd p) := by
  intro z hz
  unfold hd hdp at hz
  rcases List.mem_append.1 hz with x | x
  · exact hs_byt p z x
  · rcases List.mem_append.1 x with x | x
    · exact be_byt _ _ z x
    · have := List.eq_of_mem_replicate x; subst this; decide
theorem sbt_lay {s : Dk} (h : Sbt s) (a : Int) {p : List Int} (hp : Byt p) : Sbt (lay s a p).2 := by
  have h1 : Sbt (sto s a [z64]).2 := sbt_sto _ a h (fun x hx => by simp at hx; subst hx; exact z64_byt)
  unfold lay lay1
  split
  · have h2 := sbt_sto (cuts p (nsec p.length) ++ [z64]) (a + 1) h1 (fun x hx => by
      rcases List.mem_append.1 hx with hx | hx
      · obtain ⟨k, _, rfl⟩ := List.mem_map.1 hx; exact sec_byt hp k
      · simp at hx; subst hx; exact z64_byt)
    unfold lay2
    split
    · exact sbt_sto [hd p] a h2 (fun x hx => by simp at hx; subst hx; exact hd_byt p)
    · exact h2
  · exact h1
/-- A disk and a log on it, in blocks of S. -/
structure WX (S F H : Nat → Prop) (w : World) (g : Nat) (s : Dk) (lg : Nat) (l : Lo) (rv : Value) (us : List Value) : Prop where
  pd : PD F w g s
  lw : LW H w lg l rv us
  dk : l.g = g
  ap : ∀ b, H b → ¬ F b
  sf : ∀ b, F b → S b
  sh : ∀ b, H b → S b
  bt : Sbt s
  tb : Tb w
  at' : Ap S
  sl : ∀ b, S b → b < w.heap.size
theorem WX.by' {S F H : Nat → Prop} {w : World} {g : Nat} {s : Dk} {lg : Nat} {l : Lo} {rv : Value} {us : List Value} (h : WX S F H w g s lg l rv us) : Sby s := h.bt.by' h.pd
def WL (S : Nat → Prop) (w : World) (g : Nat) (s : Dk) (lg : Nat) (l : Lo) : Prop := ∃ F H rv us, WX S F H w g s lg l rv us
def AftL (S : Nat → Prop) (w w' : World) (g : Nat) (s : Dk) (lg : Nat) (l : Lo) : Prop := ∃ S', WL S' w' g s lg l ∧ Chg S w w' ∧ ∀ b, S' b → S b ∨ w.heap.size ≤ b
theorem AftL.refl {S : Nat → Prop} {w : World} {g : Nat} {s : Dk} {lg : Nat} {l : Lo} (h : WL S w g s lg l) : AftL S w w g s lg l := ⟨S, h, Chg.refl _ _, fun b hb => .inl hb⟩
theorem PD.lt {F : Nat → Prop} {w : World} {g : Nat} {s : Dk} (h : PD F w g s) {b : Nat} (hb : F b) : b < w.heap.size := by
  obtain ⟨gs, wv, fd, fz, hx⟩ := h
  exact hx.Flt b hb
theorem PD.n2 {F : Nat → Prop} {w : World} {g : Nat} {s : Dk} (h : PD F w g s) : s.n ≤ 65536 := by
  obtain ⟨gs, wv, fd, fz, hx⟩ := h
  exact hx.n2
theorem WX.below {S F H : Nat → Prop} {w w' : World} {g : Nat} {s : Dk} {lg : Nat} {l : Lo} {rv : Value} {us : List Value} (h : WX S F H w g s lg l rv us) (hb : Below w.heap.size w w') : WX S F H w' g s lg l rv us :=
  ⟨h.pd.below hb, h.lw.keep hb.size (fun b x => hb.block b (h.lw.hlt b x)), h.dk, h.ap, h.sf, h.sh, h.bt, h.tb.below hb, h.at', fun b x => Nat.lt_of_lt_of_le (h.sl b x) hb.size⟩
theorem WL.below {S : Nat → Prop} {w w' : World} {g : Nat} {s : Dk} {lg : Nat} {l : Lo} (h : WL S w g s lg l) (hb : Below w.heap.size w w') : WL S w' g s lg l := by
  obtain ⟨F, H, rv, us, h⟩ := h
  exact ⟨F, H, rv, us, h.below hb⟩
theorem chg_of_below {S : Nat → Prop} {w w' : World} (hb : Below w.heap.size w w') : Chg S w w' := ⟨hb.os, hb.tape, hb.output, hb.size, fun b h _ => hb.block b h⟩
theorem AftL.trans {S S1 : Nat → Prop} {w w1 w2 : World} {g : Nat} {s2 : Dk} {lg : Nat} {l2 : Lo} (c : Chg S w w1) (d : ∀ b, S1 b → S b ∨ w.heap.size ≤ b) (h2 : AftL S1 w1 w2 g s2 lg l2) : AftL S w w2 g s2 lg l2 := by
  obtain ⟨S2, h, c2, d2⟩ := h2
  refine ⟨S2, h, ⟨c2.os.trans c.os, c2.tape.trans c.tape, c2.output.trans c.output, Nat.le_trans c.size c2.size, fun b hb hn => ?_⟩, fun b hb => ?_⟩
  · rw [c2.other b (Nat.lt_of_lt_of_le hb c.size) (fun x => (d b x).elim hn (fun y => by omega)), c.other b hb hn]
  · rcases d2 b hb with x | x
    · exact d b x
    · exact .inr (Nat.le_trans c.size x)
/-- The frames from e on are these, and end at e'. -/
def Frs (s : Dk) (t : Nat) : Nat → List (List Int) → Nat → Prop
  | e, [], e' => e = e'
  | e, P :: Ps, e' => tk s e t = some P ∧ Frs s t (e + fl P.length) Ps e'
theorem Frs.snoc {s : Dk} {t : Nat} : ∀ {ns : List (List Int)} {e e' : Nat} {P : List Int}, Frs s t e ns e' → tk s e' t = some P → Frs s t e (ns ++ [P]) (e' + fl P.length)
  | [], e, e', P, h, hP => by cases h; exact ⟨hP, rfl⟩
  | Q :: ns, e, e', P, h, hP => ⟨h.1, Frs.snoc h.2 hP⟩
theorem tk_fits {s : Dk} (hS : Sby s) {e t : Nat} {P : List Int} (h : tk s e t = some P) : e < t ∧ e + fl P.length ≤ t ∧ Byt P := by
  unfold tk at h
  split at h
  · cases h
  · split at h
    · cases h
    · split at h
      · cases h
        have hl := tkp_length hS e
        refine ⟨by omega, ?_, tkp_byt hS e⟩
        unfold fl; rw [hl]; omega
      · cases h
theorem Frs.le {s : Dk} (hS : Sby s) {t : Nat} : ∀ {ns : List (List Int)} {e e' : Nat}, Frs s t e ns e' → e + ns.length ≤ e'
  | [], e, e', h => by cases h; simp
  | P :: ns, e, e', h => by
    have h1 := Frs.le hS h.2
    have h2 : 1 ≤ fl P.length := by unfold fl; omega
    simp only [List.length_cons]; omega
theorem Frs.one {s : Dk} {t : Nat} : ∀ {ns ms : List (List Int)} {e e1 e2 : Nat}, Frs s t e ns e1 → tk s e1 t = none → Frs s t e ms e2 → tk s e2 t = none → ns = ms ∧ e1 = e2
  | [], [], e, e1, e2, h1, n1, h2, n2 => by cases h1; cases h2; exact ⟨rfl, rfl⟩
  | [], P :: ms, e, e1, e2, h1, n1, h2, n2 => by cases h1; rw [h2.1] at n1; cases n1
  | P :: ns, [], e, e1, e2, h1, n1, h2, n2 => by cases h2; rw [h1.1] at n2; cases n2
  | P :: ns, Q :: ms, e, e1, e2, h1, n1, h2, n2 => by
    have e : P = Q := Option.some.inj (h1.1.symm.trans h2.1)
    subst e
    obtain ⟨h3, h4⟩ := Frs.one h1.2 n1 h2.2 n2
    exact ⟨by rw [h3], h4⟩
/-- append of one more slice: where the row lies. -/
theorem app_slw {ops : Array Oper} {rest : List Oper} {o : Oper} {a : Act} {Q : Exit → Act → World → Prop} {wr : World} (hgd : o.guard = none) (s x : Operand) (ho : o.op = .call { callee := .builtin .append, args := #[s, x], argTypes := #[49, 49] })
    (v : Value) (us : List Value) (xss : List (List Int)) (hs : a.eval s = v) (h0 : OL 0 wr v us xss) (u : Value) (M : List Int) (ad : Addr) (c : Nat) (hx : a.eval x = .slice (some ad) 1 c) (hc : wr.cell? ad = some u) (hu : Ow 0 wr u M)
    (hua : ∀ b, u.ownBlock = some b → b < wr.heap.size ∧ v.ownBlock ≠ some b) (hnew : ∀ b, u.ownBlock = some b → ∀ (i : Nat) (u' : Value), us[i]? = some u' → u'.ownBlock ≠ some b) (hk : (us.length + 1) * 24 ≤ 140737488355328)
    (h : ∀ v' w', OL 0 w' v' (us ++ [u]) (xss ++ [M]) → wr.grownBy w' v.ownBlock → (v'.ownBlock = v.ownBlock ∨ v'.ownBlock = some wr.heap.size) → wpList Tryd.prog ops Q rest (a.put o.dst v') w') : wpList Tryd.prog ops Q (o :: rest) a wr := by
  obtain ⟨i, hi, hz, hsz, hby⟩ := info_sl
  have hu1 : u.oneCell' = true := by obtain ⟨ad, cap, rfl, _⟩ := hu.sl; rfl
  refine wpList_append_own_at wr hgd s x 49 ho 0 71 i (.slice none 0 0) 1 24 Tryd.underlying49 hi hz hsz hby rfl (by decide) v us.length us hs h0.row ad 1 c [u] hx rfl ?_ ?_ (by unfold maxLen; omega) (by omega) (Nat.zero_le _) ?_
  · intro j w hj
    cases j with
    | zero => simp at hj; subst hj; rw [show ad.add 0 = ad by unfold Addr.add; split <;> simp_all]; exact hc
    | succ j => simp at hj
  · intro w hw
    simp at hw; subst hw; exact hu1
  · intro v' w' h1 h2 h3 h4
    have hgb : ∀ b, b < wr.heap.size → v.ownBlock ≠ some b → w'.heap[b]? = wr.heap[b]? := fun b hb hne => h2.block b hb (Ne.symm hne)
    have hap : ∀ b, b < wr.heap.size ∧ v.ownBlock ≠ some b → b < w'.heap.size ∧ v'.ownBlock ≠ some b := fun b ⟨hb, hne⟩ => ⟨Nat.lt_of_lt_of_le hb h2.size, by
      rcases h4 with e | e
      · rw [e]; exact hne
      · rw [e]; intro e'; cases e'; omega⟩
    refine h v' w' ⟨by simp [h0.len], by rw [List.length_append]; exact h1, fun j y hj => ?_, fun j y hj b hb => ?_, fun j k y z hjk hj hz b hb => ?_⟩ h2 h4
    · rcases Nat.lt_or_ge j us.length with hl | hl
      · rw [List.getElem?_append_left hl] at hj
        rw [mi_snoc_lo _ _ (by rw [← h0.len]; exact hl)]
        exact (h0.mem j y hj).keep (fun b hb => hgb b (h0.apart j y hj b hb).1 (h0.apart j y hj b hb).2)
      · rw [List.getElem?_append_right hl] at hj
        obtain ⟨hj0, hj1⟩ := List.getElem?_eq_some_iff.1 hj
        have ej : j = us.length := by simp at hj0; omega
        subst ej
        simp at hj1; subst hj1
        rw [h0.len, mi_snoc_hi]
        exact hu.keep (fun b hb => hgb b (hua b hb).1 (hua b hb).2)
    · rcases Nat.lt_or_ge j us.length with hl | hl
      · rw [List.getElem?_append_left hl] at hj
        exact hap b (h0.apart j y hj b hb)
      · rw [List.getElem?_append_right hl] at hj
        obtain ⟨hj0, hj1⟩ := List.getElem?_eq_some_iff.1 hj
        have ej : j - us.length = 0 := by simp at hj0; omega
        simp [ej] at hj1; subst hj1
        exact hap b (hua b hb)
    · have hlen := (List.getElem?_eq_some_iff.1 hz).1
      rw [List.length_append] at hlen
      simp at hlen
      rw [List.getElem?_append_left (by omega)] at hj
      rcases Nat.lt_or_ge k us.length with hl | hl
      · rw [List.getElem?_append_left hl] at hz
        exact h0.dist j k y z hjk hj hz b hb
      · rw [List.getElem?_append_right hl] at hz
        obtain ⟨hj0, hj1⟩ := List.getElem?_eq_some_iff.1 hz
        have ej : k - us.length = 0 := by simp at hj0; omega
        simp [ej] at hj1; subst hj1
        exact hnew b hb j y hj
end Go.Proofs.YtphjjjijdbljaaaDoor
