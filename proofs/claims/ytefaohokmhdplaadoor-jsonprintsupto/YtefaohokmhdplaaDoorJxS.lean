/- The reference for JSON: objects in memory, and what one part more does to them. -/
import Derived.Test.YtefaohokmhdplaaDoorJxH
import Derived.Test.YtefaohokmhdplaaDoorRgnG
import Derived.Test.YtefaohokmhdplaaDoorRgnD
namespace Go.Proofs.YtefaohokmhdplaaDoor
open Go Go.RowKit
set_option linter.unusedSimpArgs false
set_option linter.unusedVariables false
set_option maxRecDepth 100000

section
variable {w : World} {g : Nat} {s : ByteArray} {i d : Nat} {l : Bool}
set_option maxHeartbeats 4000000 in
theorem rtext_no (h : RB w g s i d l) (hi : i ≤ s.size) (h34 : gb s i ≠ 34) (hs : s.size ≤ 8192) :
    Calls Tryd.prog 49 #[.pointer (some ⟨g, 0, none⟩)] w fun e w' => e = .returned (.tuple #[.string ⟨#[]⟩, .bool false]) ∧ RB w' g s i d l ∧ Cg g w w' := by
  have H : Hid (RB w g s i d l) := h
  have HS : Hid (s.size ≤ 8192) := hs
  obtain ⟨q0, q1, q2, q3⟩ := h.cells
  have HI : Hid (i ≤ s.size) := hi
  clear h hs
  go_enter Tryd.func49, Tryd.ntmps49
  go_wp2
  go_quiet ((go_at_call 46; exact Calls.quiet_of (rhere_at H.out (by rfl) HI.out HS.out)))
  go_wp2
  go_ret2
  exact ⟨rfl, H.out.drew _, (Chg.refl _ _).drew _⟩
end
theorem info_str : ∃ i, Tryd.prog.info? 9 = some i ∧ i.zero = some (.string ⟨#[]⟩) ∧ i.size = 1 ∧ i.bytes = 16 := by
  have h1 : (Tryd.prog.info? 9).map (·.size) = some 1 := by kernel_rfl
  have h2 : (Tryd.prog.info? 9).map (·.bytes) = some 16 := by kernel_rfl
  have h3 : (Tryd.prog.info? 9).map (·.zero) = some (some (.string ⟨#[]⟩)) := by kernel_rfl
  cases hq : Tryd.prog.info? 9 with
  | none => rw [hq] at h1; cases h1
  | some i =>
    rw [hq] at h1 h2 h3
    exact ⟨i, rfl, Option.some.inj h3, Option.some.inj h1, Option.some.inj h2⟩
/-- append of one text. -/
theorem app_txt1 {ops : Array Oper} {rest : List Oper} {o : Oper} {a : Act} {Q : Exit → Act → World → Prop} {B0 : Nat} {wr : World} (hgd : o.guard = none) (s x : Operand) (ho : o.op = .call { callee := .builtin .append, args := #[s, x], argTypes := #[23, 23] })
    (v : Value) (n : Nat) (cs : List Value) (hs : a.eval s = v) (h0 : wr.ownsRow B0 9 1 v n cs) (b : Nat) (y : ByteArray) (hx : a.eval x = .slice (some ⟨b, 0, none⟩) 1 1) (hy : wr.cell? ⟨b, 0, none⟩ = some (.string y)) (hn : n ≤ 1000000000) (hB : B0 ≤ wr.heap.size)
    (h : ∀ v' w', w'.ownsRow B0 9 1 v' (n + 1) (cs ++ [.string y]) → wr.grownBy w' v.ownBlock → (v'.ownBlock = v.ownBlock ∨ v'.ownBlock = some wr.heap.size) → wpList Tryd.prog ops Q rest (a.put o.dst v') w') : wpList Tryd.prog ops Q (o :: rest) a wr := by
  obtain ⟨i, hi, hz, hsz, hby⟩ := info_str
  refine wpList_append_own_at wr hgd s x 23 ho B0 9 i (.string ⟨#[]⟩) 1 16 Tryd.underlying23 hi hz hsz hby rfl (by decide) v n cs hs h0 ⟨b, 0, none⟩ 1 1 [.string y] hx rfl ?_ (fun u hu => by simp at hu; subst hu; rfl) (by unfold maxLen; omega) (by omega) hB (fun v' w' h1 h2 _ h4 => h v' w' h1 h2 h4)
  intro j u hj
  match j, hj with
  | 0, hj => simp at hj; subst hj; rw [addr_add0]; exact hy
theorem run_onestr (w : World) (y : ByteArray) : (Instr.buildSlice 23 1 #[(0, .string y)]).run Tryd.prog w = .ok (.slice (some ⟨w.heap.size, 0, none⟩) 1 1) (w.alloc (.cells #[.string y] 9)) := by
  obtain ⟨i, hi, hz, hs, hb⟩ := info_str
  refine run_buildSlice w 23 9 1 _ #[.string y] i _ Tryd.underlying23 hi hz (by omega) (by omega) ?_
  have := _root_.Go.Great.fill_whole (s := i.size) (by omega) [.string y] ((Array.range (1 * i.size)).map ((Value.string ⟨#[]⟩).cells[· % (Value.string ⟨#[]⟩).cells.size]!)) (by intro x hx; simp at hx; subst hx; simp [Value.cells, hs]) (by simp)
  simpa [Value.cells] using this
/-- Rows of different element types lie apart. -/
theorem own_apart {B B' : Nat} {w : World} {e e' : TypeId} {k k' n n' : Nat} {v v' : Value} {cs cs' : List Value} (h : w.ownsRow B e k v n cs) (h' : w.ownsRow B' e' k' v' n' cs') (hne : e ≠ e') : ∀ b, v.ownBlock = some b → v'.ownBlock ≠ some b := by
  intro b hb
  rcases h.2 with ⟨rfl, _⟩ | ⟨q, cap, cur, rfl, hg, hc', _⟩
  · simp [Value.ownBlock] at hb
  · simp [Value.ownBlock] at hb; subst hb; exact own_ne h' hc' hne
theorem TC.set3 {W : World} {b : Nat} {x : Tv} (h : TC W b x) (p : Sv) : TC (W.setCell ⟨b, 3, none⟩ p.v) b { x with ks := p } := heap_setCell_same h _
/-- An object's memory. -/
def RIO (M : Nat) (W : World) (a : List (ByteArray × JV)) : Prop := TC W M TN ∧ ∃ (kv sv : Sv) (xs : List Tv), TC W (M + 1) ⟨5, false, ⟨#[]⟩, kv, sv⟩ ∧ W.ownsRow (M + 2) 9 1 kv.v a.length (keyc (a.map Prod.fst)) ∧ W.ownsRow (M + 2) 26 5 sv.v a.length (tcs xs) ∧ TS (fun b => M + 2 ≤ b ∧ kv.v.ownBlock ≠ some b ∧ sv.v.ownBlock ≠ some b) W xs (a.map Prod.snd)
theorem RIO.stay {g M : Nat} {W W' : World} {a : List (ByteArray × JV)} (h : RIO M W a) (hg : g < M) (hc : Cg g W W') : RIO M W' a := by
  obtain ⟨h1, kv, sv, xs, h2, h0, h3, h4⟩ := h
  refine ⟨h1.keep (hc.other M h1.lt (by omega)), kv, sv, xs, h2.keep (hc.other (M + 1) h2.lt (by omega)), own_keep h0 (fun b e => hc.other b (own_lt h0 b e).2 (by have := (own_lt h0 b e).1; omega)), own_keep h3 (fun b e => hc.other b (own_lt h3 b e).2 (by have := (own_lt h3 b e).1; omega)), h4.keep (fun b hb hlt => ⟨hb, hc.other b hlt (by have := hb.1; omega)⟩) hc.size⟩
/-- The region's known values. -/
def ov (M : Nat) (kv sv : Sv) (key : ByteArray) (x : Tv) : Nat → Value
  | 0 => .pointer (some ⟨M + 1, 3, none⟩)
  | 1 => kv.v
  | 2 => .string key
  | 5 => .pointer (some ⟨M + 1, 4, none⟩)
  | 6 => sv.v
  | 7 => x.val
  | 10 => .pointer (some ⟨M + 1, 3, none⟩)
  | 12 => .pointer (some ⟨M + 1, 4, none⟩)
  | _ => undef
/-- A key and a part appended, in whatever order, then stored. -/
structure oI (W0 : World) (M n : Nat) (kv sv : Sv) (kc pc : List Value) (key : ByteArray) (x : Tv) (d : Nat → Bool) (V : Nat → Value) (w : World) (p4 p9 : Sv) : Prop where
  ch : Chg (fun b => b = M + 1 ∨ kv.v.ownBlock = some b ∨ sv.v.ownBlock = some b) W0 w
  vals : ∀ i, i ≠ 3 → i ≠ 4 → i ≠ 8 → i ≠ 9 → i ≠ 11 → i ≠ 13 → d i = true → V i = ov M kv sv key x i
  tc : TC w (M + 1) ⟨5, false, ⟨#[]⟩, if d 11 = true then p4 else kv, if d 13 = true then p9 else sv⟩
  rk : w.ownsRow (M + 2) 9 1 (if d 4 = true then p4 else kv).v (if d 4 = true then n + 1 else n) (if d 4 = true then kc ++ [.string key] else kc)
  rp : w.ownsRow (M + 2) 26 5 (if d 9 = true then p9 else sv).v (if d 9 = true then n + 1 else n) (if d 9 = true then pc ++ tcv x else pc)
  v4 : d 4 = true → V 4 = p4.v
  v9 : d 9 = true → V 9 = p9.v
  b3 : d 3 = true → d 4 = false → ∃ b, V 3 = .slice (some ⟨b, 0, none⟩) 1 1 ∧ w.heap[b]? = some (.cells #[.string key] 9 (0, 0))
  b8 : d 8 = true → d 9 = false → ∃ b, V 8 = .slice (some ⟨b, 0, none⟩) 1 1 ∧ W0.heap.size ≤ b ∧ w.heap[b]? = some (.cells (tcv x).toArray 26 (0, 0))
  n4 : d 4 = true → p4.v.ownBlock = kv.v.ownBlock ∨ ∃ N, p4.v.ownBlock = some N ∧ W0.heap.size ≤ N
  n9 : d 9 = true → p9.v.ownBlock = sv.v.ownBlock ∨ ∃ N, p9.v.ownBlock = some N ∧ W0.heap.size ≤ N
def OI (W0 : World) (M n : Nat) (kv sv : Sv) (kc pc : List Value) (key : ByteArray) (x : Tv) (d : Nat → Bool) (V : Nat → Value) (w : World) : Prop := ∃ p4 p9, oI W0 M n kv sv kc pc key x d V w p4 p9
theorem setd_ne {d : Nat → Bool} {i j : Nat} (h : j ≠ i) : RG.setd d i j = d j := by unfold RG.setd; rw [if_neg h]
theorem setd_eq {d : Nat → Bool} {i : Nat} : RG.setd d i i = true := by unfold RG.setd; rw [if_pos rfl]
theorem updV_ne {V : Nat → Value} {i j : Nat} {v : Value} (h : j ≠ i) : RG.updV V i v j = V j := by unfold RG.updV; rw [if_neg h]
theorem updV_eq {V : Nat → Value} {i : Nat} {v : Value} : RG.updV V i v i = v := by unfold RG.updV; rw [if_pos rfl]
section
variable {W0 : World} {M n : Nat} {kv sv : Sv} {kc pc : List Value} {key : ByteArray} {x : Tv} {d : Nat → Bool} {V : Nat → Value} {w : World} {p4 p9 : Sv}
theorem OI.start (h1 : TC W0 (M + 1) ⟨5, false, ⟨#[]⟩, kv, sv⟩) (h2 : W0.ownsRow (M + 2) 9 1 kv.v n kc) (h3 : W0.ownsRow (M + 2) 26 5 sv.v n pc) {w : World} (hw : w = { W0 with drawn := W0.drawn + 1 }) : OI W0 M n kv sv kc pc key x (fun _ => false) (fun _ => undef) w := by
  subst hw
  exact ⟨SN, SN, ⟨⟨rfl, rfl, rfl, Nat.le_refl _, fun _ _ _ => rfl⟩, (fun _ _ _ _ _ _ _ h => by cases h), h1, h2, h3, (fun h => by cases h), (fun h => by cases h), (fun h => by cases h), (fun h => by cases h), (fun h => by cases h), (fun h => by cases h)⟩⟩
theorem oI.valsX (h : oI W0 M n kv sv kc pc key x d V w p4 p9) {i : Nat} {v : Value} (hv : (i ≠ 3 ∧ i ≠ 4 ∧ i ≠ 8 ∧ i ≠ 9 ∧ i ≠ 11 ∧ i ≠ 13) → v = ov M kv sv key x i) : ∀ j, j ≠ 3 → j ≠ 4 → j ≠ 8 → j ≠ 9 → j ≠ 11 → j ≠ 13 → RG.setd d i j = true → RG.updV V i v j = ov M kv sv key x j := by
  intro j j3 j4 j8 j9 j11 j13 hj
  by_cases e : j = i
  · subst e; rw [updV_eq]; exact hv ⟨j3, j4, j8, j9, j11, j13⟩
  · rw [updV_ne e]; rw [setd_ne e] at hj; exact h.vals j j3 j4 j8 j9 j11 j13 hj
theorem oI.pure (h : oI W0 M n kv sv kc pc key x d V w p4 p9) (i : Nat) (h3 : 3 ≠ i) (h4 : 4 ≠ i) (h8 : 8 ≠ i) (h9 : 9 ≠ i) (h11 : 11 ≠ i) (h13 : 13 ≠ i) : OI W0 M n kv sv kc pc key x (RG.setd d i) (RG.updV V i (ov M kv sv key x i)) w := by
  refine ⟨p4, p9, ⟨h.ch, h.valsX (fun _ => rfl), ?_, ?_, ?_, ?_, ?_, ?_, ?_, ?_, ?_⟩⟩
  · rw [setd_ne h11, setd_ne h13]; exact h.tc
  · rw [setd_ne h4]; exact h.rk
  · rw [setd_ne h9]; exact h.rp
  · rw [setd_ne h4, updV_ne h4]; exact h.v4
  · rw [setd_ne h9, updV_ne h9]; exact h.v9
  · rw [setd_ne h3, setd_ne h4, updV_ne h3]; exact h.b3
  · rw [setd_ne h8, setd_ne h9, updV_ne h8]; exact h.b8
  · rw [setd_ne h4]; exact h.n4
  · rw [setd_ne h9]; exact h.n9
theorem heap_lt {w : World} {b : Nat} {c : _} (h : w.heap[b]? = some c) : b < w.heap.size := (Array.getElem?_eq_some_iff.1 h).1
theorem oI.al3 (h : oI W0 M n kv sv kc pc key x d V w p4 p9) : OI W0 M n kv sv kc pc key x (RG.setd d 3) (RG.updV V 3 (.slice (some ⟨w.heap.size, 0, none⟩) 1 1)) (w.alloc (.cells #[.string key] 9)) := by
  refine ⟨p4, p9, ⟨h.ch.alloc _, h.valsX (fun q => absurd rfl q.1), ?_, ?_, ?_, ?_, ?_, ?_, ?_, ?_, ?_⟩⟩
  · rw [setd_ne (by decide), setd_ne (by decide)]; exact h.tc.keep (heap_alloc_old _ _ h.tc.lt)
  · rw [setd_ne (by decide)]; exact World.ownsRow.alloc h.rk _
  · rw [setd_ne (by decide)]; exact World.ownsRow.alloc h.rp _
  · rw [setd_ne (by decide), updV_ne (by decide)]; exact h.v4
  · rw [setd_ne (by decide), updV_ne (by decide)]; exact h.v9
  · intro _ _; rw [updV_eq]; exact ⟨_, rfl, heap_alloc_new _ _⟩
  · rw [setd_ne (by decide), setd_ne (by decide), updV_ne (by decide)]
    intro q r; obtain ⟨b, e, hb, hh⟩ := h.b8 q r
    exact ⟨b, e, hb, (heap_alloc_old _ _ (heap_lt hh)).trans hh⟩
  · rw [setd_ne (by decide)]; exact h.n4
  · rw [setd_ne (by decide)]; exact h.n9
theorem oI.al8 (h : oI W0 M n kv sv kc pc key x d V w p4 p9) : OI W0 M n kv sv kc pc key x (RG.setd d 8) (RG.updV V 8 (.slice (some ⟨w.heap.size, 0, none⟩) 1 1)) (w.alloc (.cells (tcv x).toArray 26)) := by
  refine ⟨p4, p9, ⟨h.ch.alloc _, h.valsX (fun q => absurd rfl q.2.2.1), ?_, ?_, ?_, ?_, ?_, ?_, ?_, ?_, ?_⟩⟩
  · rw [setd_ne (by decide), setd_ne (by decide)]; exact h.tc.keep (heap_alloc_old _ _ h.tc.lt)
  · rw [setd_ne (by decide)]; exact World.ownsRow.alloc h.rk _
  · rw [setd_ne (by decide)]; exact World.ownsRow.alloc h.rp _
  · rw [setd_ne (by decide), updV_ne (by decide)]; exact h.v4
  · rw [setd_ne (by decide), updV_ne (by decide)]; exact h.v9
  · rw [setd_ne (by decide), setd_ne (by decide), updV_ne (by decide)]
    intro q r; obtain ⟨b, e, hh⟩ := h.b3 q r
    exact ⟨b, e, (heap_alloc_old _ _ (heap_lt hh)).trans hh⟩
  · intro _ _; rw [updV_eq]; exact ⟨_, rfl, h.ch.size, heap_alloc_new _ _⟩
  · rw [setd_ne (by decide)]; exact h.n4
  · rw [setd_ne (by decide)]; exact h.n9
theorem grow_ch {F : Nat → Prop} {A B C : World} {o : Option Nat} (h : Chg F A B) (hg : B.grownBy C o) (ho : ∀ b, o = some b → F b) : Chg F A C :=
  h.trans ⟨hg.os, hg.tape, hg.output, hg.size, fun b hb hf => hg.block b hb (fun e => hf (ho b e.symm))⟩
theorem oI.ap4 (h : oI W0 M n kv sv kc pc key x d V w p4 p9) (d4 : d 4 = false) (d9 : d 9 = false) (d11 : d 11 = false) (d13 : d 13 = false) {w' : World} {p : Sv} (o1 : w'.ownsRow (M + 2) 9 1 p.v (n + 1) (kc ++ [.string key])) (o2 : w.grownBy w' kv.v.ownBlock) (o3 : p.v.ownBlock = kv.v.ownBlock ∨ p.v.ownBlock = some w.heap.size) : OI W0 M n kv sv kc pc key x (RG.setd d 4) (RG.updV V 4 p.v) w' := by
  have rk := h.rk; have rp := h.rp; have tc := h.tc
  simp only [d4, Bool.false_eq_true, if_false, if_true] at rk; simp only [d9, Bool.false_eq_true, if_false, if_true] at rp; simp only [d11, d13, Bool.false_eq_true, if_false, if_true] at tc
  refine ⟨p, p9, ⟨grow_ch h.ch o2 (fun b e => .inr (.inl e)), h.valsX (fun q => absurd rfl q.2.1), ?_, ?_, ?_, ?_, ?_, ?_, ?_, ?_, ?_⟩⟩
  · rw [setd_ne (by decide), setd_ne (by decide), d11, d13]
    exact tc.keep (o2.block (M + 1) tc.lt (fun e => by have := (own_lt rk _ e.symm).1; omega))
  · rw [setd_eq]; exact o1
  · rw [setd_ne (by decide), d9]
    exact own_keep rp (fun b e => o2.block b (own_lt rp b e).2 (fun q => own_apart rp rk (by decide) b e q.symm))
  · intro _; rw [updV_eq]
  · rw [setd_ne (by decide), d9]; intro q; cases q
  · rw [setd_eq]; intro _ q; cases q
  · rw [setd_ne (by decide), setd_ne (by decide), updV_ne (by decide)]
    intro q r; obtain ⟨b, e, hb, hh⟩ := h.b8 q r
    exact ⟨b, e, hb, (o2.block b (heap_lt hh) (fun q => own_ne rk hh (by decide) q.symm)).trans hh⟩
  · intro _; exact o3.imp id (fun e => ⟨_, e, h.ch.size⟩)
  · rw [setd_ne (by decide), d9]; intro q; cases q
theorem oI.ap9 (h : oI W0 M n kv sv kc pc key x d V w p4 p9) (d4 : d 4 = true) (d9 : d 9 = false) (d11 : d 11 = false) (d13 : d 13 = false) {w' : World} {p : Sv} (o1 : w'.ownsRow (M + 2) 26 5 p.v (n + 1) (pc ++ tcv x)) (o2 : w.grownBy w' sv.v.ownBlock) (o3 : p.v.ownBlock = sv.v.ownBlock ∨ p.v.ownBlock = some w.heap.size) : OI W0 M n kv sv kc pc key x (RG.setd d 9) (RG.updV V 9 p.v) w' := by
  have rk := h.rk; have rp := h.rp; have tc := h.tc
  simp only [d4, Bool.false_eq_true, if_false, if_true] at rk; simp only [d9, Bool.false_eq_true, if_false, if_true] at rp; simp only [d11, d13, Bool.false_eq_true, if_false, if_true] at tc
  refine ⟨p4, p, ⟨grow_ch h.ch o2 (fun b e => .inr (.inr e)), h.valsX (fun q => absurd rfl q.2.2.2.1), ?_, ?_, ?_, ?_, ?_, ?_, ?_, ?_, ?_⟩⟩
  · rw [setd_ne (by decide), setd_ne (by decide), d11, d13]
    exact tc.keep (o2.block (M + 1) tc.lt (fun e => by have := (own_lt rp _ e.symm).1; omega))
  · rw [setd_ne (by decide), d4]
    exact own_keep rk (fun b e => o2.block b (own_lt rk b e).2 (fun q => own_apart rk rp (by decide) b e q.symm))
  · rw [setd_eq]; exact o1
  · rw [updV_ne (by decide)]; intro _; exact h.v4 d4
  · intro _; rw [updV_eq]
  · rw [setd_ne (by decide), setd_ne (by decide), d4]; intro _ q; cases q
  · rw [setd_eq]; intro _ q; cases q
  · intro _; exact h.n4 d4
  · intro _; exact o3.imp id (fun e => ⟨_, e, h.ch.size⟩)
theorem oI.st11 (h : oI W0 M n kv sv kc pc key x d V w p4 p9) (d4 : d 4 = true) (d9 : d 9 = true) (d11 : d 11 = false) (d13 : d 13 = false) (u : Value) : OI W0 M n kv sv kc pc key x (RG.setd d 11) (RG.updV V 11 u) (w.setCell ⟨M + 1, 3, none⟩ p4.v) := by
  have rk := h.rk; have rp := h.rp; have tc := h.tc
  simp only [d4, Bool.false_eq_true, if_false, if_true] at rk; simp only [d9, Bool.false_eq_true, if_false, if_true] at rp; simp only [d11, d13, Bool.false_eq_true, if_false, if_true] at tc
  refine ⟨p4, p9, ⟨Chg.setCell h.ch (.inl rfl), h.valsX (fun q => absurd rfl q.2.2.2.2.1), ?_, ?_, ?_, ?_, ?_, ?_, ?_, ?_, ?_⟩⟩
  · rw [setd_eq, setd_ne (by decide), d13]; exact tc.set3 p4
  · rw [setd_ne (by decide), d4]; exact own_keep rk (fun b e => Below.heap_setCell _ _ _ _ (by show b ≠ M + 1; have := (own_lt rk b e).1; omega))
  · rw [setd_ne (by decide), d9]; exact own_keep rp (fun b e => Below.heap_setCell _ _ _ _ (by show b ≠ M + 1; have := (own_lt rp b e).1; omega))
  · rw [updV_ne (by decide)]; intro _; exact h.v4 d4
  · rw [updV_ne (by decide)]; intro _; exact h.v9 d9
  · rw [setd_ne (by decide), setd_ne (by decide), d4]; intro _ q; cases q
  · rw [setd_ne (by decide), setd_ne (by decide), d9]; intro _ q; cases q
  · intro _; exact h.n4 d4
  · intro _; exact h.n9 d9
theorem oI.st13 (h : oI W0 M n kv sv kc pc key x d V w p4 p9) (d4 : d 4 = true) (d9 : d 9 = true) (d11 : d 11 = true) (d13 : d 13 = false) (u : Value) : OI W0 M n kv sv kc pc key x (RG.setd d 13) (RG.updV V 13 u) (w.setCell ⟨M + 1, 4, none⟩ p9.v) := by
  have rk := h.rk; have rp := h.rp; have tc := h.tc
  simp only [d4, Bool.false_eq_true, if_false, if_true] at rk; simp only [d9, Bool.false_eq_true, if_false, if_true] at rp; simp only [d11, d13, Bool.false_eq_true, if_false, if_true] at tc
  refine ⟨p4, p9, ⟨Chg.setCell h.ch (.inl rfl), h.valsX (fun q => absurd rfl q.2.2.2.2.2), ?_, ?_, ?_, ?_, ?_, ?_, ?_, ?_, ?_⟩⟩
  · rw [setd_eq, setd_ne (by decide), d11]; exact tc.set4 p9
  · rw [setd_ne (by decide), d4]; exact own_keep rk (fun b e => Below.heap_setCell _ _ _ _ (by show b ≠ M + 1; have := (own_lt rk b e).1; omega))
  · rw [setd_ne (by decide), d9]; exact own_keep rp (fun b e => Below.heap_setCell _ _ _ _ (by show b ≠ M + 1; have := (own_lt rp b e).1; omega))
  · rw [updV_ne (by decide)]; intro _; exact h.v4 d4
  · rw [updV_ne (by decide)]; intro _; exact h.v9 d9
  · rw [setd_ne (by decide), setd_ne (by decide), d4]; intro _ q; cases q
  · rw [setd_ne (by decide), setd_ne (by decide), d9]; intro _ q; cases q
  · intro _; exact h.n4 d4
  · intro _; exact h.n9 d9
theorem obj_push {wr W3 : World} {g q D : Nat} {s : ByteArray} {xs : List Tv} {a : List (ByteArray × JV)} {jv : JV} {A : Array Value} {T : TypeId} (hg : g < M) (hTM : TC wr M TN) (hTT : TC wr (M + 1) ⟨5, false, ⟨#[]⟩, kv, sv⟩) (hRK : wr.ownsRow (M + 2) 9 1 kv.v a.length (keyc (a.map Prod.fst))) (hRW : wr.ownsRow (M + 2) 26 5 sv.v a.length (tcs xs)) (hTS : TS (fun b => M + 2 ≤ b ∧ kv.v.ownBlock ≠ some b ∧ sv.v.ownBlock ≠ some b) wr xs (a.map Prod.snd)) (hc : Cg g wr W3)
    (htj : TJ (fun b => wr.heap.size ≤ b) W3 x jv) (hp : RB W3 g s q D false) (h0 : W3.alloc (.cells A T) = W0) (h : oI W0 M a.length kv sv (keyc (a.map Prod.fst)) (tcs xs) key x d V w p4 p9) (d4 : d 4 = true) (d9 : d 9 = true) (d11 : d 11 = true) (d13 : d 13 = true) :
    RIO M w (a ++ [(key, jv)]) ∧ RB w g s q D false ∧ CgB g M wr w := by
  have rk := h.rk; have rp := h.rp; have tc := h.tc; have ch := h.ch
  simp only [d4, Bool.false_eq_true, if_false, if_true] at rk; simp only [d9, Bool.false_eq_true, if_false, if_true] at rp; simp only [d11, d13, Bool.false_eq_true, if_false, if_true] at tc
  have hsz : W3.heap.size + 1 = W0.heap.size := by rw [← h0]; simp
  have hs3 := hc.size
  have hs6 := ch.size
  have kb : ∀ b, kv.v.ownBlock = some b → M + 2 ≤ b ∧ b < wr.heap.size := fun b e => own_lt hRK b e
  have pb : ∀ b, sv.v.ownBlock = some b → M + 2 ≤ b ∧ b < wr.heap.size := fun b e => own_lt hRW b e
  have old : ∀ b, b < W3.heap.size → b ≠ M + 1 → kv.v.ownBlock ≠ some b → sv.v.ownBlock ≠ some b → w.heap[b]? = W3.heap[b]? := fun b hb h1 h2 h3 => by
    rw [ch.other b (by omega) (fun q => q.elim h1 (fun q => q.elim h2 h3)), ← h0, heap_alloc_old _ _ hb]
  have nk : ∀ b, b < W3.heap.size → kv.v.ownBlock ≠ some b → p4.v.ownBlock ≠ some b := fun b hb h2 e => by
    rcases h.n4 d4 with x | ⟨N, x, hN⟩
    · exact h2 (x ▸ e)
    · rw [x] at e; cases e; omega
  have np : ∀ b, b < W3.heap.size → sv.v.ownBlock ≠ some b → p9.v.ownBlock ≠ some b := fun b hb h2 e => by
    rcases h.n9 d9 with x | ⟨N, x, hN⟩
    · exact h2 (x ▸ e)
    · rw [x] at e; cases e; omega
  have lT := hTT.lt
  have lM := hTM.lt
  refine ⟨⟨?_, p4, p9, xs ++ [x], tc, ?_, ?_, ?_⟩, ?_, ?_⟩
  · exact hTM.keep ((old M (by omega) (by omega) (fun e => by have := (kb _ e).1; omega) (fun e => by have := (pb _ e).1; omega)).trans (hc.other M lM (by omega)))
  · rw [List.length_append, show keyc ((a ++ [(key, jv)]).map Prod.fst) = keyc (a.map Prod.fst) ++ [.string key] by simp [keyc]]
    exact rk
  · rw [List.length_append, tcs_push]; exact rp
  · rw [show (a ++ [(key, jv)]).map Prod.snd = a.map Prod.snd ++ [jv] by simp]
    refine TS.push ?_ ?_
    · refine (hTS.keep (A' := fun b => M + 2 ≤ b ∧ kv.v.ownBlock ≠ some b ∧ sv.v.ownBlock ≠ some b) (fun b hb hlt => ⟨hb, hc.other b hlt (by have := hb.1; omega)⟩) hs3).keep (fun b hb hlt => ⟨⟨hb.1, nk b hlt hb.2.1, np b hlt hb.2.2⟩, old b hlt (by have := hb.1; omega) hb.2.1 hb.2.2⟩) (by omega)
    · refine htj.keep (fun b hb hlt => ?_) (by omega)
      have hb' : wr.heap.size ≤ b := hb
      have h1 : kv.v.ownBlock ≠ some b := fun e => by have := (kb b e).2; omega
      have h2 : sv.v.ownBlock ≠ some b := fun e => by have := (pb b e).2; omega
      exact ⟨⟨by omega, nk b hlt h1, np b hlt h2⟩, old b hlt (by omega) h1 h2⟩
  · exact hp.keep (old g hp.lt (by omega) (fun e => by have := (kb _ e).1; omega) (fun e => by have := (pb _ e).1; omega))
  · refine ⟨?_, ?_, ?_, by omega, ?_⟩
    · rw [ch.os, ← h0]; exact hc.os
    · rw [ch.tape, ← h0]; exact hc.tape
    · rw [ch.output, ← h0]; exact hc.output
    · intro b hb hf
      have h1 : b ≠ g := fun e => hf (.inl e)
      have h2 : ¬ M ≤ b := fun e => hf (.inr e)
      exact (old b (by omega) (by omega) (fun e => by have := (kb _ e).1; omega) (fun e => by have := (pb _ e).1; omega)).trans (hc.other b hb h1)
end
end Go.Proofs.YtefaohokmhdplaaDoor
