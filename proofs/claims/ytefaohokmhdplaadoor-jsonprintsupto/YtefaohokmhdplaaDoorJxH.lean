/- The reference for JSON: lists. -/
import Derived.Test.YtefaohokmhdplaaDoorJxG
import Derived.Deep.MidRow
namespace Go.Proofs.YtefaohokmhdplaaDoor
open Go Go.RowKit
set_option linter.unusedSimpArgs false
set_option linter.unusedVariables false
set_option maxRecDepth 100000

/-- A variable that holds a tree. -/
def TC (W : World) (b : Nat) (x : Tv) : Prop := W.heap[b]? = some (.cells (tcv x).toArray 26 (0, 0))
theorem TC.cells {W : World} {b : Nat} {x : Tv} (h : TC W b x) : W.cell? ⟨b, 0, none⟩ = some (.int .i64 x.k) ∧ W.cell? ⟨b, 1, none⟩ = some (.bool x.b) ∧ W.cell? ⟨b, 2, none⟩ = some (.string x.t) ∧ W.cell? ⟨b, 3, none⟩ = some (.slice x.ks.ad x.ks.n x.ks.c) ∧ W.cell? ⟨b, 4, none⟩ = some (.slice x.ps.ad x.ps.n x.ps.c) ∧ ∀ j, W.frozen? ⟨b, j, none⟩ = false := by
  have e : W.heap[b]? = _ := h
  refine ⟨?_, ?_, ?_, ?_, ?_, fun j => ?_⟩
  · simp only [World.cell?, e]; simp [tcv]
  · simp only [World.cell?, e]; simp [tcv]
  · simp only [World.cell?, e]; simp [tcv]
  · simp only [World.cell?, e]; simp [tcv, Sv.v]
  · simp only [World.cell?, e]; simp [tcv, Sv.v]
  · simp [World.frozen?, e]
theorem TC.range {W : World} {b : Nat} {x : Tv} (h : TC W b x) : W.rangeAt b 0 (tcv x) := fun j v hv => by
  rw [Nat.zero_add, cell_of_row W b j _ _ _ h]
  simpa using hv
theorem TC.keep {W W' : World} {b : Nat} {x : Tv} (h : TC W b x) (k : W'.heap[b]? = W.heap[b]?) : TC W' b x := k.trans h
theorem TC.lt {W : World} {b : Nat} {x : Tv} (h : TC W b x) : b < W.heap.size := (Array.getElem?_eq_some_iff.1 h).1
theorem TC.set4 {W : World} {b : Nat} {x : Tv} (h : TC W b x) (p : Sv) : TC (W.setCell ⟨b, 4, none⟩ (.slice p.ad p.n p.c)) b { x with ps := p } := heap_setCell_same h _
/-- A tree stored into a variable. -/
def set5 (W : World) (M : Nat) (x : Tv) : World := ((((W.setCell ⟨M, 0, none⟩ (.int .i64 x.k)).setCell ⟨M, 1, none⟩ (.bool x.b)).setCell ⟨M, 2, none⟩ (.string x.t)).setCell ⟨M, 3, none⟩ (.slice x.ks.ad x.ks.n x.ks.c)).setCell ⟨M, 4, none⟩ (.slice x.ps.ad x.ps.n x.ps.c)
theorem set5_at {W : World} {M : Nat} {y : Tv} (h : TC W M y) (x : Tv) : TC (set5 W M x) M x :=
  heap_setCell_same (heap_setCell_same (heap_setCell_same (heap_setCell_same (heap_setCell_same h _) _) _) _) _
theorem set5_other (W : World) (M : Nat) (x : Tv) {b : Nat} (h : b ≠ M) : (set5 W M x).heap[b]? = W.heap[b]? := by
  unfold set5
  rw [Below.heap_setCell _ _ _ _ (by exact h), Below.heap_setCell _ _ _ _ (by exact h), Below.heap_setCell _ _ _ _ (by exact h), Below.heap_setCell _ _ _ _ (by exact h), Below.heap_setCell _ _ _ _ (by exact h)]
theorem set5_size (W : World) (M : Nat) (x : Tv) : (set5 W M x).heap.size = W.heap.size := by simp [set5, World.setCell]
theorem set5_chg (W : World) (M : Nat) (x : Tv) : Chg (fun b => b = M) W (set5 W M x) := by
  unfold set5
  exact Chg.setCell (F := fun b => b = M) (Chg.setCell (F := fun b => b = M) (Chg.setCell (F := fun b => b = M) (Chg.setCell (F := fun b => b = M) (Chg.setCell (F := fun b => b = M) (Chg.refl _ _) rfl) rfl) rfl) rfl) rfl
theorem tree_res {fn : Func} (h : fn.results = #[.cell 2 26, .tmp 3]) {Q : Ending → World → Prop} {tmps : Array Value} {W : World} {M : Nat} {x : Tv} {b : Bool} (hW : TC W M x) (hp : tmps.getD 2 undef = .pointer (some ⟨M, 0, none⟩)) (hq : tmps.getD 3 undef = .bool b) (hQ : Q (.returned (.tuple #[x.val, .bool b])) W) :
    bodyPost Tryd.prog fn Q Exit.ret { tmps := tmps, defers := [] } W := by
  refine bodyPost_ret (v := .tuple #[x.val, .bool b]) ?_ rfl hQ
  exact results_mid_tmp h _ _ M 0 (tcv x) _ _ hp hq hW.range Tryd.underlying26 rfl (by kernel_rfl)
/-- What a value's reading answers. -/
def RVP (g : Nat) (s : ByteArray) (d : Nat) (w : World) : Out JV → Ending → World → Prop
  | .ok jv j, e, w' => ∃ x : Tv, e = .returned (.tuple #[x.val, .bool true]) ∧ RB w' g s j d false ∧ Cg g w w' ∧ TJ (fun b => w.heap.size ≤ b) w' x jv
  | .bad j, e, w' => ∃ x : Tv, e = .returned (.tuple #[x.val, .bool false]) ∧ (∃ d', RB w' g s j d' false) ∧ Cg g w w'
  | .big j, e, w' => ∃ x : Tv, e = .returned (.tuple #[x.val, .bool false]) ∧ (∃ d', RB w' g s j d' true) ∧ Cg g w w'
def RVC (g : Nat) (s : ByteArray) (k : Nat) : Prop := ∀ (w : World) (i d : Nat), RB w g s i d false → i ≤ s.size → d + k = 16 →
  Calls Tryd.prog 26 #[.pointer (some ⟨g, 0, none⟩)] w fun e w' => RVP g s d w (val s k i) e w'
/-- A list's memory. -/
def RI (M : Nat) (W : World) (a : List JV) : Prop := TC W M TN ∧ ∃ (sv : Sv) (xs : List Tv), TC W (M + 1) ⟨4, false, ⟨#[]⟩, SN, sv⟩ ∧ W.ownsRow (M + 2) 26 5 sv.v a.length (tcs xs) ∧ TS (fun b => M + 2 ≤ b ∧ sv.v.ownBlock ≠ some b) W xs a
theorem RI.stay {g M : Nat} {W W' : World} {a : List JV} (h : RI M W a) (hg : g < M) (hc : Cg g W W') : RI M W' a := by
  obtain ⟨h1, sv, xs, h2, h3, h4⟩ := h
  refine ⟨h1.keep (hc.other M h1.lt (by omega)), sv, xs, h2.keep (hc.other (M + 1) h2.lt (by omega)), own_keep h3 (fun b e => hc.other b (own_lt h3 b e).2 (by have := (own_lt h3 b e).1; omega)), h4.keep (fun b hb hlt => ⟨hb, hc.other b hlt (by have := hb.1; omega)⟩) hc.size⟩
theorem own_len {B0 : Nat} {w : World} {e : TypeId} {k n : Nat} {p : Sv} {cs : List Value} (h : w.ownsRow B0 e k p.v n cs) : p.n = n := by
  rcases h.2 with ⟨h1, h0⟩ | ⟨g, cap, cur, h1, _⟩
  · simp [Sv.v] at h1; omega
  · simp [Sv.v] at h1; exact h1.2.1
/-- The loop's head. -/
def LQ {α : Type} (s : ByteArray) (en : Int) (E : List α → Nat → Out α) (f : Nat) (a : List α) (j : Nat) : Out (List α) := if a = [] ∧ gb s j = en then .ok [] (j + 1) else parts s en E (f + 1) a j
def LR (g : Nat) (s : ByteArray) (D M : Nat) (E : List JV → Nat → Out JV) (w : World) (R : Out (List JV)) (W : World) : Prop :=
  ∃ (f : Nat) (a : List JV) (j : Nat), LQ s 93 E f a j = R ∧ s.size < f + 1 + j ∧ j ≤ s.size ∧ a.length ≤ j ∧ RB W g s j D false ∧ RI M W a ∧ CgB g M w W
/-- Two variables more. -/
def lt0 (w : World) (k : Int) : World := (w.alloc (.cells (tcv TN).toArray 26)).alloc (.cells (tcv ⟨k, false, ⟨#[]⟩, SN, SN⟩).toArray 26)
theorem lt0_at (w : World) (k : Int) : TC (lt0 w k) w.heap.size TN ∧ TC (lt0 w k) (w.heap.size + 1) ⟨k, false, ⟨#[]⟩, SN, SN⟩ ∧ Below w.heap.size w (lt0 w k) := by
  refine ⟨?_, ?_, ?_⟩
  · have h1 := heap_alloc_new w (.cells (tcv TN).toArray 26)
    unfold lt0 TC
    rw [heap_alloc_old _ _ (by simp)]; exact h1
  · have h1 := heap_alloc_new (w.alloc (.cells (tcv TN).toArray 26)) (.cells (tcv ⟨k, false, ⟨#[]⟩, SN, SN⟩).toArray 26)
    rw [show (w.alloc (.cells (tcv TN).toArray 26)).heap.size = w.heap.size + 1 by simp] at h1
    exact h1
  · exact ((Below.refl _ w).alloc (Nat.le_refl _) _).alloc (by simp) _
theorem list_fin {Wx W0 : World} {g M m d D : Nat} {s : ByteArray} {y : Tv} (hp : RB Wx g s m D false) (hd : d + 1 = D) (hM : TC Wx M y) (hg : g < M) (x : Tv) (hc : CgB g M W0 Wx) :
    RB (set5 ((Wx.setCell ⟨g, 1, none⟩ (.int .i64 ((m : Int) + 1))).setCell ⟨g, 2, none⟩ (.int .i64 ((D : Int) - 1))) M x) g s (m + 1) d false ∧ TC (set5 ((Wx.setCell ⟨g, 1, none⟩ (.int .i64 ((m : Int) + 1))).setCell ⟨g, 2, none⟩ (.int .i64 ((D : Int) - 1))) M x) M x ∧ CgB g M W0 (set5 ((Wx.setCell ⟨g, 1, none⟩ (.int .i64 ((m : Int) + 1))).setCell ⟨g, 2, none⟩ (.int .i64 ((D : Int) - 1))) M x) := by
  have h1 : RB ((Wx.setCell ⟨g, 1, none⟩ (.int .i64 ((m : Int) + 1))).setCell ⟨g, 2, none⟩ (.int .i64 ((D : Int) - 1))) g s (m + 1) d false := by
    rw [show (D : Int) - 1 = (d : Int) by omega]; exact (hp.set1 (m + 1)).set2 d
  have h2 : TC ((Wx.setCell ⟨g, 1, none⟩ (.int .i64 ((m : Int) + 1))).setCell ⟨g, 2, none⟩ (.int .i64 ((D : Int) - 1))) M y := (hM.keep (Below.heap_setCell _ _ _ _ (by show M ≠ g; omega))).keep (Below.heap_setCell _ _ _ _ (by show M ≠ g; omega))
  refine ⟨h1.keep (set5_other _ _ _ (by omega)), set5_at h2 x, ?_⟩
  refine Chg.trans hc (Chg.trans (Chg.setCell (F := fun b => b = g ∨ M ≤ b) (Chg.setCell (F := fun b => b = g ∨ M ≤ b) (Chg.refl _ _) (.inl rfl)) (.inl rfl)) ((set5_chg _ _ _).mono (fun b e => .inr (by omega))))
theorem list_no {Wx W0 : World} {g M m D : Nat} {s : ByteArray} {y : Tv} {l : Bool} (hp : RB Wx g s m D l) (hM : TC Wx M y) (hg : g < M) (x : Tv) (hc : CgB g M W0 Wx) : RB (set5 Wx M x) g s m D l ∧ TC (set5 Wx M x) M x ∧ CgB g M W0 (set5 Wx M x) :=
  ⟨hp.keep (set5_other _ _ _ (by omega)), set5_at hM x, Chg.trans hc ((set5_chg _ _ _).mono (fun b e => .inr (by omega)))⟩
theorem list_tj {w Wx : World} {g M m D n : Nat} {y : Tv} {l : List JV} (hM : w.heap.size = M) (hg : g < M) (h : TJ (fun b => M + 2 ≤ b) Wx y (.lst l)) : TJ (fun b => w.heap.size ≤ b) (set5 (((Wx.drewN n).setCell ⟨g, 1, none⟩ (.int .i64 ((m : Int) + 1))).setCell ⟨g, 2, none⟩ (.int .i64 ((D : Int) - 1))) M y) y (.lst l) := by
  refine h.keep (fun b hb hlt => ⟨by have h1 : M + 2 ≤ b := hb; show _ ≤ _; omega, ?_⟩) (by rw [set5_size]; simp [World.setCell])
  have h1 : M + 2 ≤ b := hb
  rw [set5_other _ _ _ (by omega), Below.heap_setCell _ _ _ _ (by show b ≠ g; omega), Below.heap_setCell _ _ _ _ (by show b ≠ g; omega)]
  rfl
theorem cgb_cg {g M : Nat} {w W : World} (hM : w.heap.size = M) (h : CgB g M w W) : Cg g w W := ⟨h.os, h.tape, h.output, h.size, fun b hb hf => h.other b hb (fun q => q.elim hf (by omega))⟩
theorem list_push {wr W3 W6 WN : World} {g M q D : Nat} {s : ByteArray} {sv p' : Sv} {xs : List Tv} {a : List JV} {x : Tv} {jv : JV} {A A' : Array Value} {T : TypeId} (hg : g < M) (hTM : TC wr M TN) (hTT : TC wr (M + 1) ⟨4, false, ⟨#[]⟩, SN, sv⟩) (hRW : wr.ownsRow (M + 2) 26 5 sv.v a.length (tcs xs)) (hTS : TS (fun b => M + 2 ≤ b ∧ sv.v.ownBlock ≠ some b) wr xs a) (hc : Cg g wr W3)
    (htj : TJ (fun b => wr.heap.size ≤ b) W3 x jv) (hp : RB W3 g s q D false) (hN : (W3.alloc (.cells A T)).alloc (.cells A' T) = WN) (ho : W6.ownsRow (M + 2) 26 5 p'.v (a.length + 1) (tcs xs ++ tcv x)) (hgr : WN.grownBy W6 sv.v.ownBlock) (hx : p'.v.ownBlock = sv.v.ownBlock ∨ p'.v.ownBlock = some WN.heap.size) :
    RI M (W6.setCell ⟨M + 1, 4, none⟩ p'.v) (a ++ [jv]) ∧ RB (W6.setCell ⟨M + 1, 4, none⟩ p'.v) g s q D false ∧ CgB g M wr (W6.setCell ⟨M + 1, 4, none⟩ p'.v) := by
  have hsz : W3.heap.size + 2 = WN.heap.size := by rw [← hN]; simp
  have hs3 := hc.size
  have hs6 := hgr.size
  have hlT := hTT.lt
  have hrb : ∀ b, sv.v.ownBlock = some b → M + 2 ≤ b ∧ b < wr.heap.size := fun b e => ⟨(own_lt hRW b e).1, (own_lt hRW b e).2⟩
  have old : ∀ b, b < W3.heap.size → b ≠ M + 1 → sv.v.ownBlock ≠ some b → (W6.setCell ⟨M + 1, 4, none⟩ p'.v).heap[b]? = W3.heap[b]? := fun b hb h1 h2 => by
    rw [Below.heap_setCell _ _ _ _ (by show b ≠ M + 1; exact h1), hgr.block b (by omega) (fun e => h2 e.symm), ← hN, heap_alloc_old _ _ (by simp only [World.size_alloc]; omega), heap_alloc_old _ _ hb]
  have hnb : ∀ b, b < W3.heap.size → sv.v.ownBlock ≠ some b → p'.v.ownBlock ≠ some b := fun b hb h e => by
    rcases hx with x | x
    · exact h (x ▸ e)
    · rw [x] at e; cases e; omega
  have hT6 : TC W6 (M + 1) ⟨4, false, ⟨#[]⟩, SN, sv⟩ := by
    have h3 := hTT.keep (hc.other (M + 1) hTT.lt (by omega))
    have hN1 : TC WN (M + 1) ⟨4, false, ⟨#[]⟩, SN, sv⟩ := by rw [← hN]; exact (h3.keep (heap_alloc_old _ _ h3.lt)).keep (heap_alloc_old _ _ (by simp only [World.size_alloc]; have := h3.lt; omega))
    exact hN1.keep (hgr.block (M + 1) hN1.lt (fun e => by have := (hrb _ e.symm).1; omega))
  have hpo : ∀ b, p'.v.ownBlock = some b → b ≠ M + 1 := fun b e h => by
    have := (own_lt ho b e).1; omega
  refine ⟨⟨?_, p', xs ++ [x], hT6.set4 p', ?_, ?_⟩, ?_, ?_⟩
  · refine hTM.keep ((old M (by have := hTM.lt; omega) (by omega) (fun e => by have := (hrb _ e).1; omega)).trans (hc.other M hTM.lt (by omega)))
  · rw [List.length_append, tcs_push]
    exact own_keep ho (fun b e => Below.heap_setCell _ _ _ _ (by show b ≠ M + 1; exact hpo b e))
  · have hs7 : (W6.setCell ⟨M + 1, 4, none⟩ p'.v).heap.size = W6.heap.size := by simp [World.setCell]
    refine TS.push ?_ ?_
    · refine (hTS.keep (A' := fun b => M + 2 ≤ b ∧ sv.v.ownBlock ≠ some b) (fun b hb hlt => ⟨hb, hc.other b hlt (by have := hb.1; omega)⟩) hs3).keep (fun b hb hlt => ⟨⟨hb.1, hnb b hlt hb.2⟩, old b hlt (by have := hb.1; omega) hb.2⟩) (by omega)
    · refine htj.keep (fun b hb hlt => ?_) (by omega)
      have hb' : wr.heap.size ≤ b := hb
      have hne : sv.v.ownBlock ≠ some b := fun e => by have := (hrb b e).2; omega
      exact ⟨⟨by omega, hnb b hlt hne⟩, old b hlt (by omega) hne⟩
  · exact hp.keep (old g hp.lt (by omega) (fun e => by have := (hrb _ e).1; omega))
  · refine ⟨?_, ?_, ?_, ?_, ?_⟩
    · show W6.os = _; rw [hgr.os, ← hN]; exact hc.os
    · show W6.tape = _; rw [hgr.tape, ← hN]; exact hc.tape
    · show W6.output = _; rw [hgr.output, ← hN]; exact hc.output
    · have hs7 : (W6.setCell ⟨M + 1, 4, none⟩ p'.v).heap.size = W6.heap.size := by simp [World.setCell]
      omega
    · intro b hb hf
      have h1 : b ≠ g := fun e => hf (.inl e)
      have h2 : ¬ M ≤ b := fun e => hf (.inr e)
      exact (old b (by omega) (by omega) (fun e => by have := (hrb _ e).1; omega)).trans (hc.other b hb h1)
variable {w : World} {g : Nat} {s : ByteArray} {i d k : Nat}
set_option maxHeartbeats 16000000 in
theorem rlist_any (h : RB w g s i d false) (hi : i < s.size) (hs : s.size ≤ 8192) (hd : d + 1 + k = 16) (HV : RVC g s k) :
    Calls Tryd.prog 47 #[.pointer (some ⟨g, 0, none⟩)] w fun e w' => RVP g s d w (wrapL (open' s 93 (fun _ => val s k) i)) e w' := by
  have HS : Hid (s.size ≤ 8192) := hs
  have HVC : Hid (RVC g s k) := HV
  have hg := h.lt
  obtain ⟨a1, a2, a3⟩ := lt0_at w 4
  obtain ⟨D, hD⟩ : ∃ D, d + 1 = D := ⟨_, rfl⟩
  obtain ⟨M, hM⟩ : ∃ M, w.heap.size = M := ⟨_, rfl⟩
  have HMM : Hid (w.heap.size = M) := hM
  have HP : Hid (RB (lt0 w 4) g s i d false) := h.keep (a3.block g hg)
  rw [hM] at a1 a2 a3
  have HB0 : Hid (Below M w (lt0 w 4)) := a3
  have HI0 : Hid (RI M (lt0 w 4) []) := ⟨a1, SN, [], a2, ⟨rfl, .inl ⟨rfl, rfl⟩⟩, rfl, fun i x j hx => by simp at hx⟩
  obtain ⟨R, hR⟩ : ∃ R, open' s 93 (fun _ => val s k) i = R := ⟨_, rfl⟩
  have HR : Hid (LQ s 93 (fun _ => val s k) s.size [] (sk s (i + 1)) = R) := by
    show _ = _; rw [← hR]; unfold LQ open'
    simp
  rw [hR]
  have hgM : g < M := by omega
  have hopen := ropen_any HP.out hi hs (by omega : d < 16)
  rw [hD] at hopen
  have hj0 := sk_le (s := s) (i := i + 1) hi
  obtain ⟨j0, hj0e⟩ : ∃ j0, sk s (i + 1) = j0 := ⟨_, rfl⟩
  rw [hj0e] at hopen HR hj0
  clear h hR a1 a2 a3 hs HV hj0e
  go_enter Tryd.func47, Tryd.ntmps47
  go_wp2_with fail
  refine Calls.mono hopen ?_
  rintro e W2 ⟨rfl, p, c⟩
  have HL : Hid (LR g s D M (fun _ => val s k) w R W2) := ⟨s.size, [], j0, HR.out, by omega, hj0, by simp, p, HI0.out.stay hgM c, CgB.step (Chg.ofBelow (by rw [HMM.out]; exact HB0.out)) c⟩
  clear p c hopen HP HI0 HB0 HR hj0
  go_wp2_with fail
  go_loopw [] (fun W => LR g s D M (fun _ => val s k) w R W) (fun W => s.size + 1 - posOf W g)
  case atStart => exact HL.out
  case round =>
    obtain ⟨f, a, j, hr, hf, hjs, hal, hp, ⟨hi1, sv, xs, hi2, hi3, hi4⟩, hc⟩ := hrel
    have HPS : Hid (posOf wr g = j) := hp.pos
    have HP : Hid (RB wr g s j D false) := hp
    have HC : Hid (CgB g M w wr) := hc
    have HTM : Hid (TC wr M TN) := hi1
    have hlen := own_len hi3
    obtain ⟨sa, sn, sc⟩ := sv
    have HTT : Hid (TC wr (M + 1) ⟨4, false, ⟨#[]⟩, SN, ⟨sa, sn, sc⟩⟩) := hi2
    have HRW : Hid (wr.ownsRow (M + 2) 26 5 (.slice sa sn sc) a.length (tcs xs)) := hi3
    have HTS : Hid (TS (fun b => M + 2 ≤ b ∧ (Value.slice sa sn sc).ownBlock ≠ some b) wr xs a) := hi4
    simp only at hlen
    obtain ⟨t0, t1, t2, t3, t4, tf⟩ := hi2.cells
    have tf4 := tf 4
    simp only at t0 t1 t2 t3 t4
    obtain ⟨m0, m1, m2, m3, m4, mf⟩ := hi1.cells
    have mf0 := mf 0; have mf1 := mf 1; have mf2 := mf 2; have mf3 := mf 3; have mf4 := mf 4
    simp only [TN, SN] at t3 m0 m1 m2 m3 m4
    obtain ⟨r0, r1, r2, r3⟩ := hp.cells
    have f1 := hp.froz 1
    have f2 := hp.froz 2
    have b1 : (j : Int) ≤ 8192 := by have := HS.out; omega
    have b2 : (0 : Int) ≤ (j : Int) := by omega
    have b3 : (D : Int) ≤ 16 := by omega
    have b4 : (1 : Int) ≤ (D : Int) := by omega
    clear hp hc hi1 hi2 hi3 hi4 HL tf mf
    by_cases he : a = [] ∧ gb s j = 93
    · obtain ⟨rfl, e93⟩ := he
      have HRR : Hid (R = .ok [] (j + 1)) := by show _ = _; rw [← hr]; unfold LQ; rw [if_pos ⟨rfl, e93⟩]
      obtain rfl : sn = 0 := hlen
      have HF : Hid (∀ n, RB (set5 (((wr.drewN n).setCell ⟨g, 1, none⟩ (.int .i64 ((j : Int) + 1))).setCell ⟨g, 2, none⟩ (.int .i64 ((D : Int) - 1))) M ⟨4, false, ⟨#[]⟩, SN, ⟨sa, 0, sc⟩⟩) g s (j + 1) d false ∧ TC (set5 (((wr.drewN n).setCell ⟨g, 1, none⟩ (.int .i64 ((j : Int) + 1))).setCell ⟨g, 2, none⟩ (.int .i64 ((D : Int) - 1))) M ⟨4, false, ⟨#[]⟩, SN, ⟨sa, 0, sc⟩⟩) M ⟨4, false, ⟨#[]⟩, SN, ⟨sa, 0, sc⟩⟩ ∧ CgB g M wr (set5 (((wr.drewN n).setCell ⟨g, 1, none⟩ (.int .i64 ((j : Int) + 1))).setCell ⟨g, 2, none⟩ (.int .i64 ((D : Int) - 1))) M ⟨4, false, ⟨#[]⟩, SN, ⟨sa, 0, sc⟩⟩)) := fun n => list_fin (HP.out.drew n) hD (show TC (wr.drewN n) M TN from HTM.out) hgM _ (Chg.drew (Chg.refl _ _) n)
      have HJ : Hid (∀ n, TJ (fun b => w.heap.size ≤ b) (set5 (((wr.drewN n).setCell ⟨g, 1, none⟩ (.int .i64 ((j : Int) + 1))).setCell ⟨g, 2, none⟩ (.int .i64 ((D : Int) - 1))) M ⟨4, false, ⟨#[]⟩, SN, ⟨sa, 0, sc⟩⟩) ⟨4, false, ⟨#[]⟩, SN, ⟨sa, 0, sc⟩⟩ (.lst [])) := fun n => .lst _ rfl [] [] ⟨sa, 0, sc, rfl, rfl, Nat.zero_le _, .inl rfl⟩ rfl (fun i y j hy => by simp at hy)
      go_wp2_with (go_at_call 46; refine (rhere_at HP.out (by rfl) hjs HS.out).mono ?_; rintro _ _ ⟨rfl, n, rfl⟩; rw [e93])
      refine tree_res Tryd.results47 (M := M) (x := ⟨4, false, ⟨#[]⟩, SN, ⟨sa, 0, sc⟩⟩) (b := true) (HF.out n).2.1 rfl rfl ?_
      rw [HRR.out]
      exact ⟨_, rfl, (HF.out n).1, cgb_cg HMM.out (Chg.trans HC.out (HF.out n).2.2), HJ.out n⟩
    have HRQ : Hid (parts s 93 (fun _ => val s k) (f + 1) a j = R) := by show _ = _; rw [← hr]; unfold LQ; rw [if_neg he]
    have HIN : Hid _ := val_in s k j hjs
    have HLEN : Hid (sn = a.length) := hlen
    clear hlen
    have HCL : Hid (∀ n, Calls Tryd.prog 26 #[.pointer (some ⟨g, 0, none⟩)] (wr.drewN n) fun e w' => RVP g s D (wr.drewN n) (val s k j) e w') := fun n => HVC.out (wr.drewN n) j D (HP.out.drew n) hjs (by omega)
    have hhead : (gb s j = 93 ∧ 0 < sn) ∨ ¬ gb s j = 93 := by
      by_cases e : gb s j = 93
      · left; refine ⟨e, ?_⟩
        rcases Nat.eq_zero_or_pos sn with z | z
        · exact absurd ⟨List.length_eq_zero_iff.1 (by have := HLEN.out; omega), e⟩ he
        · exact z
      · exact .inr e
    rcases hhead with ⟨e93, hsn⟩ | e93
    case' inl =>
      have hsn' : (0 : Int) < (sn : Int) := by omega
      go_wp2_with (go_at_call 46; refine (rhere_at HP.out (by rfl) hjs HS.out).mono ?_; rintro _ _ ⟨rfl, n, rfl⟩; rw [e93])
      clear hsn' hsn e93
    case' inr =>
      go_wp2_with (go_at_call 46; refine (rhere_at HP.out (by rfl) hjs HS.out).mono ?_; rintro _ _ ⟨rfl, n, rfl⟩)
      clear e93
    all_goals (
      refine (HCL.out n).mono ?_
      intro e W3 hvp
      have HR0 : Hid ((match val s k j with
        | .bad j => Out.bad j
        | .big j => Out.big j
        | .ok v j => if gb s (sk s j) = 93 then Out.ok (a ++ [v]) (sk s j + 1) else if gb s (sk s j) = 44 then parts s 93 (fun _ => val s k) f (a ++ [v]) (sk s (sk s j + 1)) else Out.bad (sk s j)) = R) := by
        show _ = _; rw [← HRQ.out]; simp only [parts]; cases val s k j <;> rfl
      have hgrow : ∀ {W4 : World}, Cg g (wr.drewN n) W4 → ∀ b, b < wr.heap.size → b ≠ g → W4.heap[b]? = wr.heap[b]? := fun c b hb hne => c.other b hb hne
      cases ho : val s k j with
      | bad q =>
        rw [ho] at hvp
        obtain ⟨x, rfl, ⟨d', p⟩, c⟩ := hvp
        have HRR : Hid (R = .bad q) := by show _ = _; rw [← HR0.out, ho]
        obtain ⟨xk, xb, xt, ⟨ka, kn, kc⟩, ⟨pa, pn, pc⟩⟩ := x
        rw [show Tv.val ⟨xk, xb, xt, ⟨ka, kn, kc⟩, ⟨pa, pn, pc⟩⟩ = .agg #[.int .i64 xk, .bool xb, .string xt, .slice ka kn kc, .slice pa pn pc] from rfl]
        have hT3 : TC W3 (M + 1) ⟨4, false, ⟨#[]⟩, SN, ⟨sa, sn, sc⟩⟩ := HTT.out.keep (hgrow c _ HTT.out.lt (by omega))
        have hM3 : TC W3 M TN := HTM.out.keep (hgrow c _ HTM.out.lt (by omega))
        have hT4 : TC (W3.alloc (.cells #[.int .i64 xk, .bool xb, .string xt, .slice ka kn kc, .slice pa pn pc] 26)) (M + 1) ⟨4, false, ⟨#[]⟩, SN, ⟨sa, sn, sc⟩⟩ := hT3.keep (heap_alloc_old _ _ hT3.lt)
        have hM4 : TC (W3.alloc (.cells #[.int .i64 xk, .bool xb, .string xt, .slice ka kn kc, .slice pa pn pc] 26)) M TN := hM3.keep (heap_alloc_old _ _ hM3.lt)
        have HF : Hid _ := list_no (p.keep (heap_alloc_old W3 (.cells #[.int .i64 xk, .bool xb, .string xt, .slice ka kn kc, .slice pa pn pc] 26) p.lt)) hM4 hgM ⟨4, false, ⟨#[]⟩, SN, ⟨sa, sn, sc⟩⟩ ((Chg.trans HC.out (Cg.toB (Chg.trans (Chg.drew (Chg.refl _ _) n) c))).alloc _)
        obtain ⟨z0, z1, z2, z3, z4, zf⟩ := hT4.cells
        obtain ⟨y0, y1, y2, y3, y4, yf⟩ := hM4.cells
        have yf0 := yf 0; have yf1 := yf 1; have yf2 := yf 2; have yf3 := yf 3; have yf4 := yf 4
        simp only [TN, SN] at z0 z1 z2 z3 z4 y0 y1 y2 y3 y4
        clear p c hT3 hM3 hT4 hM4 zf yf ho HR0 HRQ HCL hgrow m0 m1 m2 m3 m4 mf0 mf1 mf2 mf3 mf4 t0 t1 t2 t3 t4 tf4 r0 r1 r2 r3 f1 f2
        go_wp2
        refine tree_res Tryd.results47 (M := M) (x := ⟨4, false, ⟨#[]⟩, SN, ⟨sa, sn, sc⟩⟩) (b := false) HF.out.2.1 rfl rfl ?_
        rw [HRR.out]
        have hf := HF.out
        simp only [set5, SN] at hf
        exact ⟨_, rfl, ⟨d', hf.1⟩, cgb_cg HMM.out hf.2.2⟩
      | big q =>
        rw [ho] at hvp
        obtain ⟨x, rfl, ⟨d', p⟩, c⟩ := hvp
        have HRR : Hid (R = .big q) := by show _ = _; rw [← HR0.out, ho]
        obtain ⟨xk, xb, xt, ⟨ka, kn, kc⟩, ⟨pa, pn, pc⟩⟩ := x
        rw [show Tv.val ⟨xk, xb, xt, ⟨ka, kn, kc⟩, ⟨pa, pn, pc⟩⟩ = .agg #[.int .i64 xk, .bool xb, .string xt, .slice ka kn kc, .slice pa pn pc] from rfl]
        have hT3 : TC W3 (M + 1) ⟨4, false, ⟨#[]⟩, SN, ⟨sa, sn, sc⟩⟩ := HTT.out.keep (hgrow c _ HTT.out.lt (by omega))
        have hM3 : TC W3 M TN := HTM.out.keep (hgrow c _ HTM.out.lt (by omega))
        have hT4 : TC (W3.alloc (.cells #[.int .i64 xk, .bool xb, .string xt, .slice ka kn kc, .slice pa pn pc] 26)) (M + 1) ⟨4, false, ⟨#[]⟩, SN, ⟨sa, sn, sc⟩⟩ := hT3.keep (heap_alloc_old _ _ hT3.lt)
        have hM4 : TC (W3.alloc (.cells #[.int .i64 xk, .bool xb, .string xt, .slice ka kn kc, .slice pa pn pc] 26)) M TN := hM3.keep (heap_alloc_old _ _ hM3.lt)
        have HF : Hid _ := list_no (p.keep (heap_alloc_old W3 (.cells #[.int .i64 xk, .bool xb, .string xt, .slice ka kn kc, .slice pa pn pc] 26) p.lt)) hM4 hgM ⟨4, false, ⟨#[]⟩, SN, ⟨sa, sn, sc⟩⟩ ((Chg.trans HC.out (Cg.toB (Chg.trans (Chg.drew (Chg.refl _ _) n) c))).alloc _)
        obtain ⟨z0, z1, z2, z3, z4, zf⟩ := hT4.cells
        obtain ⟨y0, y1, y2, y3, y4, yf⟩ := hM4.cells
        have yf0 := yf 0; have yf1 := yf 1; have yf2 := yf 2; have yf3 := yf 3; have yf4 := yf 4
        simp only [TN, SN] at z0 z1 z2 z3 z4 y0 y1 y2 y3 y4
        clear p c hT3 hM3 hT4 hM4 zf yf ho HR0 HRQ HCL hgrow m0 m1 m2 m3 m4 mf0 mf1 mf2 mf3 mf4 t0 t1 t2 t3 t4 tf4 r0 r1 r2 r3 f1 f2
        go_wp2
        refine tree_res Tryd.results47 (M := M) (x := ⟨4, false, ⟨#[]⟩, SN, ⟨sa, sn, sc⟩⟩) (b := false) HF.out.2.1 rfl rfl ?_
        rw [HRR.out]
        have hf := HF.out
        simp only [set5, SN] at hf
        exact ⟨_, rfl, ⟨d', hf.1⟩, cgb_cg HMM.out hf.2.2⟩
      | ok jv q =>
        rw [ho] at hvp
        obtain ⟨x, rfl, p, c, htj⟩ := hvp
        have hq := HIN.out
        rw [ho] at hq
        obtain ⟨hq1, hq2⟩ := hq
        have HR1 : Hid ((if gb s (sk s q) = 93 then Out.ok (a ++ [jv]) (sk s q + 1) else if gb s (sk s q) = 44 then parts s 93 (fun _ => val s k) f (a ++ [jv]) (sk s (sk s q + 1)) else Out.bad (sk s q)) = R) := by show _ = _; rw [← HR0.out, ho]
        obtain ⟨xk, xb, xt, ⟨ka, kn, kc⟩, ⟨pa, pn, pc⟩⟩ := x
        rw [show Tv.val ⟨xk, xb, xt, ⟨ka, kn, kc⟩, ⟨pa, pn, pc⟩⟩ = .agg #[.int .i64 xk, .bool xb, .string xt, .slice ka kn kc, .slice pa pn pc] from rfl]
        have HP3 : Hid (RB W3 g s q D false) := p
        have HC3 : Hid (Cg g wr W3) := Chg.trans (Chg.drew (Chg.refl _ _) n) c
        have HTJ : Hid (TJ (fun b => wr.heap.size ≤ b) W3 ⟨xk, xb, xt, ⟨ka, kn, kc⟩, ⟨pa, pn, pc⟩⟩ jv) := htj
        have hT3 : TC W3 (M + 1) ⟨4, false, ⟨#[]⟩, SN, ⟨sa, sn, sc⟩⟩ := HTT.out.keep (hgrow c _ HTT.out.lt (by omega))
        have hT4 : TC (W3.alloc (.cells #[.int .i64 xk, .bool xb, .string xt, .slice ka kn kc, .slice pa pn pc] 26)) (M + 1) ⟨4, false, ⟨#[]⟩, SN, ⟨sa, sn, sc⟩⟩ := hT3.keep (heap_alloc_old _ _ hT3.lt)
        have hV4 : TC (W3.alloc (.cells #[.int .i64 xk, .bool xb, .string xt, .slice ka kn kc, .slice pa pn pc] 26)) W3.heap.size ⟨xk, xb, xt, ⟨ka, kn, kc⟩, ⟨pa, pn, pc⟩⟩ := heap_alloc_new _ _
        obtain ⟨z0, z1, z2, z3, z4, zf⟩ := hT4.cells
        obtain ⟨y0, y1, y2, y3, y4, yf⟩ := hV4.cells
        have zf4 := zf 4
        simp only [SN] at z0 z1 z2 z3 z4 y0 y1 y2 y3 y4
        obtain ⟨WN, hWN⟩ : ∃ WN, (W3.alloc (.cells #[.int .i64 xk, .bool xb, .string xt, .slice ka kn kc, .slice pa pn pc] 26)).alloc (.cells #[.int .i64 xk, .bool xb, .string xt, .slice ka kn kc, .slice pa pn pc] 26) = WN := ⟨_, rfl⟩
        have HWN : Hid ((W3.alloc (.cells #[.int .i64 xk, .bool xb, .string xt, .slice ka kn kc, .slice pa pn pc] 26)).alloc (.cells (tcv ⟨xk, xb, xt, ⟨ka, kn, kc⟩, ⟨pa, pn, pc⟩⟩).toArray 26) = WN) := hWN
        have hNR0 : WN.rangeAt (W3.alloc (.cells #[.int .i64 xk, .bool xb, .string xt, .slice ka kn kc, .slice pa pn pc] 26)).heap.size 0 (tcv ⟨xk, xb, xt, ⟨ka, kn, kc⟩, ⟨pa, pn, pc⟩⟩) := by
          rw [← hWN]; exact TC.range (x := ⟨xk, xb, xt, ⟨ka, kn, kc⟩, ⟨pa, pn, pc⟩⟩) (heap_alloc_new _ _)
        have hRN0 : WN.ownsRow (M + 2) 26 5 (.slice sa sn sc) a.length (tcs xs) := by
          rw [← hWN]
          exact World.ownsRow.alloc (World.ownsRow.alloc (own_keep HRW.out (fun b e => hgrow c b (own_lt HRW.out b e).2 (by have := (own_lt HRW.out b e).1; omega))) _) _
        have HNR : Hid (WN.rangeAt (W3.alloc (.cells #[.int .i64 xk, .bool xb, .string xt, .slice ka kn kc, .slice pa pn pc] 26)).heap.size 0 (tcv ⟨xk, xb, xt, ⟨ka, kn, kc⟩, ⟨pa, pn, pc⟩⟩)) := hNR0
        have HRN : Hid (WN.ownsRow (M + 2) 26 5 (.slice sa sn sc) a.length (tcs xs)) := hRN0
        have hBN : M + 2 ≤ WN.heap.size := by
          have h1 := HTT.out.lt
          have h2 := c.size
          have h3 : wr.heap.size ≤ W3.heap.size := h2
          rw [← hWN]; simp only [World.size_alloc]; omega
        have HTC : Hid (TC WN (M + 1) ⟨4, false, ⟨#[]⟩, SN, ⟨sa, sn, sc⟩⟩) := by show TC _ _ _; rw [← hWN]; exact hT4.keep (heap_alloc_old _ _ hT4.lt)
        have hal9 : a.length ≤ 1000000000 := by have := HS.out; omega
        have HPU : Hid (∀ (W6 : World) (p' : Sv), W6.ownsRow (M + 2) 26 5 p'.v (a.length + 1) (tcs xs ++ tcv ⟨xk, xb, xt, ⟨ka, kn, kc⟩, ⟨pa, pn, pc⟩⟩) → WN.grownBy W6 (Value.slice sa sn sc).ownBlock → (p'.v.ownBlock = (Value.slice sa sn sc).ownBlock ∨ p'.v.ownBlock = some WN.heap.size) → RI M (W6.setCell ⟨M + 1, 4, none⟩ p'.v) (a ++ [jv]) ∧ RB (W6.setCell ⟨M + 1, 4, none⟩ p'.v) g s q D false ∧ CgB g M wr (W6.setCell ⟨M + 1, 4, none⟩ p'.v)) := fun W6 p' h1 h2 h3 => list_push hgM HTM.out HTT.out HRW.out HTS.out HC3.out HTJ.out HP3.out hWN h1 h2 h3
        have HBN : Hid (M + 2 ≤ WN.heap.size) := hBN
        clear hBN hNR0 hRN0 p c hT3 hT4 hV4 zf yf ho htj HR0 HRQ HCL hgrow m0 m1 m2 m3 m4 mf0 mf1 mf2 mf3 mf4 t0 t1 t2 t3 t4 tf4 r0 r1 r2 r3 f1 f2 hWN
        go_wp2_with (first
          | (refine bs_tree rfl (.tmp 31) rfl ⟨xk, xb, xt, ⟨ka, kn, kc⟩, ⟨pa, pn, pc⟩⟩ rfl ?_; rw [HWN.out])
          | (at_builtin; refine app_tree rfl (.tmp 30) (.tmp 32) rfl (.slice sa sn sc) a.length (tcs xs) rfl HRN.out _ ⟨xk, xb, xt, ⟨ka, kn, kc⟩, ⟨pa, pn, pc⟩⟩ rfl HNR.out hal9 HBN.out ?_
             intro v' W6 o1 o2 o3
             obtain ⟨ad', nn, cc, hsl⟩ := own_slice o1
             subst hsl
             have HFU : Hid _ := HPU.out W6 ⟨ad', nn, cc⟩ o1 o2 o3
             have hTC6 := HTC.out.keep (o2.block (M + 1) HTC.out.lt (fun e => by have := (own_lt HRN.out _ e.symm).1; omega))
             obtain ⟨z0', z1', z2', z3', z4', zf'⟩ := hTC6.cells
             have zf4' := zf' 4
             simp only at z4'
             clear hTC6 z0' z1' z2' z3' zf'))
        obtain ⟨W7, hW7⟩ : ∃ W7, W6.setCell ⟨M + 1, 4, none⟩ (.slice ad' nn cc) = W7 := ⟨_, rfl⟩
        have HRI : Hid (RI M W7 (a ++ [jv])) := by show RI _ _ _; rw [← hW7]; exact HFU.out.1
        have HP7 : Hid (RB W7 g s q D false) := by show RB _ _ _ _ _ _; rw [← hW7]; exact HFU.out.2.1
        have HC7 : Hid (CgB g M w W7) := by show CgB _ _ _ _; rw [← hW7]; exact Chg.trans HC.out HFU.out.2.2
        rw [hW7]
        clear hW7 HFU zf4' z4' HPU HTC HNR HRN HBN HWN HTJ HC3 HP3 HP HC HTM HTT HRW HTS
        refine (rblanks_any HP7.out hq2 HS.out).mono ?_
        rintro e W8 ⟨rfl, p, c⟩
        have hm := sk_le hq2
        have hmq := sk_ge s q
        obtain ⟨m, hmm⟩ : ∃ m, sk s q = m := ⟨_, rfl⟩
        rw [hmm] at p hm hmq HR1
        have HP8 : Hid (RB W8 g s m D false) := p
        have HC8 : Hid (CgB g M w W8) := CgB.step HC7.out c
        have hri := HRI.out.stay hgM c
        have HRI8 : Hid (RI M W8 (a ++ [jv])) := hri
        obtain ⟨tm, sv', xs', tt, hrw', hts'⟩ := hri
        obtain ⟨va, vn, vc⟩ := sv'
        have HTM8 : Hid (TC W8 M TN) := tm
        have HTT8 : Hid (TC W8 (M + 1) ⟨4, false, ⟨#[]⟩, SN, ⟨va, vn, vc⟩⟩) := tt
        have HJ8 : Hid (TJ (fun b => M + 2 ≤ b) W8 ⟨4, false, ⟨#[]⟩, SN, ⟨va, vn, vc⟩⟩ (.lst (a ++ [jv]))) := .lst _ rfl xs' _ (own_rv hrw' (fun b e => (own_lt hrw' b e).1)) hts'.1 (fun i y j hy hj => (hts'.2 i y j hy hj).keep (fun b hb hlt => ⟨hb.1, rfl⟩) (Nat.le_refl _))
        obtain ⟨z0, z1, z2, z3, z4, zf⟩ := tt.cells
        obtain ⟨y0, y1, y2, y3, y4, yf⟩ := tm.cells
        have yf0 := yf 0; have yf1 := yf 1; have yf2 := yf 2; have yf3 := yf 3; have yf4 := yf 4
        obtain ⟨r0, r1, r2, r3⟩ := p.cells
        have f1 := p.froz 1
        have f2 := p.froz 2
        simp only [TN, SN] at z0 z1 z2 z3 z4 y0 y1 y2 y3 y4
        have c1 : (m : Int) ≤ 8192 := by have := HS.out; omega
        have c2 : (0 : Int) ≤ (m : Int) := by omega
        clear p c tm tt hrw' hts' zf yf hmm HP7 HC7 HRI
        go_wp2_with fail
        by_cases e93 : gb s m = 93
        · have HRR : Hid (R = .ok (a ++ [jv]) (m + 1)) := by show _ = _; rw [← HR1.out, if_pos e93]
          have HF : Hid (∀ n, RB (set5 (((W8.drewN n).setCell ⟨g, 1, none⟩ (.int .i64 ((m : Int) + 1))).setCell ⟨g, 2, none⟩ (.int .i64 ((D : Int) - 1))) M ⟨4, false, ⟨#[]⟩, SN, ⟨va, vn, vc⟩⟩) g s (m + 1) d false ∧ TC (set5 (((W8.drewN n).setCell ⟨g, 1, none⟩ (.int .i64 ((m : Int) + 1))).setCell ⟨g, 2, none⟩ (.int .i64 ((D : Int) - 1))) M ⟨4, false, ⟨#[]⟩, SN, ⟨va, vn, vc⟩⟩) M ⟨4, false, ⟨#[]⟩, SN, ⟨va, vn, vc⟩⟩ ∧ CgB g M w (set5 (((W8.drewN n).setCell ⟨g, 1, none⟩ (.int .i64 ((m : Int) + 1))).setCell ⟨g, 2, none⟩ (.int .i64 ((D : Int) - 1))) M ⟨4, false, ⟨#[]⟩, SN, ⟨va, vn, vc⟩⟩)) := fun n => list_fin (HP8.out.drew n) hD (show TC (W8.drewN n) M TN from HTM8.out) hgM _ (Chg.drew HC8.out n)
          have HJ : Hid (∀ n, TJ (fun b => w.heap.size ≤ b) (set5 (((W8.drewN n).setCell ⟨g, 1, none⟩ (.int .i64 ((m : Int) + 1))).setCell ⟨g, 2, none⟩ (.int .i64 ((D : Int) - 1))) M ⟨4, false, ⟨#[]⟩, SN, ⟨va, vn, vc⟩⟩) ⟨4, false, ⟨#[]⟩, SN, ⟨va, vn, vc⟩⟩ (.lst (a ++ [jv]))) := fun n => list_tj HMM.out hgM HJ8.out
          refine (rhere_at HP8.out (by rfl) hm HS.out).mono ?_
          rintro _ _ ⟨rfl, n2, rfl⟩
          rw [e93]
          go_wp2
          refine tree_res Tryd.results47 (M := M) (x := ⟨4, false, ⟨#[]⟩, SN, ⟨va, vn, vc⟩⟩) (b := true) (HF.out n2).2.1 rfl rfl ?_
          rw [HRR.out]
          exact ⟨_, rfl, (HF.out n2).1, cgb_cg HMM.out (HF.out n2).2.2, HJ.out n2⟩
        · refine (rhere_at HP8.out (by rfl) hm HS.out).mono ?_
          rintro _ _ ⟨rfl, n2, rfl⟩
          go_wp2_with fail
          refine (rhere_at HP8.out (by rfl) hm HS.out).mono ?_
          rintro _ _ ⟨rfl, n3, rfl⟩
          by_cases e44 : gb s m = 44
          · have hlt := gb_lt (s := s) (i := m) (by omega)
            have HRR : Hid (parts s 93 (fun _ => val s k) f (a ++ [jv]) (sk s (m + 1)) = R) := by show _ = _; rw [← HR1.out, if_neg e93, if_pos e44]
            have HF : Hid (∀ n, RB ((W8.drewN n).setCell ⟨g, 1, none⟩ (.int .i64 ((m : Int) + 1))) g s (m + 1) D false ∧ Cg g W8 ((W8.drewN n).setCell ⟨g, 1, none⟩ (.int .i64 ((m : Int) + 1)))) := fun n => ⟨(HP8.out.drew n).set1 (m + 1), Chg.setCell (F := fun b => b = g) (Chg.drew (Chg.refl _ _) n) rfl⟩
            go_wp2_with fail
            try simp only [World.drewN_drewN]
            refine (rblanks_any (HF.out _).1 hlt HS.out).mono ?_
            rintro e W10 ⟨rfl, p, c⟩
            have hx1 := sk_ge s (m + 1)
            have hx2 := sk_le (s := s) (i := m + 1) hlt
            obtain ⟨x, hx⟩ : ∃ x, sk s (m + 1) = x := ⟨_, rfl⟩
            rw [hx] at p hx1 hx2 HRR
            obtain ⟨f', rfl⟩ : ∃ f', f = f' + 1 := ⟨f - 1, by omega⟩
            have HL : Hid (LR g s D M (fun _ => val s k) w R W10) := ⟨f', a ++ [jv], x, by unfold LQ; rw [if_neg (fun h => by simp at h)]; exact HRR.out, by omega, hx2, by rw [List.length_append]; show _ + 1 ≤ _; omega, p, HRI8.out.stay hgM (Chg.trans (HF.out _).2 c), CgB.step HC8.out (Chg.trans (HF.out _).2 c)⟩
            have HPX : Hid (posOf W10 g = x) := p.pos
            clear p c HRR HF HP8 HC8 HRI8 HTM8 HTT8 HJ8 z0 z1 z2 z3 z4 y0 y1 y2 y3 y4 yf0 yf1 yf2 yf3 yf4 r0 r1 r2 r3 hx
            go_wp2
            go_roundw
            case rel => exact HL.out
            case measure => rw [HPX.out, HPS.out]; omega
          · have HRR : Hid (R = .bad m) := by show _ = _; rw [← HR1.out, if_neg e93, if_neg e44]
            have HF : Hid (∀ n, RB (set5 (W8.drewN n) M ⟨4, false, ⟨#[]⟩, SN, ⟨va, vn, vc⟩⟩) g s m D false ∧ TC (set5 (W8.drewN n) M ⟨4, false, ⟨#[]⟩, SN, ⟨va, vn, vc⟩⟩) M ⟨4, false, ⟨#[]⟩, SN, ⟨va, vn, vc⟩⟩ ∧ CgB g M w (set5 (W8.drewN n) M ⟨4, false, ⟨#[]⟩, SN, ⟨va, vn, vc⟩⟩)) := fun n => list_no (HP8.out.drew n) (show TC (W8.drewN n) M TN from HTM8.out) hgM _ (Chg.drew HC8.out n)
            try simp only [World.drewN_drewN]
            go_wp2
            refine tree_res Tryd.results47 (M := M) (x := ⟨4, false, ⟨#[]⟩, SN, ⟨va, vn, vc⟩⟩) (b := false) (HF.out _).2.1 rfl rfl ?_
            rw [HRR.out]
            have hf := HF.out (n2 + n3)
            simp only [set5, SN] at hf
            exact ⟨_, rfl, ⟨D, hf.1⟩, cgb_cg HMM.out hf.2.2⟩)
end Go.Proofs.YtefaohokmhdplaaDoor
