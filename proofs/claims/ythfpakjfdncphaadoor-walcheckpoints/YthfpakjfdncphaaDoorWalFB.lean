/- WalFull, walked. -/
import Derived.Test.YthfpakjfdncphaaDoorWalFA
import Derived.Test.YthfpakjfdncphaaDoorRgnE
namespace Go.Proofs.YthfpakjfdncphaaDoor
open Go Go.RowKit
set_option linter.unusedSimpArgs false
set_option linter.unusedVariables false
set_option maxRecDepth 100000

/-- A slice of slices that comes in. -/
def LQ (w : World) (v : Value) (xss : List (List Int)) : Prop :=
  ∃ ad cap, v = .slice ad xss.length cap ∧ xss.length ≤ cap ∧ (xss = [] ∨ ∃ b o, ad = some ⟨b, o, none⟩ ∧ b < w.heap.size ∧ ∀ i, i < xss.length → ∃ u, w.cell? ⟨b, o + i, none⟩ = some u ∧ Sq w u (mi xss i))
theorem run_none (w : World) : (Instr.buildSlice 31 0 #[]).run Tryd.prog w = .ok (.slice (some ⟨w.heap.size, 0, none⟩) 0 0) (w.alloc (.cells #[] 32)) := by
  kernel_rfl
theorem wpl_none {ops : Array Oper} {rest : List Oper} {o : Oper} {a : Act} {w : World} {Q : Exit → Act → World → Prop} (hg : o.guard = none) (ho : o.op = .buildSlice 31 0 #[])
    (h : wpList Tryd.prog ops Q rest (a.put o.dst (.slice (some ⟨w.heap.size, 0, none⟩) 0 0)) (w.alloc (.cells #[] 32))) : wpList Tryd.prog ops Q (o :: rest) a w := by
  refine wpList_plain hg fun K hK => ?_
  have hr := run_none w
  unfold Oper.wp
  simp only [execOp, ho, List.map_toArray, List.map_cons, List.map_nil, Sem.run_bind, hr, Result.andThen_ok, Sem.run_pure]
  exact hK _ _ h
theorem wpl_rec {ops : Array Oper} {rest : List Oper} {o : Oper} {a : Act} {w : World} {Q : Exit → Act → World → Prop} (hg : o.guard = none) (y : Operand) (ho : o.op = .buildSlice 31 1 #[(0, y)]) (ad : Option Addr) (n c : Nat) (hy : a.eval y = .slice ad n c)
    (h : wpList Tryd.prog ops Q rest (a.put o.dst (.slice (some ⟨w.heap.size, 0, none⟩) 1 1)) (w.alloc (.cells #[.slice ad n c] 32))) : wpList Tryd.prog ops Q (o :: rest) a w := by
  refine wpList_plain hg fun K hK => ?_
  have hr := run_rec w ad n c
  unfold Oper.wp
  simp only [execOp, ho, List.map_toArray, List.map_cons, List.map_nil, hy, Sem.run_bind, hr, Result.andThen_ok, Sem.run_pure]
  exact hK _ _ h
theorem row_new (w : World) (cs : Array Value) (t : TypeId) : (w.alloc (.cells cs t)).heap[w.heap.size]? = some (.cells cs t (0, 0)) := by show (w.heap.push _)[w.heap.size]? = _; simp
theorem ov_none {B b : Nat} {w : World} (hB : B ≤ b) (h : w.heap[b]? = some (.cells #[] 32 (0, 0))) : OV B w (.slice (some ⟨b, 0, none⟩) 0 0) [] :=
  ⟨rfl, .inr ⟨b, 0, #[], rfl, hB, h, Nat.le_refl _, by unfold maxLen; omega, rfl, rfl⟩⟩
/-- What stands in the slots while 'with' is made. -/
def fφ (B : Nat) (wv v0 : Value) (k : Nat) (pa u : Value) (us : List Value) : Nat → Value → World → Prop
  | 0, v, W => ∃ b, v = .slice (some ⟨b, 0, none⟩) 0 0 ∧ B ≤ b ∧ W.heap[b]? = some (.cells #[] 32 (0, 0))
  | 1, v, _ => v = wv
  | 2, v, W => OV B W v us ∧ B ≤ W.heap.size
  | 3, v, _ => v = v0
  | 4, v, _ => v = .int .i64 (k : Int)
  | 5, v, _ => v = pa
  | 6, v, _ => v = u
  | 7, v, W => ∃ b, v = .slice (some ⟨b, 0, none⟩) 1 1 ∧ W.heap[b]? = some (.cells #[u] 32 (0, 0))
  | 8, v, W => OV B W v (us ++ [u])
  | 9, v, W => OV B W v (us ++ [u])
  | _, _, _ => True
def fR (B : Nat) : Nat → World → World → Prop
  | 2, W, W' => Below B W W' ∧ ∀ (b : Nat) (cs : Array Value), W.heap[b]? = some (Obj.cells cs 32 (0, 0)) → cs.size = 1 → W'.heap[b]? = W.heap[b]?
  | 8, W, W' => Below B W W'
  | 9, W, W' => W' = W
  | _, W, W' => Below W.heap.size W W'
def fD : Nat → Nat
  | 0 => 2
  | 2 => 8
  | 7 => 8
  | _ => 10
theorem fR.tr {B : Nat} (j : Nat) {a b c : World} (hB : B ≤ a.heap.size) (h : Below B a b) (r : fR B j b c) : Below B a c := by
  have hz : B ≤ b.heap.size := Nat.le_trans hB h.size
  unfold fR at r
  split at r
  · exact h.trans r.1
  · exact h.trans r
  · rw [r]; exact h
  · exact h.trans (r.mono hz)
theorem fφ.low {B : Nat} {wv v0 : Value} {k : Nat} {pa u : Value} {us : List Value} (i : Nat) {v : Value} {W W' : World} (h : fφ B wv v0 k pa u us i v W) (hb : Below W.heap.size W W') : fφ B wv v0 k pa u us i v W' := by
  unfold fφ at h ⊢
  split
  · obtain ⟨b, e, hB, hg⟩ := h
    exact ⟨b, e, hB, by rw [hb.block b (Array.getElem?_eq_some_iff.1 hg).1]; exact hg⟩
  · exact h
  · exact ⟨h.1.below hb, Nat.le_trans h.2 hb.size⟩
  · exact h
  · exact h
  · exact h
  · exact h
  · obtain ⟨b, e, hg⟩ := h
    exact ⟨b, e, by rw [hb.block b (Array.getElem?_eq_some_iff.1 hg).1]; exact hg⟩
  · exact OV.below h hb
  · exact OV.below h hb
  · trivial
theorem fφ.stay {B : Nat} {wv v0 : Value} {k : Nat} {pa u : Value} {us : List Value} (i j : Nat) {v : Value} {W W' : World} (hij : i ≠ j) (hD : fD i ≠ j) (h82 : i = 8 → j = 2 → False) (h9 : i = 9 → j = 2 ∨ j = 8 → False) (h08 : i = 0 → j = 8 → False) (h : fφ B wv v0 k pa u us i v W) (r : fR B j W W') : fφ B wv v0 k pa u us i v W' := by
  by_cases j2 : j = 2
  · subst j2
    have r' : Below B W W' ∧ ∀ (b : Nat) (cs : Array Value), W.heap[b]? = some (Obj.cells cs 32 (0, 0)) → cs.size = 1 → W'.heap[b]? = W.heap[b]? := r
    rcases i with _ | _ | _ | _ | _ | _ | _ | _ | _ | _ | i
    · exact absurd rfl hD
    · exact h
    · exact absurd rfl hij
    · exact h
    · exact h
    · exact h
    · exact h
    · obtain ⟨b, e, hg⟩ := h
      exact ⟨b, e, by rw [r'.2 b _ hg rfl]; exact hg⟩
    · exact (h82 rfl rfl).elim
    · exact (h9 rfl (.inl rfl)).elim
    · trivial
  by_cases j8 : j = 8
  · subst j8
    rcases i with _ | _ | _ | _ | _ | _ | _ | _ | _ | _ | i
    · exact (h08 rfl rfl).elim
    · exact h
    · exact absurd rfl hD
    · exact h
    · exact h
    · exact h
    · exact h
    · exact absurd rfl hD
    · exact absurd rfl hij
    · exact (h9 rfl (.inr rfl)).elim
    · trivial
  by_cases j9 : j = 9
  · subst j9
    have r' : W' = W := r
    rw [r']; exact h
  have r' : Below W.heap.size W W' := by
    unfold fR at r
    split at r
    · exact absurd rfl j2
    · exact absurd rfl j8
    · exact absurd rfl j9
    · exact r
  exact h.low i r'
theorem LI.new (n g : Nat) (h : 64 ≤ n) : LI (dk0 n) (l0 g) (fun _ => none) :=
  ⟨h, rfl, (dk0_rd n _).symm, (dk0_rd n _).symm, ⟨fun i _ _ => .inl (dk0_blank n _ _), fun i T xs _ hq => (by cases hq)⟩, fun m hm => (by cases hm), fun _ => ⟨rfl, rfl, rfl, rfl⟩, fun h => absurd rfl h⟩

set_option maxHeartbeats 8000000 in
theorem full_any (xss : List (List Int)) (v : Value) (size : Nat) (w : World) (hT : Tb w) (hv : LQ w v xss) (hb : ∀ m ∈ xss, Byt m ∧ m.length ≤ 140737488351232) (hl : xss.length ≤ 5864062014805) (hsz : size ≤ 255) :
    Calls Tryd.prog 7 #[v, .int .u8 (size : Int)] w fun e w' => e = .returned (.bool true) ∧ Below w.heap.size w w' := by
  have HT : Hid (Tb w) := hT
  have HY : Hid (∀ m ∈ xss, Byt m ∧ m.length ≤ 140737488351232) := hb
  obtain ⟨ad, cap, rfl, hc, hm⟩ := hv
  have HM : Hid (xss = [] ∨ ∃ b o, ad = some ⟨b, o, none⟩ ∧ b < w.heap.size ∧ ∀ i, i < xss.length → ∃ u, w.cell? ⟨b, o + i, none⟩ = some u ∧ Sq w u (mi xss i)) := hm
  clear hT hb hm
  go_enter Tryd.func7, Tryd.ntmps7
  go_wp2_with fail
  refine (awake_any w HT.out).mono ?_
  rintro e w1 ⟨rfl, hb1⟩
  have HB1 : Hid (Below w.heap.size w w1) := hb1
  clear hb1
  go_wp2_with fail
  obtain ⟨n, hn⟩ : ∃ n : Nat, 64 + size = n := ⟨_, rfl⟩
  have hni : (64 : Int) + (size : Int) = (n : Int) := by omega
  rw [hni]
  have hn2 : 64 ≤ n ∧ n ≤ 319 := by omega
  clear hn
  refine (new_any w1 n (by omega) (by omega)).mono ?_
  rintro e w2 ⟨g, rfl, F, h1, h2, h3⟩
  have HP : Hid (PD F w2 g (dk0 n)) := h1
  have HB2 : Hid (Below w.heap.size w w2) := HB1.out.trans (h2.mono HB1.out.size)
  have HF : Hid (∀ b, F b → w.heap.size ≤ b) := fun b x => Nat.le_trans HB1.out.size (h3 b x)
  clear h1 h2 h3
  go_wp2_with fail
  refine (opened_new (B := w.heap.size) (w0 := w) _ HP.out (HT.out.below HB2.out) (by omega) HF.out HB2.out HB2.out.size HT.out.lt).mono ?_
  rintro e w3 ⟨lg, rfl, S3, h31, h32, h33⟩
  have L3 : Hid (Lg S3 w.heap.size w w3 g (dk0 n) lg (l0 g) (fun _ => none)) := ⟨h31, h32, h33, h33.size, LI.new n g hn2.1, rfl, rfl, rfl⟩
  clear h31 h32 h33 HP HF HB1 HB2
  go_wp2_with fail
  go_loopw [10, 33] (fun wv i wr => ∃ (k : Nat) (us : List Value) (s : Dk) (l : Lo) (q : Nat → Option (Nat × List (List Int))) (S : Nat → Prop), k ≤ xss.length ∧ i = .int .i64 (k : Int) ∧ Lg S w.heap.size w wr g s lg l q ∧ Wt S wr wv us l.rs ∧ s.n = n ∧ l.t ≤ k) (fun _ i _ => xss.length - (intOf i).toNat)
  case atStart => exact ⟨0, [], _, _, _, S3, Nat.zero_le _, rfl, L3.out, Wt.nil _ _, rfl, Nat.le_refl _⟩
  case round =>
    obtain ⟨k, us, s, l, q, S, hk, rfl, hL, hW, hsn, hlt⟩ := hrel
    have LL1 : Hid (Lg S w.heap.size w wr g s lg l q) := hL
    have W1 : Hid (Wt S wr _ us l.rs) := hW
    clear hL hW L3
    by_cases hlt2 : k < xss.length
    · rcases HM.out with h0 | ⟨b, o, rfl, hlb, hmm⟩
      · rw [h0] at hlt2; simp at hlt2
      · obtain ⟨u, hc0, hu⟩ := hmm k hlt2
        have hc1 : wr.cell? ⟨b, o + k, none⟩ = some u := (LL1.out.bel.cell (p := ⟨b, o + k, none⟩) hlb).trans hc0
        obtain ⟨p, hp⟩ : ∃ p, mi xss k = p := ⟨_, rfl⟩
        have hpm : p ∈ xss := by rw [← hp, mi_get hlt2]; exact List.getElem_mem hlt2
        have HPY : Hid (Byt p ∧ p.length ≤ 140737488351232) := HY.out p hpm
        rw [hp] at hu
        obtain ⟨uad, ucp, hue, -, -⟩ := hu.sl
        subst hue
        have HU : Hid (Sq w (.slice uad p.length ucp) p) := hu
        have UR : Hid (Sq wr (.slice uad p.length ucp) p) := ⟨hu.sl.below LL1.out.bel (Nat.le_refl _), fun A l c e h0 => ⟨(hu.some' A l c e h0).1, Nat.lt_of_lt_of_le (hu.some' A l c e h0).2 LL1.out.bs⟩, hu.none'⟩
        have UN : Hid (∀ b', slB (.slice uad p.length ucp) = some b' → ¬ S b') := fun b' e x => by have h1 := hu.own e; have h2 := LL1.out.lo b' x; omega
        have HC : Hid (∀ W, Below wr.heap.size wr W → W.cell? ⟨b, o + k, none⟩ = some (.slice uad p.length ucp)) := fun W hW => (hW.cell (p := ⟨b, o + k, none⟩) (Nat.lt_of_lt_of_le hlb LL1.out.bs)).trans hc1
        have HLB : Hid (b < w.heap.size) := hlb
        have hkk : (k : Int) < (xss.length : Int) := by omega
        have HSL : Hid (∀ b', S b' → b' < wr.heap.size) := by obtain ⟨F', H', rv', us', hx'⟩ := LL1.out.wl; exact fun b' x => hx'.sl b' x
        have HUL : Hid (us.length ≤ 999999998) := by
          show _ ≤ _
          obtain ⟨h1, h2, -⟩ := LL1.out.sby
          rw [W1.out.len]; exact LL1.out.li.rsl h1 h2
        have HC0 : Hid (w.cell? ⟨b, o + k, none⟩ = some (.slice uad p.length ucp)) := hc0
        clear hmm hc0 hu hp hpm hc1 hlb
        go_wp2_with fail
        refine RE.wp_rgn (fφ wr.heap.size u10 (.slice (some ⟨b, o, none⟩) xss.length cap) k (.pointer (some ⟨b, o + k, none⟩)) (.slice uad p.length ucp) us) (fun a b => wr.heap.size ≤ a.heap.size → Below wr.heap.size a b) (fR wr.heap.size) fD (fun _ => (Below.refl _ wr).drew) (fun i a b c h r hB => fR.tr i hB (h hB) r) (by kernel_rfl) (by decide) (by kernel_rfl) (by kernel_rfl) (fun i o u W ho hd h => ?_) (fun i j u W W' hij hD hp hq h r => fφ.stay i j hij hD (fun e1 e2 => ?_) (fun e1 e2 => ?_) (fun e1 e2 => ?_) h r) ⟨?_, ?_, ?_, ?_, ?_, ?_, ?_, ?_, ?_, ?_, trivial⟩ ?_
        · rcases i with _ | _ | _ | _ | _ | _ | _ | _ | _ | _ | i
          all_goals first | (cases ho; cases hd; done) | (simp at ho; done)
        · subst e1; subst e2; exact absurd hp (by decide)
        · subst e1
          rcases e2 with e2 | e2 <;> subst e2 <;> exact absurd hp (by decide)
        · subst e1; subst e2; exact absurd hq (by decide)
        · intro a W h2 h3 h4
          refine RE.ob_list rfl (RE.wanted_none rfl) ?_
          refine wpl_none rfl rfl ?_
          exact ⟨_, rfl, ⟨W.heap.size, rfl, (h2 (Nat.le_refl _)).size, row_new W _ _⟩, (Below.refl _ W).alloc (Nat.le_refl _) _⟩
        · intro a W h2 h3 h4
          have e1 : a.eval (.tmp 10) = u10 := h3 10 (by kernel_rfl)
          exact RE.ob_val rfl (RE.wanted_none rfl) (fun ev he hc => by have q := (he (.tmp 10)).trans e1; simp only [List.getElem_toArray, List.getElem_cons_succ, List.getElem_cons_zero, execOp, Option.map_some, Option.map_none]; rw [q]; first | (go_simp; done) | (go_simp; rfl)) rfl (Below.refl _ _)
        · intro a W h2 h3 h4
          obtain ⟨b0, e36, hB0, hg0⟩ : ∃ b, a.eval (.tmp 36) = .slice (some ⟨b, 0, none⟩) 0 0 ∧ wr.heap.size ≤ b ∧ W.heap[b]? = some (.cells #[] 32 (0, 0)) := RE.hpD h4 0 36 (by kernel_rfl) (.inl rfl)
          have e37 : a.eval (.tmp 37) = u10 := RE.hpD h4 1 37 (by kernel_rfl) (.inr (by decide))
          have hbW := h2 (Nat.le_refl _)
          refine RE.ob_list rfl (RE.wanted_none rfl) ?_
          refine app_us (B0 := wr.heap.size) rfl (.tmp 36) (.tmp 37) rfl hbW.size _ [] e36 (ov_none hB0 hg0) _ e37 us (W1.out.src.keep hbW.size (fun b' e hb' => hbW.block b' hb')) W1.out.one (by have := HUL.out; simp; omega) ?_
          intro v' w' o1 g1 e1
          rw [List.nil_append] at o1
          refine ⟨_, rfl, ⟨o1, Nat.le_trans hbW.size g1.size⟩, (Below.refl _ W).grown g1 hbW.size (fun b' e => by cases e; exact hB0), fun b' cs hcs h1 => g1.block b' (Array.getElem?_eq_some_iff.1 hcs).1 (fun e => ?_)⟩
          cases e
          rw [hg0] at hcs
          cases hcs
          cases h1
        · intro a W h2 h3 h4
          have e1 : a.eval (.tmp 0) = .slice (some ⟨b, o, none⟩) xss.length cap := h3 0 (by kernel_rfl)
          exact RE.ob_val rfl (RE.wanted_none rfl) (fun ev he hc => by have q := (he (.tmp 0)).trans e1; simp only [List.getElem_toArray, List.getElem_cons_succ, List.getElem_cons_zero, execOp, Option.map_some, Option.map_none]; rw [q]; first | (go_simp; done) | (go_simp; rfl)) rfl (Below.refl _ _)
        · intro a W h2 h3 h4
          have e1 : a.eval (.tmp 11) = .int .i64 (k : Int) := h3 11 (by kernel_rfl)
          exact RE.ob_val rfl (RE.wanted_none rfl) (fun ev he hc => by have q := (he (.tmp 11)).trans e1; simp only [List.getElem_toArray, List.getElem_cons_succ, List.getElem_cons_zero, execOp, Option.map_some, Option.map_none]; rw [q]; first | (go_simp; done) | (go_simp; rfl)) rfl (Below.refl _ _)
        · intro a W h2 h3 h4
          have e1 : a.eval (.tmp 39) = .slice (some ⟨b, o, none⟩) xss.length cap := RE.hpD h4 3 39 (by kernel_rfl) (.inr (by decide))
          have e2 : a.eval (.tmp 40) = .int .i64 (k : Int) := RE.hpD h4 4 40 (by kernel_rfl) (.inr (by decide))
          exact RE.ob_val rfl (RE.wanted_none rfl) (fun ev he hc' => by have q1 := (he (.tmp 39)).trans e1; have q2 := (he (.tmp 40)).trans e2; simp only [List.getElem_toArray, List.getElem_cons_succ, List.getElem_cons_zero, execOp, Option.map_some, Option.map_none]; rw [q1, q2]; first | (go_simp; done) | (go_simp; rfl)) rfl (Below.refl _ _)
        · intro a W h2 h3 h4
          have e1 : a.eval (.tmp 41) = .pointer (some ⟨b, o + k, none⟩) := RE.hpD h4 5 41 (by kernel_rfl) (.inr (by decide))
          have hcs := HC.out W (h2 (Nat.le_refl _))
          exact RE.ob_val rfl (RE.wanted_none rfl) (fun ev he hc' => by have q := (he (.tmp 41)).trans e1; simp only [List.getElem_toArray, List.getElem_cons_succ, List.getElem_cons_zero, execOp, Option.map_some, Option.map_none]; rw [q]; first | (go_simp; done) | (go_simp; rfl)) rfl (Below.refl _ _)
        · intro a W h2 h3 h4
          have e1 : a.eval (.tmp 42) = .slice uad p.length ucp := RE.hpD h4 6 42 (by kernel_rfl) (.inr (by decide))
          refine RE.ob_list rfl (RE.wanted_none rfl) ?_
          refine wpl_rec rfl (.tmp 42) rfl _ _ _ e1 ?_
          exact ⟨_, rfl, ⟨W.heap.size, rfl, row_new W _ _⟩, (Below.refl _ W).alloc (Nat.le_refl _) _⟩
        · intro a W h2 h3 h4
          obtain ⟨o38, z38⟩ : OV wr.heap.size W (a.eval (.tmp 38)) us ∧ wr.heap.size ≤ W.heap.size := RE.hpD h4 2 38 (by kernel_rfl) (.inl rfl)
          obtain ⟨b7, e43, hg7⟩ : ∃ b', a.eval (.tmp 43) = .slice (some ⟨b', 0, none⟩) 1 1 ∧ W.heap[b']? = some (.cells #[.slice uad p.length ucp] 32 (0, 0)) := RE.hpD h4 7 43 (by kernel_rfl) (.inl rfl)
          refine RE.ob_list rfl (RE.wanted_none rfl) ?_
          refine app_us (B0 := wr.heap.size) rfl (.tmp 38) (.tmp 43) rfl z38 _ us rfl o38 _ e43 [.slice uad p.length ucp] ⟨_, 1, rfl, Nat.le_refl _, .inr ⟨b7, 0, rfl, (Array.getElem?_eq_some_iff.1 hg7).1, fun i y hy => ?_⟩⟩ (fun y hy => by simp at hy; subst hy; rfl) (by have := HUL.out; simp; omega) ?_
          · have hi : i = 0 := by have := (List.getElem?_eq_some_iff.1 hy).1; simp at this; omega
            subst hi
            simp at hy
            subst hy
            simp only [World.cell?, hg7, Nat.zero_add, Option.isSome_none, Bool.false_eq_true, if_false]; rfl
          · intro v' w' o1 g1 e1
            exact ⟨_, rfl, o1, (Below.refl _ W).grown g1 z38 (fun b' e => (o38.rs.2 b' e).1)⟩
        · intro a W h2 h3 h4
          have e1 : OV wr.heap.size W (a.eval (.tmp 44)) (us ++ [.slice uad p.length ucp]) := RE.hpD h4 8 44 (by kernel_rfl) (.inr (by decide))
          exact RE.ob_val (v := a.eval (.tmp 44)) rfl (RE.wanted_none rfl) (fun ev he hc' => by have q := he (.tmp 44); simp only [List.getElem_toArray, List.getElem_cons_succ, List.getElem_cons_zero, execOp, Option.map_some, Option.map_none]; rw [q]; first | (go_simp; done) | (go_simp; rfl)) e1 rfl
        · intro a W h1 h2 h3 h4 h5
          have H12 : Hid (OV wr.heap.size W (a.eval (.tmp 12)) (us ++ [.slice uad p.length ucp])) := h5 9 _ rfl (by decide)
          have HBW : Hid (Below wr.heap.size wr W) := h3 (Nat.le_refl _)
          obtain ⟨v12, hv12⟩ : ∃ x, a.eval (.tmp 12) = x := ⟨_, rfl⟩
          rw [hv12] at H12
          obtain ⟨y36, hy36⟩ : ∃ x, a.eval (.tmp 36) = x := ⟨_, rfl⟩
          obtain ⟨y37, hy37⟩ : ∃ x, a.eval (.tmp 37) = x := ⟨_, rfl⟩
          obtain ⟨y38, hy38⟩ : ∃ x, a.eval (.tmp 38) = x := ⟨_, rfl⟩
          obtain ⟨y39, hy39⟩ : ∃ x, a.eval (.tmp 39) = x := ⟨_, rfl⟩
          obtain ⟨y40, hy40⟩ : ∃ x, a.eval (.tmp 40) = x := ⟨_, rfl⟩
          obtain ⟨y41, hy41⟩ : ∃ x, a.eval (.tmp 41) = x := ⟨_, rfl⟩
          obtain ⟨y42, hy42⟩ : ∃ x, a.eval (.tmp 42) = x := ⟨_, rfl⟩
          obtain ⟨y43, hy43⟩ : ∃ x, a.eval (.tmp 43) = x := ⟨_, rfl⟩
          obtain ⟨y44, hy44⟩ : ∃ x, a.eval (.tmp 44) = x := ⟨_, rfl⟩
          have ha := RE.act_of (a := a) (l := [_, _, _, _, _, _, _, _, _, _, _, _, v12, _, _, _, _, _, _, _, _, _, _, _, _, _, _, _, _, _, _, _, _, _, _, _, y36, y37, y38, y39, y40, y41, y42, y43, y44, _, _, _, _, _, _, _, _, _, _, _, _, _, _, _, _, _, _, _, _, _, _, _, _, _, _, _, _, _, _, _, _, _, _, _, _, _, _, _, _, _, _, _, _, _, _, _, _, _, _, _, _, _, _, _, _, _, _, _, _, _, _, _, _, _, _, _, _, _]) h1 h2 ⟨h4 0 (by kernel_rfl), h4 1 (by kernel_rfl), h4 2 (by kernel_rfl), h4 3 (by kernel_rfl), h4 4 (by kernel_rfl), h4 5 (by kernel_rfl), h4 6 (by kernel_rfl), h4 7 (by kernel_rfl), h4 8 (by kernel_rfl), h4 9 (by kernel_rfl), h4 10 (by kernel_rfl), h4 11 (by kernel_rfl), hv12, h4 13 (by kernel_rfl), h4 14 (by kernel_rfl), h4 15 (by kernel_rfl), h4 16 (by kernel_rfl), h4 17 (by kernel_rfl), h4 18 (by kernel_rfl), h4 19 (by kernel_rfl), h4 20 (by kernel_rfl), h4 21 (by kernel_rfl), h4 22 (by kernel_rfl), h4 23 (by kernel_rfl), h4 24 (by kernel_rfl), h4 25 (by kernel_rfl), h4 26 (by kernel_rfl), h4 27 (by kernel_rfl), h4 28 (by kernel_rfl), h4 29 (by kernel_rfl), h4 30 (by kernel_rfl), h4 31 (by kernel_rfl), h4 32 (by kernel_rfl), h4 33 (by kernel_rfl), h4 34 (by kernel_rfl), h4 35 (by kernel_rfl), hy36, hy37, hy38, hy39, hy40, hy41, hy42, hy43, hy44, h4 45 (by kernel_rfl), h4 46 (by kernel_rfl), h4 47 (by kernel_rfl), h4 48 (by kernel_rfl), h4 49 (by kernel_rfl), h4 50 (by kernel_rfl), h4 51 (by kernel_rfl), h4 52 (by kernel_rfl), h4 53 (by kernel_rfl), h4 54 (by kernel_rfl), h4 55 (by kernel_rfl), h4 56 (by kernel_rfl), h4 57 (by kernel_rfl), h4 58 (by kernel_rfl), h4 59 (by kernel_rfl), h4 60 (by kernel_rfl), h4 61 (by kernel_rfl), h4 62 (by kernel_rfl), h4 63 (by kernel_rfl), h4 64 (by kernel_rfl), h4 65 (by kernel_rfl), h4 66 (by kernel_rfl), h4 67 (by kernel_rfl), h4 68 (by kernel_rfl), h4 69 (by kernel_rfl), h4 70 (by kernel_rfl), h4 71 (by kernel_rfl), h4 72 (by kernel_rfl), h4 73 (by kernel_rfl), h4 74 (by kernel_rfl), h4 75 (by kernel_rfl), h4 76 (by kernel_rfl), h4 77 (by kernel_rfl), h4 78 (by kernel_rfl), h4 79 (by kernel_rfl), h4 80 (by kernel_rfl), h4 81 (by kernel_rfl), h4 82 (by kernel_rfl), h4 83 (by kernel_rfl), h4 84 (by kernel_rfl), h4 85 (by kernel_rfl), h4 86 (by kernel_rfl), h4 87 (by kernel_rfl), h4 88 (by kernel_rfl), h4 89 (by kernel_rfl), h4 90 (by kernel_rfl), h4 91 (by kernel_rfl), h4 92 (by kernel_rfl), h4 93 (by kernel_rfl), h4 94 (by kernel_rfl), h4 95 (by kernel_rfl), h4 96 (by kernel_rfl), h4 97 (by kernel_rfl), h4 98 (by kernel_rfl), h4 99 (by kernel_rfl), h4 100 (by kernel_rfl), h4 101 (by kernel_rfl), h4 102 (by kernel_rfl), h4 103 (by kernel_rfl), h4 104 (by kernel_rfl), h4 105 (by kernel_rfl), h4 106 (by kernel_rfl), h4 107 (by kernel_rfl), h4 108 (by kernel_rfl), h4 109 (by kernel_rfl), h4 110 (by kernel_rfl), h4 111 (by kernel_rfl), h4 112 (by kernel_rfl), h4 113 (by kernel_rfl), trivial⟩
          clear h5 h4 h3 hv12 hy36 hy37 hy38 hy39 hy40 hy41 hy42 hy43 hy44
          subst ha
          clear h1 h2
          simp only [Act.eval, Array.getD_eq_getD_getElem?, List.getElem?_toArray, List.getElem?_cons_succ, List.getElem?_cons_zero, Option.getD_some, Array.getInternal_eq_getElem, List.getElem_toArray, List.getElem_cons_succ, List.getElem_cons_zero]
          have W12 : Hid (Wt S W v12 (us ++ [.slice uad p.length ucp]) (l.rs ++ [p])) := W1.out.snoc (B0 := wr.heap.size) HSL.out UR.out UN.out (chg_of_below HBW.out) H12.out
          have L2 : Hid (Lg S w.heap.size w W g s lg l q) := LL1.out.below HBW.out
          have WW : Hid (Wt S W u10 us l.rs) := W1.out.nx (Nx.below HBW.out)
          clear LL1 W1 H12 HBW HSL UR HC UN
          obtain ⟨m3, hm3⟩ : ∃ m : Nat, k % 3 = m := ⟨_, rfl⟩
          have hm3' : (k : Int) % 3 = (m3 : Int) := by omega
          go_wp2_with fail
          refine (setFull_lg L2.out ((m3 : Int) == 2)).mono ?_
          rintro e W3 ⟨rfl, S3', h31, h32⟩
          have L3 : Hid (Lg S3' w.heap.size w W3 g { s with fu := ((m3 : Int) == 2) } lg l q) := h31
          have W12b : Hid (Wt S3' W3 v12 (us ++ [.slice uad p.length ucp]) (l.rs ++ [p])) := W12.out.nx h32
          have WWb : Hid (Wt S3' W3 u10 us l.rs) := WW.out.nx h32
          have hc3 : W3.cell? ⟨b, o + k, none⟩ = some (.slice uad p.length ucp) := (h31.bel.cell (p := ⟨b, o + k, none⟩) HLB.out).trans HC0.out
          have UR3 : Hid (Sq W3 (.slice uad p.length ucp) p) := ⟨HU.out.sl.below h31.bel (Nat.le_refl _), fun A l c e h0 => ⟨(HU.out.some' A l c e h0).1, Nat.lt_of_lt_of_le (HU.out.some' A l c e h0).2 h31.bs⟩, HU.out.none'⟩
          have UN3 : Hid (∀ b', slB (.slice uad p.length ucp) = some b' → b' < W3.heap.size ∧ ¬ S3' b') := fun b' e => ⟨Nat.lt_of_lt_of_le (HU.out.own e) h31.bs, fun x => by have h1 := HU.out.own e; have h2 := h31.lo b' x; omega⟩
          clear h31 h32 L2 W12 WW
          go_wp2_with fail
          refine (append_lg L3.out (by omega) p _ UR3.out HPY.out.1 UN3.out).mono ?_
          rintro e W4 ⟨z, s4, l4, q4, S4, rfl, h41, h42, h43, h44, h45, hap⟩
          have L4 : Hid (Lg S4 w.heap.size w W4 g s4 lg l4 q4) := h41
          have HN4 : Hid (s4.n = s.n) := h43
          have W12' : Hid (Wt S4 W4 v12 (us ++ [.slice uad p.length ucp]) (l.rs ++ [p])) := W12b.out.nx h42
          have WW' : Hid (Wt S4 W4 u10 us l.rs) := WWb.out.nx h42
          have HR4 : Hid (l4.rs.length ≤ 999999998) := by
            show _ ≤ _
            obtain ⟨h1, h2, -⟩ := h41.sby
            exact h41.li.rsl h1 h2
          have hc4 : W4.cell? ⟨b, o + k, none⟩ = some (.slice uad p.length ucp) := (h41.bel.cell (p := ⟨b, o + k, none⟩) HLB.out).trans HC0.out
          have HRK : Hid (l.rs.length ≤ 999999998 ∧ Rok l.rs) := by
            show _ ∧ _
            obtain ⟨h1, h2, -⟩ := L3.out.sby
            exact ⟨L3.out.li.rsl h1 h2, L3.out.li.rok⟩
          have hl2 := HPY.out.2
          clear h41 h42 h43 h44 L3 W12b WWb UR3 UN3 hc3
          cases hap with
          | ok hz hrs hfu hp6 =>
            subst hz
            have hm2 : ¬ ((m3 : Int) = 2) := by
              intro e
              have hfu' : (((m3 : Int)) == 2) = false := hfu
              rw [e] at hfu'; cases hfu'
            have WT : Hid (Wt S4 W4 v12 (us ++ [.slice uad p.length ucp]) l4.rs) := by show Wt _ _ _ _ _; rw [hrs]; exact W12'.out
            clear hfu hrs
            go_wp2_with fail
            refine (records_lg L4.out).mono ?_
            rintro e W5 ⟨v5, S5, us5, B5, rfl, h51, h52, h53⟩
            have L5 : Hid (Lg S5 w.heap.size w W5 g s4 lg l4 q4) := h51
            have N5 : Hid (Nx S4 _ S5 W5) := h52
            have O5 : Hid (OL B5 W5 v5 us5 l4.rs) := h53
            clear h51 h52 h53
            go_wp2_with fail
            refine (sameList_same l4.rs _ _ W5 O5.out.ll (WT.out.nx N5.out).ll (by have := HR4.out; omega)).mono ?_
            rintro e W6 ⟨rfl, h6⟩
            have B6 : Hid (Below W5.heap.size W5 W6) := h6
            clear h6
            go_wp2_with fail
            exact ⟨⟨k + 1, us ++ [.slice uad p.length ucp], s4, l4, q4, S5, hlt2, by go_num, L5.out.below B6.out, (WT.out.nx N5.out).nx (Nx.below B6.out), by rw [HN4.out]; exact hsn, by omega⟩, by simp [intOf]; omega⟩
          | full hz hrs hp6 hor =>
            subst hz
            have WT : Hid (Wt S4 W4 u10 us l4.rs) := by show Wt _ _ _ _ _; rw [hrs]; exact WW'.out
            have HZ : Hid (szr (l.rs ++ [p]) ≤ 140737488355328) := by
              show _ ≤ _
              have h1 := HRK.out.1
              have h2 := js_rok HRK.out.2
              have h3 := js_szr l.rs
              rw [szr_app]
              simp only [szr]
              omega
            by_cases hm2 : (m3 : Int) = 2
            · have hm2' : (k : Int) % 3 = 2 := by omega
              clear hor hrs
              go_wp2_with fail
              refine (records_lg L4.out).mono ?_
              rintro e W5 ⟨v5, S5, us5, B5, rfl, h51, h52, h53⟩
              have L5 : Hid (Lg S5 w.heap.size w W5 g s4 lg l4 q4) := h51
              have N5 : Hid (Nx S4 _ S5 W5) := h52
              have O5 : Hid (OL B5 W5 v5 us5 l4.rs) := h53
              clear h51 h52 h53
              go_wp2_with fail
              refine (sameList_same l4.rs _ _ W5 O5.out.ll (WT.out.nx N5.out).ll (by have := HR4.out; omega)).mono ?_
              rintro e W6 ⟨rfl, h6⟩
              have B6 : Hid (Below W5.heap.size W5 W6) := h6
              clear h6
              go_wp2_with fail
              exact ⟨⟨k + 1, us, s4, l4, q4, S5, hlt2, by go_num, L5.out.below B6.out, (WT.out.nx N5.out).nx (Nx.below B6.out), by rw [HN4.out]; exact hsn, by omega⟩, by simp [intOf]; omega⟩
            · have hroom : decide (szr (l.rs ++ [p]) ≤ (n / 2 - 8) * 32) = false := by
                refine decide_eq_false ?_
                rcases hor with x | x
                · have x' : ((m3 : Int) == 2) = true := x
                  exact absurd (eq_of_beq x') hm2
                · intro hr
                  refine x ?_
                  show szr (l.rs ++ [p]) ≤ (s.n / 2 - 8) * 32
                  rw [hsn]; exact hr
              clear hor hrs
              go_wp2_with fail
              refine (room_any (l.rs ++ [p]) n _ W4 W12'.out.ll (by have := HZ.out; omega) (by omega)).mono ?_
              rintro e W4' ⟨rfl, hw4⟩
              subst hw4
              rw [hroom]
              go_wp2_with fail
              refine (records_lg L4.out).mono ?_
              rintro e W5 ⟨v5, S5, us5, B5, rfl, h51, h52, h53⟩
              have L5 : Hid (Lg S5 w.heap.size w W5 g s4 lg l4 q4) := h51
              have N5 : Hid (Nx S4 _ S5 W5) := h52
              have O5 : Hid (OL B5 W5 v5 us5 l4.rs) := h53
              clear h51 h52 h53
              go_wp2_with fail
              refine (sameList_same l4.rs _ _ W5 O5.out.ll (WT.out.nx N5.out).ll (by have := HR4.out; omega)).mono ?_
              rintro e W6 ⟨rfl, h6⟩
              have B6 : Hid (Below W5.heap.size W5 W6) := h6
              clear h6
              go_wp2_with fail
              exact ⟨⟨k + 1, us, s4, l4, q4, S5, hlt2, by go_num, L5.out.below B6.out, (WT.out.nx N5.out).nx (Nx.below B6.out), by rw [HN4.out]; exact hsn, by omega⟩, by simp [intOf]; omega⟩
          | large hz hrs hp6 =>
            subst hz
            have WT : Hid (Wt S4 W4 u10 us l4.rs) := by show Wt _ _ _ _ _; rw [hrs]; exact WW'.out
            have hpl : ¬ ((p.length : Int) ≤ 65536) := by omega
            clear hrs
            go_wp2_with fail
            refine (records_lg L4.out).mono ?_
            rintro e W5 ⟨v5, S5, us5, B5, rfl, h51, h52, h53⟩
            have L5 : Hid (Lg S5 w.heap.size w W5 g s4 lg l4 q4) := h51
            have N5 : Hid (Nx S4 _ S5 W5) := h52
            have O5 : Hid (OL B5 W5 v5 us5 l4.rs) := h53
            clear h51 h52 h53
            go_wp2_with fail
            refine (sameList_same l4.rs _ _ W5 O5.out.ll (WT.out.nx N5.out).ll (by have := HR4.out; omega)).mono ?_
            rintro e W6 ⟨rfl, h6⟩
            have B6 : Hid (Below W5.heap.size W5 W6) := h6
            clear h6
            go_wp2_with fail
            exact ⟨⟨k + 1, us, s4, l4, q4, S5, hlt2, by go_num, L5.out.below B6.out, (WT.out.nx N5.out).nx (Nx.below B6.out), by rw [HN4.out]; exact hsn, by omega⟩, by simp [intOf]; omega⟩
    · obtain rfl : k = xss.length := by omega
      go_wp2_with fail
      refine (opened_lg LL1.out _).mono ?_
      rintro e W4 ⟨lg', rfl, S4, h41, h42⟩
      have L4 : Hid (Lg S4 w.heap.size w W4 g s lg' l q) := h41
      have WT : Hid (Wt S4 W4 u10 us l.rs) := W1.out.nx h42
      have HR4 : Hid (l.rs.length ≤ 999999998) := by
        show _ ≤ _
        obtain ⟨h1, h2, -⟩ := h41.sby
        exact h41.li.rsl h1 h2
      clear h41 h42 LL1 W1
      go_wp2_with (first
        | (go_at_call 17; refine (records_lg L4.out).mono ?_; rintro e W5 ⟨v5, S5, us5, B5, rfl, h51, h52, h53⟩; have L5 : Hid (Lg S5 w.heap.size w W5 g s lg' l q) := h51; have N5 : Hid (Nx S4 W4 S5 W5) := h52; have O5 : Hid (OL B5 W5 v5 us5 l.rs) := h53; clear h51 h52 h53)
        | (go_at_call 16; refine (sameList_same l.rs _ _ W5 O5.out.ll (WT.out.nx N5.out).ll (by have := HR4.out; omega)).mono ?_; rintro e W6 ⟨rfl, h6⟩; have B6 : Hid (Below W5.heap.size W5 W6) := h6; clear h6))
      go_ret
      exact ⟨rfl, L5.out.bel.trans (B6.out.mono L5.out.bs)⟩
end Go.Proofs.YthfpakjfdncphaaDoor
