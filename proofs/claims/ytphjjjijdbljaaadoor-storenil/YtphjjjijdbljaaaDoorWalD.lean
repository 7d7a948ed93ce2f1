/- Rows of sectors; cut. -/
import Derived.Test.YtphjjjijdbljaaaDoorWalC
import Derived.Great.BuildSlice
namespace Go.Proofs.YtphjjjijdbljaaaDoor
open Go Go.RowKit
set_option linter.unusedSimpArgs false
set_option linter.unusedVariables false
set_option maxRecDepth 100000

/-- Sectors, as cells. -/
def scs (l : List (List Int)) : List Value := (l.map bv).flatten
def Sok (l : List (List Int)) : Prop := ∀ x ∈ l, x.length = 64
theorem scs_snoc (l : List (List Int)) (x : List Int) : scs (l ++ [x]) = scs l ++ bv x := by simp [scs]
theorem scs_length : ∀ {l : List (List Int)}, Sok l → (scs l).length = l.length * 64
  | [], _ => rfl
  | x :: l, h => by
    have h1 : (bv x).length = 64 := by rw [bv_length]; exact h x (by simp)
    have h2 := scs_length (l := l) (fun q hq => h q (by simp [hq]))
    have : scs (x :: l) = bv x ++ scs l := by simp [scs]
    rw [this, List.length_append, h1, h2, List.length_cons]; omega
theorem scs_get : ∀ {l : List (List Int)} {i : Nat}, Sok l → i < l.length → ∀ j, j < 64 → (scs l)[i * 64 + j]? = (bv (mi l i))[j]?
  | [], _, _, h, _, _ => by simp at h
  | x :: l, i, hw, h, j, hj => by
    have h1 : (bv x).length = 64 := by rw [bv_length]; exact hw x (by simp)
    have e : scs (x :: l) = bv x ++ scs l := by simp [scs]
    rw [e]
    cases i with
    | zero =>
      rw [Nat.zero_mul, Nat.zero_add, List.getElem?_append_left (by omega)]; rfl
    | succ i =>
      simp at h
      rw [List.getElem?_append_right (by omega), h1, show (i + 1) * 64 + j - 64 = i * 64 + j by omega]
      exact scs_get (l := l) (fun q hq => hw q (by simp [hq])) h j hj
theorem scs_one (l : List (List Int)) : ∀ u ∈ scs l, u.oneCell' = true := by
  intro u hu
  unfold scs at hu
  rw [List.mem_flatten] at hu
  obtain ⟨x, hx, hu⟩ := hu
  obtain ⟨y, _, rfl⟩ := List.mem_map.1 hx
  exact bv_one _ u hu
/-- A slice of sectors. -/
def SS (w : World) (v : Value) (xss : List (List Int)) : Prop :=
  ∃ b cap, v = .slice (some ⟨b, 0, none⟩) xss.length cap ∧ xss.length ≤ cap ∧ b < w.heap.size ∧ Sok xss ∧ ∀ i, i < xss.length → w.rangeAt b (i * 64) (bv (mi xss i))
theorem SS.keep {w w' : World} {v : Value} {xss : List (List Int)} (h : SS w v xss) (hs : w.heap.size ≤ w'.heap.size) (k : ∀ b, v.ownBlock = some b → w'.heap[b]? = w.heap[b]?) : SS w' v xss := by
  obtain ⟨b, cap, rfl, h1, h2, h3, h4⟩ := h
  exact ⟨b, cap, rfl, h1, Nat.lt_of_lt_of_le h2 hs, h3, fun i hi j u hu => (World.cell?_of_block (w := w) (w' := w') (a := ⟨b, i * 64 + j, none⟩) (k b rfl)).trans (h4 i hi j u hu)⟩
/-- A row of sectors of the call's own. -/
structure OS (B0 : Nat) (w : World) (v : Value) (xss : List (List Int)) : Prop where
  row : w.ownsRow B0 67 64 v xss.length (scs xss)
  ok : Sok xss
  nn : ∃ a l c, v = .slice (some a) l c
theorem OS.ss {B0 : Nat} {w : World} {v : Value} {xss : List (List Int)} (h : OS B0 w v xss) : SS w v xss ∧ ∀ b, v.ownBlock = some b → B0 ≤ b := by
  rcases h.row.2 with ⟨rfl, h0⟩ | ⟨g, cap, cur, hv, hb, hg, hc, hm, hs, ht⟩
  · obtain ⟨a, l, c, e⟩ := h.nn; cases e
  · refine ⟨⟨g, cap, hv, hc, (Array.getElem?_eq_some_iff.1 hg).1, h.ok, fun i hi j u hu => ?_⟩, fun b e => by rw [hv] at e; simp [Value.ownBlock] at e; omega⟩
    have hj : j < 64 := by
      have := (List.getElem?_eq_some_iff.1 hu).1
      rw [bv_length, h.ok _ (by rw [mi_get hi]; exact List.getElem_mem _)] at this; exact this
    have e := scs_get h.ok hi j hj
    rw [hu, ← ht, List.getElem?_take, if_pos (by omega), Array.getElem?_toList] at e
    rw [cell_of_row w g _ cur _ _ hg]; exact e
theorem OS.alloc {B0 : Nat} {w : World} {v : Value} {xss : List (List Int)} (h : OS B0 w v xss) (o : Obj) : OS B0 (w.alloc o) v xss := ⟨World.ownsRow.alloc h.row o, h.ok, h.nn⟩
theorem info_sct : ∃ i, Tryd.prog.info? 67 = some i ∧ i.zero = some (.agg (bv z64).toArray) ∧ i.size = 64 ∧ i.bytes = 64 := by
  have h1 : (Tryd.prog.info? 67).map (·.size) = some 64 := by kernel_rfl
  have h2 : (Tryd.prog.info? 67).map (·.bytes) = some 64 := by kernel_rfl
  have h3 : (Tryd.prog.info? 67).map (·.zero) = some (some (.agg (bv z64).toArray)) := by kernel_rfl
  cases hq : Tryd.prog.info? 67 with
  | none => rw [hq] at h1; cases h1
  | some i =>
    rw [hq] at h1 h2 h3
    exact ⟨i, rfl, Option.some.inj h3, Option.some.inj h1, Option.some.inj h2⟩
/-- The literal of one sector. -/
theorem run_one (w : World) (x : List Int) (hx : x.length = 64) : (Instr.buildSlice 123 1 #[(0, .agg (bv x).toArray)]).run Tryd.prog w = .ok (.slice (some ⟨w.heap.size, 0, none⟩) 1 1) (w.alloc (.cells (bv x).toArray 67)) := by
  obtain ⟨i, hi, hz, hs, hb⟩ := info_sct
  have h1 : (bv x).length = 64 := by rw [bv_length, hx]
  refine run_buildSlice w 123 67 1 _ (bv x).toArray i _ Tryd.underlying123 hi hz (by omega) (by omega) ?_
  have := _root_.Go.Great.fill_whole (s := i.size) (by omega) [.agg (bv x).toArray] ((Array.range (1 * i.size)).map ((Value.agg (bv z64).toArray).cells[· % (Value.agg (bv z64).toArray).cells.size]!)) (by intro v hv; simp at hv; subst hv; simp [Value.cells, hs, h1]) (by simp)
  simpa [Value.cells] using this
theorem wpList_one {ops : Array Oper} {rest : List Oper} {o : Oper} {a : Act} {w : World} {Q : Exit → Act → World → Prop} (hg : o.guard = none) (y : Operand) (ho : o.op = .buildSlice 123 1 #[(0, y)]) (x : List Int) (hx : x.length = 64) (hy : a.eval y = .agg (bv x).toArray)
    (h : wpList Tryd.prog ops Q rest (a.put o.dst (.slice (some ⟨w.heap.size, 0, none⟩) 1 1)) (w.alloc (.cells (bv x).toArray 67))) : wpList Tryd.prog ops Q (o :: rest) a w := by
  refine wpList_plain hg fun K hK => ?_
  have hr := run_one w x hx
  unfold Oper.wp
  simp only [execOp, ho, List.map_toArray, List.map_cons, List.map_nil, hy, Sem.run_bind, hr, Result.andThen_ok, Sem.run_pure]
  exact hK _ _ h
/-- append of one sector onto a row of the call's own. -/
theorem app_sct {ops : Array Oper} {rest : List Oper} {o : Oper} {a : Act} {Q : Exit → Act → World → Prop} {B0 : Nat} {w : World} (hgd : o.guard = none) (s y : Operand) (ho : o.op = .call { callee := .builtin .append, args := #[s, y], argTypes := #[123, 123] })
    (hB : B0 ≤ w.heap.size) (v : Value) (xss : List (List Int)) (hs : a.eval s = v) (h0 : OS B0 w v xss) (x : List Int) (hx : x.length = 64) (g c : Nat) (hy : a.eval y = .slice (some ⟨g, 0, none⟩) 1 c) (hg : w.rangeAt g 0 (bv x)) (hk : (xss.length + 1) * 64 ≤ 140737488355328)
    (h : ∀ v' w', OS B0 w' v' (xss ++ [x]) → w.grownBy w' v.ownBlock → Below B0 w w' → (v'.ownBlock = v.ownBlock ∨ v'.ownBlock = some w.heap.size) → wpList Tryd.prog ops Q rest (a.put o.dst v') w') : wpList Tryd.prog ops Q (o :: rest) a w := by
  obtain ⟨i, hi, hz, hsz, hby⟩ := info_sct
  refine wpList_append_own_at w hgd s y 123 ho B0 67 i (.agg (bv z64).toArray) 64 64 Tryd.underlying123 hi hz hsz hby (by simp [Value.cells, bv_length, z64_length]) (by decide) v xss.length (scs xss) hs h0.row ⟨g, 0, none⟩ 1 c (bv x) hy (by rw [bv_length, hx]) (fun j u hu => ?_) (bv_one _) (by unfold maxLen; omega) (by omega) hB ?_
  · rw [addr_add0]; exact hg j u hu
  · intro v' w' h1 h2 h3 h4
    refine h v' w' ⟨?_, ?_, ?_⟩ h2 ((Below.refl B0 w).grown h2 hB (fun b hb => h0.ss.2 b hb)) h4
    · rw [List.length_append, scs_snoc]; exact h1
    · intro q hq
      rcases List.mem_append.1 hq with hq | hq
      · exact h0.ok q hq
      · rw [List.mem_singleton.1 hq]; exact hx
    · rcases h1.2 with ⟨hn, _⟩ | ⟨g', cap, cur, hv, _⟩
      · exact absurd (h3.1 hn).2 (by decide)
      · exact ⟨_, _, _, hv⟩
/-- copy of bytes into a block of bytes, in a plain region. -/
theorem wpList_copy_bv {ops : Array Oper} {rest : List Oper} {o : Oper} {a : Act} {w : World} {Q : Exit → Act → World → Prop} (hgd : o.guard = none) (d s : Operand)
    (ho : o.op = .call { callee := .builtin .copy, args := #[d, s], argTypes := #[71, 71] }) (g off dl dc : Nat) (b so sl sc : Nat) (hd : a.eval d = .slice (some ⟨g, off, none⟩) dl dc) (hs : a.eval s = .slice (some ⟨b, so, none⟩) sl sc)
    (ys : List Int) (t : TypeId) (hg : w.heap[g]? = some (.cells (bv ys).toArray t (0, 0))) (xs : List Int) (hn : xs.length = Nat.min sl dl) (hx : ∀ i, i < xs.length → w.cell? ⟨b, so + i, none⟩ = some (.int .u8 (gi xs i))) (hfit : off + xs.length ≤ ys.length)
    (h : ∀ w', w.grownBy w' (some g) → w'.heap.size = w.heap.size → w'.heap[g]? = some (.cells (bv (ys.take off ++ (xs ++ ys.drop (off + xs.length)))).toArray t (0, 0)) → wpList Tryd.prog ops Q rest (a.put o.dst (.int .i64 (xs.length : Int))) w') : wpList Tryd.prog ops Q (o :: rest) a w :=
  wpList_plain hgd fun K hK => wp_copy_bv d s ho g off dl dc b so sl sc hd hs ys t hg xs hn hx hfit (fun w' h1 h2 h3 => hK _ _ (h w' h1 h2 h3))
/-- A payload's sectors. -/
def sec (p : List Int) (k : Nat) : List Int := (p.drop (64 * k)).take 64 ++ List.replicate (64 - (p.length - 64 * k)) 0
def cuts (p : List Int) (k : Nat) : List (List Int) := (List.range k).map (sec p)
def nsec (n : Nat) : Nat := (n + 63) / 64
theorem sec_length (p : List Int) (k : Nat) : (sec p k).length = 64 := by
  unfold sec; simp; omega
theorem cuts_length (p : List Int) (k : Nat) : (cuts p k).length = k := by simp [cuts]
theorem cuts_succ (p : List Int) (k : Nat) : cuts p (k + 1) = cuts p k ++ [sec p k] := by simp [cuts, List.range_succ]
theorem cuts_mi (p : List Int) {k i : Nat} (h : i < k) : mi (cuts p k) i = sec p i := by
  rw [mi_get (by rw [cuts_length]; exact h)]; simp [cuts]
theorem cuts_ok (p : List Int) (k : Nat) : Sok (cuts p k) := by
  intro x hx
  obtain ⟨i, _, rfl⟩ := List.mem_map.1 hx
  exact sec_length p i
def lenOf : Value → Nat
  | .slice _ l _ => l
  | _ => 0
theorem OS.keep {B0 : Nat} {w w' : World} {v : Value} {xss : List (List Int)} (h : OS B0 w v xss) (k : ∀ b, v.ownBlock = some b → w'.heap[b]? = w.heap[b]?) : OS B0 w' v xss := by
  refine ⟨⟨h.row.1, ?_⟩, h.ok, h.nn⟩
  rcases h.row.2 with h1 | ⟨g, cap, cur, rfl, hb, hg, hc⟩
  · exact .inl h1
  · exact .inr ⟨g, cap, cur, rfl, hb, by rw [k g rfl]; exact hg, hc⟩
theorem OS.lt {B0 : Nat} {w : World} {v : Value} {xss : List (List Int)} (h : OS B0 w v xss) : ∀ b, v.ownBlock = some b → b < w.heap.size := fun b e => (h.row.lt b e).2
/-- Within cut. -/
structure CR (w wr : World) (v : Value) (p : List Int) (k : Nat) : Prop where
  below : Below w.heap.size w wr
  own : OS w.heap.size wr v (cuts p k)
theorem CR.copied {w wr W1 : World} {v : Value} {p : List Int} {k : Nat} {ob : Obj} (h : CR w wr v p k) (hg : (wr.alloc ob).grownBy W1 (some wr.heap.size)) : CR w W1 v p k := by
  have hb := h.below.trans (((Below.refl wr.heap.size wr).alloc (Nat.le_refl _) ob).mono h.below.size)
  refine ⟨hb.grown hg hb.size (fun b e => by cases e; exact h.below.size), h.own.keep fun b e => ?_⟩
  have hlt := h.own.lt b e
  rw [hg.block b (by simp; omega) (fun e' => by have h1 : b = wr.heap.size := Option.some.inj e'; omega)]
  exact ((Below.refl wr.heap.size wr).alloc (Nat.le_refl _) ob).block b hlt
theorem range_whole {W : World} {g : Nat} {x : List Int} {t : TypeId} (h : W.heap[g]? = some (.cells (bv x).toArray t (0, 0))) : W.rangeAt g 0 (bv x) := fun j u hu => by
  rw [cell_of_row W _ _ _ _ _ h, Nat.zero_add, List.getElem?_toArray]; exact hu
set_option maxHeartbeats 2000000 in
theorem cut_any (p : List Int) (ad : Option Addr) (cap : Nat) (w : World) (hl : p.length ≤ 1099511627776) (hv : Sq w (.slice ad p.length cap) p) :
    Calls Tryd.prog 78 #[.slice ad p.length cap] w fun e w' => ∃ v, e = .returned v ∧ OS w.heap.size w' v (cuts p (nsec p.length)) ∧ Below w.heap.size w w' := by
  have hz := zero_sct
  have HL : Hid (p.length ≤ 1099511627776) := hl
  have gl : (p.length : Int) ≤ 1099511627776 := by omega
  have src : p.length ≤ cap ∧ (0 < p.length → ∃ b o, ad = some ⟨b, o, none⟩ ∧ b < w.heap.size ∧ ∀ i, i < p.length → w.cell? ⟨b, o + i, none⟩ = some (.int .u8 (gi p i))) := by
    obtain ⟨ad', cap', e, hc, hcell⟩ := hv.sl
    cases e
    refine ⟨hc, fun h => ?_⟩
    rcases hcell with ⟨rfl, _⟩ | ⟨b, o, rfl, hlt, hm⟩
    · simp at h
    · exact ⟨b, o, rfl, hlt, hm⟩
  have HSRC : Hid (p.length ≤ cap ∧ (0 < p.length → ∃ b o, ad = some ⟨b, o, none⟩ ∧ b < w.heap.size ∧ ∀ i, i < p.length → w.cell? ⟨b, o + i, none⟩ = some (.int .u8 (gi p i)))) := src
  clear hv src
  go_enter Tryd.func78, Tryd.ntmps78
  go_wp2_with fail
  refine (frameLength_any p.length w (by have := HL.out; omega)).mono ?_
  rintro e w0 ⟨rfl, rfl⟩
  obtain ⟨c0, hc0⟩ : ∃ c, c = fl p.length := ⟨_, rfl⟩
  have hc0b : c0 ≤ 34359738369 := by rw [hc0]; unfold fl; omega
  rw [← hc0]
  clear hc0
  go_wp2_with (at_make; obtain ⟨i, hi, hzz, hsz, hby⟩ := info_sct; refine wpList_make_own w0 rfl _ _ 123 rfl w0.heap.size 67 i _ 64 Tryd.underlying123 hi hzz hsz _ _ _ c0 rfl rfl rfl (by rw [hby]; omega) (by unfold maxLen; omega) (Nat.le_refl _) ?_; intro w1 h1 h2; clear hi hzz hsz hby; have HR0 : Hid (CR w0 w1 (.slice (some ⟨w0.heap.size, 0, none⟩) 0 c0) p 0) := ⟨(Below.refl _ w0).grown h2 (Nat.le_refl _) (fun b e => by cases e), ⟨h1, cuts_ok p 0, ⟨_, _, _, rfl⟩⟩⟩; clear h1 h2)
  go_loopw [0, 3] (fun x v wr => ∃ (k r c : Nat) (A : Option Addr), r = p.length - 64 * k ∧ (k = 0 ∨ 64 * (k - 1) < p.length) ∧ r ≤ c ∧ x = .slice A r c ∧ (0 < r → ∃ b o, A = some ⟨b, o, none⟩ ∧ b < w0.heap.size ∧ ∀ i, i < r → w0.cell? ⟨b, o + i, none⟩ = some (.int .u8 (gi p (64 * k + i)))) ∧ CR w0 wr v p k) (fun x _ _ => lenOf x)
  case atStart => exact ⟨0, p.length, cap, ad, by omega, .inl rfl, HSRC.out.1, rfl, by simpa using HSRC.out.2, HR0.out⟩
  case round =>
    obtain ⟨k, r, c, A, hr, hk, hrc, rfl, hsr, hcr⟩ := hrel
    have HR : Hid (CR w0 wr _ p k) := hcr
    have HK : Hid (r = p.length - 64 * k ∧ (k = 0 ∨ 64 * (k - 1) < p.length)) := ⟨hr, hk⟩
    have hrb : r ≤ 1099511627776 := by omega
    clear hcr hr hk HR0 HSRC
    by_cases h0 : 0 < r
    · have g0 : (r : Int) > 0 := by omega
      obtain ⟨b, o, rfl, hblt, hcell⟩ := hsr h0
      have HC : Hid (∀ i, i < r → w0.cell? ⟨b, o + i, none⟩ = some (.int .u8 (gi p (64 * k + i)))) := hcell
      clear hcell hsr
      obtain ⟨q, hq⟩ : ∃ q, q = Nat.min r 64 := ⟨_, rfl⟩
      have hq1 : q ≤ r ∧ q ≤ 64 ∧ 0 < q ∧ (q = r ∨ q = 64) := by rw [hq]; show min r 64 ≤ r ∧ min r 64 ≤ 64 ∧ 0 < min r 64 ∧ (min r 64 = r ∨ min r 64 = 64); omega
      have gq1 : (q : Int) ≤ (r : Int) := by omega
      have gq0 : (0 : Int) ≤ (q : Int) := by omega
      obtain ⟨xs, hxs⟩ : ∃ xs, xs = (p.drop (64 * k)).take 64 := ⟨_, rfl⟩
      have hxl : xs.length = q := by rw [hxs, hq]; show _ = min r 64; rw [List.length_take, List.length_drop, ← HK.out.1]; omega
      have HX : Hid (∀ i, i < xs.length → gi xs i = gi p (64 * k + i)) := fun i hi => by rw [hxs, gi_take (by omega), gi_drop]
      have HSEC : Hid (z64.take 0 ++ (xs ++ z64.drop (0 + xs.length)) = sec p k) := by
        show _ = sec p k
        unfold sec
        rw [List.take_zero, List.nil_append, ← hxs, Nat.zero_add, z64, List.drop_replicate, hxl]
        congr 2
        have := HK.out.1
        omega
      have sl0 := fun w1 => Sh.sliceAt_all w1 67 5 64 wr.heap.size 0 Tryd.underlying67 size_u8'
      have HLQ : Hid (xs.length = Nat.min r 64) := by rw [hxl]; exact hq
      have HN0 : Hid ((wr.alloc (.cells (bv z64).toArray 67)).heap[wr.heap.size]? = some (.cells (bv z64).toArray 67 (0, 0))) := by show (wr.heap.push _)[wr.heap.size]? = _; simp
      have HCC : Hid (∀ i, i < xs.length → (wr.alloc (.cells (bv z64).toArray 67)).cell? ⟨b, o + i, none⟩ = some (.int .u8 (gi xs i))) := fun i hi => by
        have hb0 := HR.out.below.trans (((Below.refl wr.heap.size wr).alloc (Nat.le_refl _) (.cells (bv z64).toArray 67)).mono HR.out.below.size)
        rw [hb0.cell (p := ⟨b, o + i, none⟩) hblt, HC.out i (by omega), HX.out i hi]
      clear hxs hq
      have hxb : xs.length ≤ 64 := by omega
      have hpl := HL.out
      by_cases hcq : c = q
      · subst hcq
        go_wp2_with (first
          | (refine wpList_copy_bv rfl (.tmp 13) (.tmp 14) rfl wr.heap.size 0 64 64 b o r c rfl rfl z64 _ HN0.out xs HLQ.out HCC.out (by rw [z64_length]; omega) ?_; intro W1 g1 g2 g3; rw [HSEC.out] at g3; have C1 : Hid (CR w0 W1 _ p k) := HR.out.copied g1; have R1 : Hid (W1.rangeAt wr.heap.size 0 (bv (sec p k))) := range_whole g3; clear g1 g2 g3; rw [hxl])
          | (refine wpList_load_mid rfl 67 _ rfl wr.heap.size 0 rfl (bv (sec p k)) _ R1.out Tryd.underlying67 rfl (by rw [bv_length, sec_length]; exact size_sct) ?_)
          | (refine wpList_one rfl (.tmp 18) rfl (sec p k) (sec_length p k) rfl ?_)
          | (at_builtin; refine app_sct rfl (.tmp 17) (.tmp 19) rfl (by have h1 := C1.out.below.size; show w0.heap.size ≤ (W1.alloc _).heap.size; simp; omega) _ (cuts p k) rfl (C1.out.own.alloc _) (sec p k) (sec_length p k) W1.heap.size 1 rfl (rangeAt_alloc W1 _ _) (by rw [cuts_length]; have h1 := HK.out.2; omega) ?_; intro v2 W2 o2 g2 b2 e2; have C2 : Hid (CR w0 W2 v2 p (k + 1)) := ⟨(C1.out.below.alloc C1.out.below.size _).trans b2, by rw [cuts_succ]; exact o2⟩; clear o2 g2 b2 e2))
        go_roundw
        case rel => exact ⟨k + 1, r - c, 0, some ⟨b, o, none⟩, by have := HK.out.1; omega, .inr (by have := HK.out.1; omega), by omega, by first | rfl | (congr 1; omega), fun h => by omega, C2.out⟩
        case measure => simp [lenOf]; omega
      · skip
        go_wp2_with (first
          | (refine wpList_copy_bv rfl (.tmp 13) (.tmp 14) rfl wr.heap.size 0 64 64 b o r c rfl rfl z64 _ HN0.out xs HLQ.out HCC.out (by rw [z64_length]; omega) ?_; intro W1 g1 g2 g3; rw [HSEC.out] at g3; have C1 : Hid (CR w0 W1 _ p k) := HR.out.copied g1; have R1 : Hid (W1.rangeAt wr.heap.size 0 (bv (sec p k))) := range_whole g3; clear g1 g2 g3; rw [hxl])
          | (refine wpList_load_mid rfl 67 _ rfl wr.heap.size 0 rfl (bv (sec p k)) _ R1.out Tryd.underlying67 rfl (by rw [bv_length, sec_length]; exact size_sct) ?_)
          | (refine wpList_one rfl (.tmp 18) rfl (sec p k) (sec_length p k) rfl ?_)
          | (at_builtin; refine app_sct rfl (.tmp 17) (.tmp 19) rfl (by have h1 := C1.out.below.size; show w0.heap.size ≤ (W1.alloc _).heap.size; simp; omega) _ (cuts p k) rfl (C1.out.own.alloc _) (sec p k) (sec_length p k) W1.heap.size 1 rfl (rangeAt_alloc W1 _ _) (by rw [cuts_length]; have h1 := HK.out.2; omega) ?_; intro v2 W2 o2 g2 b2 e2; have C2 : Hid (CR w0 W2 v2 p (k + 1)) := ⟨(C1.out.below.alloc C1.out.below.size _).trans b2, by rw [cuts_succ]; exact o2⟩; clear o2 g2 b2 e2))
        go_roundw
        case rel => exact ⟨k + 1, r - q, c - q, some ⟨b, o + q, none⟩, by have := HK.out.1; omega, .inr (by have := HK.out.1; omega), by omega, rfl, fun h => ⟨b, o + q, rfl, hblt, fun i hi => by rw [Nat.add_assoc, HC.out _ (by omega)]; congr 2; congr 1; omega⟩, C2.out⟩
        case measure => simp [lenOf]; omega
    · obtain rfl : r = 0 := by omega
      go_wp2
      go_ret
      have hk : nsec p.length = k := by have h1 := HK.out.1; have h2 := HK.out.2; unfold nsec; omega
      exact ⟨_, rfl, by rw [hk]; exact HR.out.own, HR.out.below⟩
end Go.Proofs.YtphjjjijdbljaaaDoor
