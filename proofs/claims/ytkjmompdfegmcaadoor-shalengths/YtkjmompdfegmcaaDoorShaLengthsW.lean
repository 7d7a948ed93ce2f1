/- The walk of ShaLengths. -/
import Derived.Test.YtkjmompdfegmcaaDoorQ5E
import Derived.OwnWalk
namespace Go.Proofs.YtkjmompdfegmcaaDoor
open Go Go.RowKit
set_option linter.unusedSimpArgs false
set_option linter.unusedVariables false

/-- The row that is filled, up to k. -/
def lf (C : BitVec 8) (k i : Nat) : BitVec 8 := if i < k then C + BitVec.ofNat 8 i else 0
structure LR (w W : World) (g N : Nat) (f : Nat → BitVec 8) : Prop where
  below : Below w.heap.size w W
  pos : w.heap.size ≤ g
  row : W.heap[g]? = some (.cells (brow N f) 5 (0, 0))
theorem LR.glt {w W : World} {g N : Nat} {f : Nat → BitVec 8} (h : LR w W g N f) : g < W.heap.size := (Array.getElem?_eq_some_iff.1 h.row).1
theorem LR.more {w W W' : World} {g N : Nat} {f : Nat → BitVec 8} (h : LR w W g N f) (hb : Below W.heap.size W W') : LR w W' g N f :=
  ⟨h.below.trans (hb.mono h.below.size), h.pos, (hb.block _ h.glt).trans h.row⟩
theorem LR.drew {w W : World} {g N : Nat} {f : Nat → BitVec 8} (h : LR w W g N f) : LR w { W with drawn := W.drawn + 1 } g N f := ⟨h.below.drew, h.pos, h.row⟩
theorem LR.cell {w W : World} {g N : Nat} {f : Nat → BitVec 8} (h : LR w W g N f) (i : Nat) (hi : i < N) : W.cell? ⟨g, i, none⟩ = some (B (f i)) := by
  rw [cell_of_row W _ i _ _ _ h.row, brow_get, if_pos hi]
theorem LR.froz {w W : World} {g N : Nat} {f : Nat → BitVec 8} (h : LR w W g N f) (i : Nat) : W.frozen? ⟨g, i, none⟩ = false := frozen_of_row _ _ _ _ _ h.row
theorem LR.put {w W : World} {g N k : Nat} {C : BitVec 8} (h : LR w W g N (lf C k)) (hk : k < N) : LR w (W.setCell ⟨g, k, none⟩ (B (C + BitVec.ofNat 8 k))) g N (lf C (k + 1)) := by
  refine ⟨h.below.setCell h.pos _, h.pos, ?_⟩
  rw [heap_setCell_same _ _ _ _ _ _ h.row]
  refine congrArg (fun cs => some (Obj.cells cs 5 (0, 0))) ?_
  apply Array.ext_getElem?
  intro i
  rw [Array.getElem?_setIfInBounds, brow_get, brow_get, brow_size]
  by_cases e : k = i
  · subst e; rw [if_pos rfl, if_pos hk, if_pos hk, lf, if_pos (by omega)]
  · rw [if_neg e]
    by_cases h1 : i < N
    · rw [if_pos h1, if_pos h1, lf, lf]
      by_cases h2 : i < k
      · rw [if_pos h2, if_pos (by omega)]
      · rw [if_neg h2, if_neg (by omega)]
    · rw [if_neg h1, if_neg h1]
theorem LR.bytes {w W : World} {g N k : Nat} {f : Nat → BitVec 8} (h : LR w W g N f) (hk : k ≤ N) : Bytes W (.slice (some ⟨g, 0, none⟩) k N) k f W.heap.size :=
  .inr ⟨g, 0, N, rfl, hk, h.glt, Nat.ne_of_lt h.glt, fun i hi => by rw [Nat.zero_add]; exact h.cell i (by omega)⟩
theorem LR.src {w W : World} {g N k : Nat} {f : Nat → BitVec 8} (h : LR w W g N f) (hk : k ≤ N) : Src W (some ⟨g, 0, none⟩) k N f :=
  .inr ⟨g, 0, rfl, h.glt, fun i hi => by rw [Nat.zero_add]; exact h.cell i (by omega)⟩
theorem mk_row {w' : World} {B0 g N : Nat} (h : w'.ownsRow B0 5 1 (.slice (some ⟨g, 0, none⟩) N N) N (madeCells (Value.int .u8 0).cells (N * 1)).toList) : w'.heap[g]? = some (.cells (brow N (fun _ => 0)) 5 (0, 0)) := by
  rcases h.2 with ⟨h', _⟩ | ⟨g', cap, cur, hv, _, hg, hc, _, hs, ht⟩
  · cases h'
  · cases hv
    have e1 : cur.toList = List.replicate N (Value.int .u8 0) := by
      have : cur.toList.take (N * 1) = cur.toList := List.take_of_length_le (by rw [Array.length_toList, hs]; exact Nat.le_refl _)
      rw [← this, ht, show (Value.int .u8 0).cells = #[Value.int .u8 0] from rfl, toList_madeCells_one, Nat.mul_one]
    have e2 : cur = brow N (fun _ => 0) := by
      apply Array.ext_getElem?
      intro i
      rw [← Array.getElem?_toList, e1, brow_get, List.getElem?_replicate]
      rfl
    rw [hg, e2]
/-- make of N noughts. -/
theorem make_row (w : World) {ops : Array Oper} {rest : List Oper} {o : Oper} {a : Act} {Q : Exit → Act → World → Prop}
    (hg : o.guard = none) (l c : Operand) (hop : o.op = Op.makeSlice 22 l c) (kl kc : IntKind) (L C : Int) (n : Nat) (hl : a.eval l = .int kl L) (hc : a.eval c = .int kc C) (hL : L = (n : Int)) (hC : C = (n : Int)) (hn : n ≤ 1000)
    (hK : ∀ w', w'.heap[w.heap.size]? = some (.cells (brow n (fun _ => 0)) 5 (0, 0)) → Below w.heap.size w w' → wpList Tryd.prog ops Q rest (a.put o.dst (.slice (some ⟨w.heap.size, 0, none⟩) n n)) w') :
    wpList Tryd.prog ops Q (o :: rest) a w := by
  obtain ⟨i, hi, hz, hsz, hby⟩ := info_u8
  refine wpList_make_full w hg l c 22 hop w.heap.size 5 i (.int .u8 0) 1 Tryd.underlying22 hi hz hsz kl kc L C n hl hc hL hC (by rw [hby]; omega) (by unfold maxLen; omega) (Nat.le_refl _) ?_
  intro w' h1 h2
  exact hK w' (mk_row h1) ((Below.refl _ w).grown h2 (Nat.le_refl _) (fun b e => by cases e))
def lΩ (w : World) (g N : Nat) (f : Nat → BitVec 8) : Nat → (Nat → Value) → World → Prop := fun _ _ W => LR w W g N f
def lfn (g N k : Nat) (S1 : St) (S2 : Q5.St) : Nat → Value
  | 0 => .slice (some ⟨g, 0, none⟩) N N
  | 1 => .int .i64 (k : Int)
  | 2 => .slice (some ⟨g, 0, none⟩) k N
  | 3 => .agg (srow S1)
  | 4 => .slice (some ⟨g, 0, none⟩) N N
  | 5 => .int .i64 (k : Int)
  | 6 => .slice (some ⟨g, 0, none⟩) k N
  | 7 => .agg (srow S1)
  | 8 => .bool false
  | 9 => .bool false
  | 10 => .slice (some ⟨g, 0, none⟩) N N
  | 11 => .int .i64 (k : Int)
  | 12 => .slice (some ⟨g, 0, none⟩) k N
  | 13 => .agg (Q5.srow S2)
  | 14 => .slice (some ⟨g, 0, none⟩) N N
  | 15 => .int .i64 (k : Int)
  | 16 => .slice (some ⟨g, 0, none⟩) k N
  | 17 => .agg (Q5.srow S2)
  | 18 => .bool false
  | 19 => .bool false
  | _ => undef
theorem b_add (a b : BitVec 8) : IntKind.u8.wrap (ub a + ub b) = ub (a + b) := by
  rw [IntKind.wrap_u8]; unfold ub; rw [BitVec.toNat_add]; omega
theorem b_ofnat (k : Nat) : IntKind.u8.wrap (k : Int) = ub (BitVec.ofNat 8 k) := by
  rw [IntKind.wrap_u8]; unfold ub; rw [BitVec.toNat_ofNat]; omega
theorem b_ofnat' (k : Nat) : (k : Int) % 256 = ub (BitVec.ofNat 8 k) := by
  unfold ub; rw [BitVec.toNat_ofNat]; omega
theorem b_add' (a b : BitVec 8) : (ub a + ub b) % 256 = ub (a + b) := by
  unfold ub; rw [BitVec.toNat_add]; omega
attribute [local go_sem] b_add b_ofnat b_ofnat' b_add'
set_option maxRecDepth 100000 in
set_option maxHeartbeats 1000000 in
theorem shaLengths_walk (C : BitVec 8) (n : Nat) (hn : n ≤ 255) (w : World) (hT : Tabs w K256 H256) (hT5 : Q5.Tabs w) :
    Calls Tryd.prog 4 #[B C, .int .u8 (n : Int)] w fun e w' => e = .returned (.bool true) ∧ Below w.heap.size w w' := by
  have HT : Hid (Tabs w K256 H256) := hT
  have HT5 : Hid (Q5.Tabs w) := hT5
  have hl : Hid (1 < w.heap.size ∧ 3 < w.heap.size) := hT.lt
  have hl5 : Hid (0 < w.heap.size ∧ 2 < w.heap.size) := hT5.lt
  clear hT hT5
  have he := eq_same
  have he5 := Q5.eq_same
  have gn : (n : Int) ≤ 255 := by omega
  obtain ⟨N, hN⟩ : ∃ N, N = n + 40 := ⟨_, rfl⟩
  have hNi : (n : Int) + 40 = (N : Int) := by omega
  have hNb : N ≤ 1000 := by omega
  have hNn : n ≤ N := by omega
  clear hN
  go_enter Tryd.func4, Tryd.ntmps4
  go_wp2_with fail
  refine (awake_any w HT.out).mono ?_
  rintro e w1 ⟨rfl, hb1⟩
  have B1 : Hid (Below w.heap.size w w1) := hb1
  clear hb1
  go_wp2_with (refine make_row w1 rfl _ _ rfl _ _ _ _ N rfl rfl rfl rfl hNb ?_; intro w2 h1 h2; have HL0 : Hid (LR w w2 w1.heap.size N (fun _ => 0)) := ⟨B1.out.trans (h2.mono B1.out.size), B1.out.size, h1⟩; clear h1 h2)
  obtain ⟨g, hg⟩ : ∃ g, g = w1.heap.size := ⟨_, rfl⟩
  rw [← hg] at HL0
  rw [← hg]
  have HL : Hid (LR w w2 g N (lf C 0)) := by
    have e : lf C 0 = fun _ => 0 := by funext i; rw [lf, if_neg (by omega)]
    rw [e]; exact HL0.out
  clear HL0 hg
  go_loopw [6, 16] (fun _ i wr => ∃ k : Nat, k ≤ N ∧ i = .int .i64 (k : Int) ∧ LR w wr g N (lf C k)) (fun _ i _ => N - (intOf i).toNat)
  case atStart => exact ⟨0, by omega, rfl, HL.out⟩
  case round =>
    obtain ⟨k, hk, rfl, hr⟩ := hrel
    have HR : Hid (LR w _ g N (lf C k)) := hr
    clear hr HL
    by_cases hlt : k < N
    · have x1 : (k : Int) < (N : Int) := by omega
      have c1 := HR.out.cell k hlt
      have f1 := HR.out.froz k
      go_wp2
      go_roundw
      case rel => exact ⟨k + 1, by omega, by go_num, HR.out.put hlt⟩
      case measure => simp [intOf]; omega
    · obtain rfl : k = N := by omega
      obtain ⟨f, hf⟩ : ∃ f, f = lf C k := ⟨_, rfl⟩
      rw [← hf] at HR
      clear hf
      go_wp2_with fail
      go_loopw [7] (fun i wr => ∃ q : Nat, q ≤ k ∧ i = .int .i64 (q : Int) ∧ LR w wr g k f) (fun i _ => k - (intOf i).toNat)
      case atStart => exact ⟨n, by omega, rfl, HR.out⟩
      case round =>
        obtain ⟨q, hq, rfl, hr⟩ := hrel
        have HQ : Hid (LR w _ g k f) := hr
        clear hr HR
        by_cases hlt2 : q < k
        · have x1 : (q : Int) < (k : Int) := by omega
          have x2 : (q : Int) ≤ (k : Int) := by omega
          have x0 : (0 : Int) ≤ (q : Int) := by omega
          obtain ⟨S1, hS1⟩ : ∃ S, sumSt K256 H256 f q = S := ⟨_, rfl⟩
          obtain ⟨S2, hS2⟩ : ∃ S, Q5.sumSt Q5.K512 Q5.H512 f q = S := ⟨_, rfl⟩
          have HS1 : Hid (sumSt K256 H256 f q = S1) := hS1
          have HS2 : Hid (Q5.sumSt Q5.K512 Q5.H512 f q = S2) := hS2
          clear hS1 hS2
          go_wp2_with fail
          refine RT.wp_rgn' [] (lfn g k q S1 S2) (fun _ => 0) (lΩ w g k f) (by kernel_rfl) (by kernel_rfl) HQ.out.drew ?_ ?_
          · refine ⟨?_, ?_, ?_, ?_, ?_, ?_, ?_, ?_, ?_, ?_, ?_, ?_, ?_, ?_, ?_, ?_, ?_, ?_, ?_, ?_, trivial⟩
            · refine RT.ObT.pure rfl rfl rfl (fun a V hf hp ev he hc WW => ?_)
              have q5 : ev (.tmp 5) = .slice (some ⟨g, 0, none⟩) k k := (he (.tmp 5)).trans (hf 5 rfl)
              simp only [List.getElem_toArray, List.getElem_cons_succ, List.getElem_cons_zero, execOp, Option.map_some, Option.map_none]; rw [q5]
              first | (go_simp; done) | (go_simp; rfl)
            · refine RT.ObT.pure rfl rfl rfl (fun a V hf hp ev he hc WW => ?_)
              have q7 : ev (.tmp 7) = .int .i64 (q : Int) := (he (.tmp 7)).trans (hf 7 rfl)
              simp only [List.getElem_toArray, List.getElem_cons_succ, List.getElem_cons_zero, execOp, Option.map_some, Option.map_none]; rw [q7]
              first | (go_simp; done) | (go_simp; rfl)
            · refine RT.ObT.pure rfl rfl rfl (fun a V hf hp ev he hc WW => ?_)
              have q35 : ev (.tmp 35) = .slice (some ⟨g, 0, none⟩) k k := (he (.tmp 35)).trans (hp 0 35 rfl)
              have q36 : ev (.tmp 36) = .int .i64 (q : Int) := (he (.tmp 36)).trans (hp 1 36 rfl)
              simp only [List.getElem_toArray, List.getElem_cons_succ, List.getElem_cons_zero, execOp, Option.map_some, Option.map_none]; rw [q35, q36]
              first | (go_simp; done) | (go_simp; rfl)
            · refine RT.ObT.silent rfl (fun a WW k0 V hO hf hp hk => ?_)
              have hO : LR w WW g k f := hO
              have e1 : a.eval (.tmp 37) = .slice (some ⟨g, 0, none⟩) q k := hp 2 37 rfl
              refine RT.ob_call (g := 7) (args := #[.slice (some ⟨g, 0, none⟩) q k]) rfl (RT.wanted_none rfl) (fun ev he hc => ?_) ((sum256_at S1 f q _ HS1.out (by omega) WW (HT.out.below hO.below hl.out.1 hl.out.2) (hO.bytes (by omega))).mono ?_)
              · have h1 := (he (.tmp 37)).trans e1
                have hfn := he (.func 7)
                simp only [List.getElem_toArray, List.getElem_cons_succ, List.getElem_cons_zero, execOp]
                simp only [resolve, invoke, Sem.run_bind, Sem.run_pure, Result.andThen_ok, List.map_toArray, List.map_cons, List.map_nil, h1, hfn, Act.eval]
                rfl
              · rintro e W' ⟨rfl, hb⟩
                exact ⟨_, rfl, rfl, hO.more hb⟩
            · refine RT.ObT.pure rfl rfl rfl (fun a V hf hp ev he hc WW => ?_)
              have q5 : ev (.tmp 5) = .slice (some ⟨g, 0, none⟩) k k := (he (.tmp 5)).trans (hf 5 rfl)
              simp only [List.getElem_toArray, List.getElem_cons_succ, List.getElem_cons_zero, execOp, Option.map_some, Option.map_none]; rw [q5]
              first | (go_simp; done) | (go_simp; rfl)
            · refine RT.ObT.pure rfl rfl rfl (fun a V hf hp ev he hc WW => ?_)
              have q7 : ev (.tmp 7) = .int .i64 (q : Int) := (he (.tmp 7)).trans (hf 7 rfl)
              simp only [List.getElem_toArray, List.getElem_cons_succ, List.getElem_cons_zero, execOp, Option.map_some, Option.map_none]; rw [q7]
              first | (go_simp; done) | (go_simp; rfl)
            · refine RT.ObT.pure rfl rfl rfl (fun a V hf hp ev he hc WW => ?_)
              have q39 : ev (.tmp 39) = .slice (some ⟨g, 0, none⟩) k k := (he (.tmp 39)).trans (hp 4 39 rfl)
              have q40 : ev (.tmp 40) = .int .i64 (q : Int) := (he (.tmp 40)).trans (hp 5 40 rfl)
              simp only [List.getElem_toArray, List.getElem_cons_succ, List.getElem_cons_zero, execOp, Option.map_some, Option.map_none]; rw [q39, q40]
              first | (go_simp; done) | (go_simp; rfl)
            · refine RT.ObT.silent rfl (fun a WW k0 V hO hf hp hk => ?_)
              have hO : LR w WW g k f := hO
              have e1 : a.eval (.tmp 41) = .slice (some ⟨g, 0, none⟩) q k := hp 6 41 rfl
              refine RT.ob_call (g := 8) (args := #[.slice (some ⟨g, 0, none⟩) q k]) rfl (RT.wanted_none rfl) (fun ev he hc => ?_) ((rsum_at S1 f _ q k HS1.out (by omega) WW (hO.src (by omega))).mono ?_)
              · have h1 := (he (.tmp 41)).trans e1
                have hfn := he (.func 8)
                simp only [List.getElem_toArray, List.getElem_cons_succ, List.getElem_cons_zero, execOp]
                simp only [resolve, invoke, Sem.run_bind, Sem.run_pure, Result.andThen_ok, List.map_toArray, List.map_cons, List.map_nil, h1, hfn, Act.eval]
                rfl
              · rintro e W' ⟨rfl, hb⟩
                exact ⟨_, rfl, rfl, hO.more hb⟩
            · refine RT.ObT.pure rfl rfl rfl (fun a V hf hp ev he hc WW => ?_)
              have q38 : ev (.tmp 38) = .agg (srow S1) := (he (.tmp 38)).trans (hp 3 38 rfl)
              have q42 : ev (.tmp 42) = .agg (srow S1) := (he (.tmp 42)).trans (hp 7 42 rfl)
              simp only [List.getElem_toArray, List.getElem_cons_succ, List.getElem_cons_zero, execOp, Option.map_some, Option.map_none]; rw [q38, q42]
              have e1 := eq_same S1 WW
              first | (go_simp; done) | (go_simp; rfl)
            · refine RT.ObT.pure rfl rfl rfl (fun a V hf hp ev he hc WW => ?_)
              have q43 : ev (.tmp 43) = .bool false := (he (.tmp 43)).trans (hp 8 43 rfl)
              simp only [List.getElem_toArray, List.getElem_cons_succ, List.getElem_cons_zero, execOp, Option.map_some, Option.map_none]; rw [q43]
              first | (go_simp; done) | (go_simp; rfl)
            · refine RT.ObT.silent rfl (fun a WW k0 V hO hf hp hk => ?_)
              have hg : a.eval (.tmp 44) = .bool false := hp 9 44 rfl
              refine RT.ob_val rfl (RT.wanted_some rfl rfl rfl hg) (fun ev he hc => ?_) ⟨rfl, hO⟩
              have q5 : ev (.tmp 5) = .slice (some ⟨g, 0, none⟩) k k := (he (.tmp 5)).trans (hf 5 rfl)
              simp only [List.getElem_toArray, List.getElem_cons_succ, List.getElem_cons_zero, execOp, Option.map_some, Option.map_none]; rw [q5]
              first | (go_simp; done) | (go_simp; rfl)
            · refine RT.ObT.silent rfl (fun a WW k0 V hO hf hp hk => ?_)
              have hg : a.eval (.tmp 44) = .bool false := hp 9 44 rfl
              refine RT.ob_val rfl (RT.wanted_some rfl rfl rfl hg) (fun ev he hc => ?_) ⟨rfl, hO⟩
              have q7 : ev (.tmp 7) = .int .i64 (q : Int) := (he (.tmp 7)).trans (hf 7 rfl)
              simp only [List.getElem_toArray, List.getElem_cons_succ, List.getElem_cons_zero, execOp, Option.map_some, Option.map_none]; rw [q7]
              first | (go_simp; done) | (go_simp; rfl)
            · refine RT.ObT.silent rfl (fun a WW k0 V hO hf hp hk => ?_)
              have hg : a.eval (.tmp 44) = .bool false := hp 9 44 rfl
              refine RT.ob_val rfl (RT.wanted_some rfl rfl rfl hg) (fun ev he hc => ?_) ⟨rfl, hO⟩
              have q45 : ev (.tmp 45) = .slice (some ⟨g, 0, none⟩) k k := (he (.tmp 45)).trans (hp 10 45 rfl)
              have q46 : ev (.tmp 46) = .int .i64 (q : Int) := (he (.tmp 46)).trans (hp 11 46 rfl)
              simp only [List.getElem_toArray, List.getElem_cons_succ, List.getElem_cons_zero, execOp, Option.map_some, Option.map_none]; rw [q45, q46]
              first | (go_simp; done) | (go_simp; rfl)
            · refine RT.ObT.silent rfl (fun a WW k0 V hO hf hp hk => ?_)
              have hO : LR w WW g k f := hO
              have hg : a.eval (.tmp 44) = .bool false := hp 9 44 rfl
              have e1 : a.eval (.tmp 47) = .slice (some ⟨g, 0, none⟩) q k := hp 12 47 rfl
              refine RT.ob_call (g := 9) (args := #[.slice (some ⟨g, 0, none⟩) q k]) rfl (RT.wanted_some rfl rfl rfl hg) (fun ev he hc => ?_) ((Q5.sum512_at S2 f q _ HS2.out (by omega) WW (HT5.out.below hO.below hl5.out) (hO.bytes (by omega))).mono ?_)
              · have h1 := (he (.tmp 47)).trans e1
                have hfn := he (.func 9)
                simp only [List.getElem_toArray, List.getElem_cons_succ, List.getElem_cons_zero, execOp]
                simp only [resolve, invoke, Sem.run_bind, Sem.run_pure, Result.andThen_ok, List.map_toArray, List.map_cons, List.map_nil, h1, hfn, Act.eval]
                rfl
              · rintro e W' ⟨rfl, hb⟩
                exact ⟨_, rfl, rfl, hO.more hb⟩
            · refine RT.ObT.silent rfl (fun a WW k0 V hO hf hp hk => ?_)
              have hg : a.eval (.tmp 44) = .bool false := hp 9 44 rfl
              refine RT.ob_val rfl (RT.wanted_some rfl rfl rfl hg) (fun ev he hc => ?_) ⟨rfl, hO⟩
              have q5 : ev (.tmp 5) = .slice (some ⟨g, 0, none⟩) k k := (he (.tmp 5)).trans (hf 5 rfl)
              simp only [List.getElem_toArray, List.getElem_cons_succ, List.getElem_cons_zero, execOp, Option.map_some, Option.map_none]; rw [q5]
              first | (go_simp; done) | (go_simp; rfl)
            · refine RT.ObT.silent rfl (fun a WW k0 V hO hf hp hk => ?_)
              have hg : a.eval (.tmp 44) = .bool false := hp 9 44 rfl
              refine RT.ob_val rfl (RT.wanted_some rfl rfl rfl hg) (fun ev he hc => ?_) ⟨rfl, hO⟩
              have q7 : ev (.tmp 7) = .int .i64 (q : Int) := (he (.tmp 7)).trans (hf 7 rfl)
              simp only [List.getElem_toArray, List.getElem_cons_succ, List.getElem_cons_zero, execOp, Option.map_some, Option.map_none]; rw [q7]
              first | (go_simp; done) | (go_simp; rfl)
            · refine RT.ObT.silent rfl (fun a WW k0 V hO hf hp hk => ?_)
              have hg : a.eval (.tmp 44) = .bool false := hp 9 44 rfl
              refine RT.ob_val rfl (RT.wanted_some rfl rfl rfl hg) (fun ev he hc => ?_) ⟨rfl, hO⟩
              have q49 : ev (.tmp 49) = .slice (some ⟨g, 0, none⟩) k k := (he (.tmp 49)).trans (hp 14 49 rfl)
              have q50 : ev (.tmp 50) = .int .i64 (q : Int) := (he (.tmp 50)).trans (hp 15 50 rfl)
              simp only [List.getElem_toArray, List.getElem_cons_succ, List.getElem_cons_zero, execOp, Option.map_some, Option.map_none]; rw [q49, q50]
              first | (go_simp; done) | (go_simp; rfl)
            · refine RT.ObT.silent rfl (fun a WW k0 V hO hf hp hk => ?_)
              have hO : LR w WW g k f := hO
              have hg : a.eval (.tmp 44) = .bool false := hp 9 44 rfl
              have e1 : a.eval (.tmp 51) = .slice (some ⟨g, 0, none⟩) q k := hp 16 51 rfl
              refine RT.ob_call (g := 10) (args := #[.slice (some ⟨g, 0, none⟩) q k]) rfl (RT.wanted_some rfl rfl rfl hg) (fun ev he hc => ?_) ((Q5.rsum_at S2 f _ q k HS2.out (by omega) WW (hO.src (by omega))).mono ?_)
              · have h1 := (he (.tmp 51)).trans e1
                have hfn := he (.func 10)
                simp only [List.getElem_toArray, List.getElem_cons_succ, List.getElem_cons_zero, execOp]
                simp only [resolve, invoke, Sem.run_bind, Sem.run_pure, Result.andThen_ok, List.map_toArray, List.map_cons, List.map_nil, h1, hfn, Act.eval]
                rfl
              · rintro e W' ⟨rfl, hb⟩
                exact ⟨_, rfl, rfl, hO.more hb⟩
            · refine RT.ObT.silent rfl (fun a WW k0 V hO hf hp hk => ?_)
              have hg : a.eval (.tmp 44) = .bool false := hp 9 44 rfl
              refine RT.ob_val rfl (RT.wanted_some rfl rfl rfl hg) (fun ev he hc => ?_) ⟨rfl, hO⟩
              have q48 : ev (.tmp 48) = .agg (Q5.srow S2) := (he (.tmp 48)).trans (hp 13 48 rfl)
              have q52 : ev (.tmp 52) = .agg (Q5.srow S2) := (he (.tmp 52)).trans (hp 17 52 rfl)
              simp only [List.getElem_toArray, List.getElem_cons_succ, List.getElem_cons_zero, execOp, Option.map_some, Option.map_none]; rw [q48, q52]
              have e1 := Q5.eq_same S2 WW
              first | (go_simp; done) | (go_simp; rfl)
            · refine RT.ObT.pure rfl rfl rfl (fun a V hf hp ev he hc WW => ?_)
              have q44 : ev (.tmp 44) = .bool false := (he (.tmp 44)).trans (hp 9 44 rfl)
              have q53 : ev (.tmp 53) = .bool false := (he (.tmp 53)).trans (hp 18 53 rfl)
              simp only [List.getElem_toArray, List.getElem_cons_succ, List.getElem_cons_zero, execOp, Option.map_some, Option.map_none]; rw [q44, q53]
              try simp only [hc]
              first | (go_simp; done) | (go_simp; rfl)
          · intro wx V hO
            have HO : Hid (LR w wx g k f) := hO
            clear hO
            simp only [RT.lay, RT.val, RT.at', lfn, Act.put]
            simp only [List.setIfInBounds_toArray, List.set_cons_succ, List.set_cons_zero]
            go_wp2
            go_roundw
            case rel => exact ⟨q + 1, by omega, by go_num, HO.out⟩
            case measure => simp [intOf]; omega
        · obtain rfl : q = k := by omega
          go_wp2
          go_ret
          exact ⟨rfl, HQ.out.below⟩
end Go.Proofs.YtkjmompdfegmcaaDoor
