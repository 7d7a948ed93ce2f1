/- land. -/
import Derived.Test.YthfpakjfdncphaaDoorDskG
import Derived.Laws.CopyOwn
namespace Go.Proofs.YthfpakjfdncphaaDoor
open Go Go.RowKit
set_option linter.unusedSimpArgs false
set_option linter.unusedVariables false
set_option maxRecDepth 100000

theorem size_u8' : (Tryd.prog.info? 5).map (·.size) = some 1 := by kernel_rfl
/-- What a crash leaves of a sector and a write to it. -/
def tear (c : Int) (old x : List Int) : List Int := if c = 1 then x else if c = 2 then x.take 32 ++ old.drop 32 else if c = 3 then old.take 32 ++ x.drop 32 else old
theorem upd_self (st : Nat → List Int) (i : Nat) : upd st i (st i) = st := by
  funext j; unfold upd; split
  · rename_i e; rw [e]
  · rfl
theorem bv_get' {xs : List Int} {j : Nat} {u : Value} : (bv xs)[j]? = some u ↔ ∃ z, xs[j]? = some z ∧ u = .int .u8 z := by
  unfold bv; rw [List.getElem?_map]
  cases xs[j]? with
  | none => simp
  | some z => simp; exact eq_comm
theorem splice_get {α : Type} (L cs : List α) (off q : Nat) (hf : off + cs.length ≤ L.length) : (L.take off ++ (cs ++ L.drop (off + cs.length)))[q]? = if off ≤ q ∧ q < off + cs.length then cs[q - off]? else L[q]? := by
  rw [List.getElem?_append]
  have hl : (L.take off).length = off := by rw [List.length_take]; omega
  rw [hl]
  by_cases h1 : q < off
  · rw [if_pos h1, if_neg (by omega), List.getElem?_take, if_pos h1]
  · rw [if_neg h1, List.getElem?_append]
    by_cases h2 : q < off + cs.length
    · rw [if_pos (by omega), if_pos (by omega)]
    · rw [if_neg (by omega), if_neg (by omega), List.getElem?_drop]
      congr 1; omega
/-- A part of a sector written over. -/
theorem SB.splice {w : World} {gs n : Nat} {st : Nat → List Int} (h : SB w gs n st) {i o : Nat} (hi : i < n) {ys : List Int} (ho : o + ys.length ≤ 64) {cur : Array Value} (c1 : w.heap[gs]? = some (.cells cur 59 (0, 0))) (c2 : cur.size = n * 64) :
    SB (w.setRow gs (cur.toList.take (i * 64 + o) ++ (bv ys ++ cur.toList.drop (i * 64 + o + (bv ys).length))).toArray) gs n (upd st i ((st i).take o ++ (ys ++ (st i).drop (o + ys.length)))) := by
  have hb := setRow_heap w gs cur (cur.toList.take (i * 64 + o) ++ (bv ys ++ cur.toList.drop (i * 64 + o + (bv ys).length))).toArray 59 _ c1
  have hl : cur.toList.length = n * 64 := by rw [Array.length_toList, c2]
  have hf : i * 64 + o + (bv ys).length ≤ cur.toList.length := by rw [hl, bv_length]; omega
  have hsi := h.len i hi
  refine ⟨⟨_, hb, ?_⟩, fun j hj => ?_, fun j hj m u hu => ?_⟩
  · rw [List.size_toArray, List.length_append, List.length_append, List.length_take, List.length_drop]; omega
  · unfold upd; split
    · simp [hsi]; omega
    · exact h.len j hj
  · rw [cell_of_row _ gs _ _ _ _ hb, List.getElem?_toArray, splice_get _ _ _ _ hf, bv_length]
    have hcell : ∀ q : Nat, w.cell? ⟨gs, q, none⟩ = cur.toList[q]? := fun q => by rw [cell_of_row w gs q cur _ _ c1]; simp
    by_cases e : j = i
    · subst e
      unfold upd at hu; rw [if_pos rfl] at hu
      have hm : m < 64 := by have := (List.getElem?_eq_some_iff.1 hu).1; rw [bv_length] at this; simp [hsi] at this; omega
      rw [bv_append, bv_append] at hu
      have hb1 : bv ((st j).take o) = (bv (st j)).take o := by simp [bv, List.map_take]
      have hb2 : bv ((st j).drop (o + ys.length)) = (bv (st j)).drop (o + (bv ys).length) := by simp [bv, List.map_drop]
      rw [hb1, hb2, splice_get _ _ _ _ (by rw [bv_length, bv_length, hsi]; exact ho), bv_length] at hu
      by_cases hin : o ≤ m ∧ m < o + ys.length
      · rw [if_pos hin] at hu
        rw [if_pos (by omega), show j * 64 + m - (j * 64 + o) = m - o by omega]; exact hu
      · rw [if_neg hin] at hu
        rw [if_neg (by omega), ← hcell]
        exact h.at' j hj m u hu
    · unfold upd at hu; rw [if_neg e] at hu
      have hm : m < 64 := by have := (List.getElem?_eq_some_iff.1 hu).1; rw [bv_length, h.len j hj] at this; exact this
      rw [if_neg (by omega), ← hcell]
      exact h.at' j hj m u hu
def lΩ (w0 : World) (gs n : Nat) (st : Nat → List Int) (i b : Nat) (x y : List Int) : Nat → (Nat → Value) → World → Prop
  | 0, _, w => SB w gs n st ∧ Chg (fun b => b = gs) w0 w ∧ w.rangeAt b 0 (bv x)
  | _, _, w => SB w gs n (upd st i y) ∧ Chg (fun b => b = gs) w0 w
def hfn (gs b off src cap base : Nat) : Nat → Value
  | 0 => .pointer (some ⟨gs, base, none⟩)
  | 1 => .pointer (some ⟨gs, base, none⟩)
  | 2 => .slice (some ⟨gs, off, none⟩) 32 cap
  | 3 => .slice (some ⟨b, src, none⟩) 32 cap
  | _ => undef
set_option maxHeartbeats 2000000 in
theorem land_any {w : World} {gs n i : Nat} {st : Nat → List Int} {x : List Int} {c : Int} (h : SB w gs n st) (hi : i < n) (hx : x.length = 64) :
    Calls Tryd.prog 31 #[.pointer (some ⟨gs, i * 64, none⟩), .agg (bv x).toArray, .int .u8 c] w fun e w' => e = .returned (.tuple #[]) ∧ SB w' gs n (upd st i (tear c (st i) x)) ∧ Chg (fun b => b = gs) w w' := by
  have H : Hid (SB w gs n st) := h
  have HX : Hid (x.length = 64) := hx
  have HI : Hid (i < n) := hi
  clear h hx hi
  by_cases h1 : c = 1
  · subst h1
    go_enter Tryd.func31, Tryd.ntmps31
    have hR := rangeAt_alloc w (bv x) 59
    have hB : Below w.heap.size w (w.alloc (.cells (bv x).toArray 59)) := (Below.refl _ _).alloc (Nat.le_refl _) _
    have H0 : Hid (SB (w.alloc (.cells (bv x).toArray 59)) gs n st) := H.out.keep (hB.block _ H.out.lt)
    go_wp2_with (first
      | (refine wpList_load_mid rfl 59 _ rfl w.heap.size 0 rfl (bv x) _ hR Tryd.underlying59 rfl (by rw [bv_length, HX.out]; exact size64) ?_)
      | (refine wpList_store_mid rfl 59 _ _ rfl gs (i * 64) (bv x).toArray rfl rfl (there_sec HX.out (H0.out.there HI.out)) (size_sec HX.out) (bv_one' _) ?_))
    go_end0
    exact ⟨rfl, by rw [show tear 1 (st i) x = x from rfl]; exact H0.out.store HI.out HX.out, ((Chg.refl _ _).alloc _).setCells rfl⟩
  by_cases h2 : c = 2
  · subst h2
    go_enter Tryd.func31, Tryd.ntmps31
    have hR := rangeAt_alloc w (bv x) 59
    have hB : Below w.heap.size w (w.alloc (.cells (bv x).toArray 59)) := (Below.refl _ _).alloc (Nat.le_refl _) _
    have H0 : Hid (SB (w.alloc (.cells (bv x).toArray 59)) gs n st) := H.out.keep (hB.block _ H.out.lt)
    go_wp2_with fail
    refine RT.wp_rgn' [4] (hfn gs w.heap.size (i * 64) 0 64 (i * 64)) sK (lΩ w gs n st i w.heap.size x (tear 2 (st i) x)) (by kernel_rfl) (by kernel_rfl) ?_ ?_ ?_
    · exact ⟨H0.out.keep rfl, ((Chg.refl _ _).alloc _).trans ⟨rfl, rfl, rfl, Nat.le_refl _, fun _ _ _ => rfl⟩, fun j u hu => hR j u hu⟩
    · refine ⟨?_, ?_, ?_, ?_, ?_, trivial⟩
      · refine RT.ObT.pure rfl rfl rfl (fun a U hf hp ev he hc W => ?_)
        have q0 : ev (.tmp 0) = .pointer (some ⟨gs, i * 64, none⟩) := (he (.tmp 0)).trans (hf 0 rfl)
        simp only [List.getElem_toArray, List.getElem_cons_succ, List.getElem_cons_zero, execOp]; rw [q0]; rfl
      · refine RT.ObT.pure rfl rfl rfl (fun a U hf hp ev he hc W => ?_)
        have q14 : ev (.tmp 14) = .pointer (some ⟨gs, i * 64, none⟩) := (he (.tmp 14)).trans (hp 0 14 rfl)
        simp only [List.getElem_toArray, List.getElem_cons_succ, List.getElem_cons_zero, execOp]; rw [q14]; rfl
      · refine RT.ObT.pure rfl rfl rfl (fun a U hf hp ev he hc W => ?_)
        have q15 : ev (.tmp 15) = .pointer (some ⟨gs, i * 64, none⟩) := (he (.tmp 15)).trans (hp 1 15 rfl)
        simp only [List.getElem_toArray, List.getElem_cons_succ, List.getElem_cons_zero, execOp]; rw [q15]; try rw [hc]
        go_simp
        try rfl
      · refine RT.ObT.pure rfl rfl rfl (fun a U hf hp ev he hc W => ?_)
        have q4 : ev (.tmp 4) = .pointer (some ⟨w.heap.size, 0, none⟩) := (he (.tmp 4)).trans (hf 4 rfl)
        simp only [List.getElem_toArray, List.getElem_cons_succ, List.getElem_cons_zero, execOp]; rw [q4]; try rw [hc]
        go_simp
        try rfl
      · refine RT.ObT.loud (j := 0) rfl (fun a W U hO hf hp => ?_)
        obtain ⟨hO1, hO2, hO3⟩ := hO
        have q1 : a.eval (.tmp 16) = .slice (some ⟨gs, i * 64, none⟩) 32 64 := hp 2 16 rfl
        have q2 : a.eval (.tmp 17) = .slice (some ⟨w.heap.size, 0, none⟩) 32 64 := hp 3 17 rfl
        obtain ⟨cur, c1, c2⟩ := hO1.blk
        have hyl : (x.take 32).length = 32 := by simp [HX.out]
        have hin := HI.out
        have hsl := hO1.len i hin
        have hsp := hO1.splice HI.out (o := 0) (ys := x.take 32) (by rw [hyl]; decide) c1 c2
        have htr : (st i).take 0 ++ (x.take 32 ++ (st i).drop (0 + (x.take 32).length)) = tear 2 (st i) x := by
          rw [hyl]; simp [tear, hsl]
        rw [htr] at hsp
        have hrun := run_copy_row (P := Tryd.prog) W 32 32 3 5 gs (i * 64) 32 64 ⟨w.heap.size, 0, none⟩ 32 64 cur 59 (bv (x.take 32)) Tryd.underlying32 size_u8' c1 (by rw [bv_length, hyl]; rfl) ?_ (by rw [bv_length, hyl, c2]; omega) (bv_one _)
        · rw [List.append_assoc] at hrun
          refine RT.ob_run (v := goInt (bv (x.take 32)).length) (w' := W.setRow gs (cur.toList.take (i * 64) ++ (bv (x.take 32) ++ cur.toList.drop (i * 64 + (bv (x.take 32)).length))).toArray) rfl (RT.wanted_none rfl) (fun ev he hc => ?_) ⟨_, rfl, hsp, hO2.trans ⟨rfl, rfl, rfl, by simp [World.setRow], fun b hb hne => setRow_other W gs b _ (fun e => hne e)⟩⟩
          have e1 := (he (.tmp 16)).trans q1
          have e2 := (he (.tmp 17)).trans q2
          simp only [List.getElem_toArray, List.getElem_cons_succ, List.getElem_cons_zero, execOp]
          simp only [resolve, invoke, builtin, Sem.run_bind, Sem.run_pure, Result.andThen_ok, List.map_toArray, List.map_cons, List.map_nil, e1, e2, hrun]
        · intro j u hu
          rw [Addr.add_mid]
          have := hO3 (0 + j) u (by
            rw [bv_get'] at hu ⊢
            obtain ⟨z, hz, rfl⟩ := hu
            refine ⟨z, ?_, rfl⟩
            rw [List.getElem?_take] at hz
            split at hz
            · simpa using hz
            · cases hz)
          rwa [show 0 + (0 + j) = 0 + j by omega] at this
    · intro w' U hO
      have HO : Hid (lΩ w gs n st i w.heap.size x (tear 2 (st i) x) 1 U w') := hO
      clear hO
      simp only [RT.lay, RT.val, RT.at', hfn, Act.put]
      go_wp2_with fail
      go_end0
      exact ⟨rfl, HO.out.1, HO.out.2⟩
  by_cases h3 : c = 3
  · subst h3
    go_enter Tryd.func31, Tryd.ntmps31
    have hR := rangeAt_alloc w (bv x) 59
    have hB : Below w.heap.size w (w.alloc (.cells (bv x).toArray 59)) := (Below.refl _ _).alloc (Nat.le_refl _) _
    have H0 : Hid (SB (w.alloc (.cells (bv x).toArray 59)) gs n st) := H.out.keep (hB.block _ H.out.lt)
    go_wp2_with fail
    refine RT.wp_rgn' [4] (hfn gs w.heap.size (i * 64 + 32) 32 32 (i * 64)) sK (lΩ w gs n st i w.heap.size x (tear 3 (st i) x)) (by kernel_rfl) (by kernel_rfl) ?_ ?_ ?_
    · exact ⟨H0.out.keep rfl, ((Chg.refl _ _).alloc _).trans ⟨rfl, rfl, rfl, Nat.le_refl _, fun _ _ _ => rfl⟩, fun j u hu => hR j u hu⟩
    · refine ⟨?_, ?_, ?_, ?_, ?_, trivial⟩
      · refine RT.ObT.pure rfl rfl rfl (fun a U hf hp ev he hc W => ?_)
        have q0 : ev (.tmp 0) = .pointer (some ⟨gs, i * 64, none⟩) := (he (.tmp 0)).trans (hf 0 rfl)
        simp only [List.getElem_toArray, List.getElem_cons_succ, List.getElem_cons_zero, execOp]; rw [q0]; rfl
      · refine RT.ObT.pure rfl rfl rfl (fun a U hf hp ev he hc W => ?_)
        have q21 : ev (.tmp 21) = .pointer (some ⟨gs, i * 64, none⟩) := (he (.tmp 21)).trans (hp 0 21 rfl)
        simp only [List.getElem_toArray, List.getElem_cons_succ, List.getElem_cons_zero, execOp]; rw [q21]; rfl
      · refine RT.ObT.pure rfl rfl rfl (fun a U hf hp ev he hc W => ?_)
        have q22 : ev (.tmp 22) = .pointer (some ⟨gs, i * 64, none⟩) := (he (.tmp 22)).trans (hp 1 22 rfl)
        simp only [List.getElem_toArray, List.getElem_cons_succ, List.getElem_cons_zero, execOp]; rw [q22]; try rw [hc]
        go_simp
        try rfl
      · refine RT.ObT.pure rfl rfl rfl (fun a U hf hp ev he hc W => ?_)
        have q4 : ev (.tmp 4) = .pointer (some ⟨w.heap.size, 0, none⟩) := (he (.tmp 4)).trans (hf 4 rfl)
        simp only [List.getElem_toArray, List.getElem_cons_succ, List.getElem_cons_zero, execOp]; rw [q4]; try rw [hc]
        go_simp
        try rfl
      · refine RT.ObT.loud (j := 0) rfl (fun a W U hO hf hp => ?_)
        obtain ⟨hO1, hO2, hO3⟩ := hO
        have q1 : a.eval (.tmp 23) = .slice (some ⟨gs, i * 64 + 32, none⟩) 32 32 := hp 2 23 rfl
        have q2 : a.eval (.tmp 24) = .slice (some ⟨w.heap.size, 32, none⟩) 32 32 := hp 3 24 rfl
        obtain ⟨cur, c1, c2⟩ := hO1.blk
        have hyl : (x.drop 32).length = 32 := by simp [HX.out]
        have hin := HI.out
        have hsl := hO1.len i hin
        have hsp := hO1.splice HI.out (o := 32) (ys := x.drop 32) (by rw [hyl]; decide) c1 c2
        have htr : (st i).take 32 ++ (x.drop 32 ++ (st i).drop (32 + (x.drop 32).length)) = tear 3 (st i) x := by
          rw [hyl]; simp [tear, hsl]
        rw [htr] at hsp
        have hrun := run_copy_row (P := Tryd.prog) W 32 32 3 5 gs (i * 64 + 32) 32 32 ⟨w.heap.size, 32, none⟩ 32 32 cur 59 (bv (x.drop 32)) Tryd.underlying32 size_u8' c1 (by rw [bv_length, hyl]; rfl) ?_ (by rw [bv_length, hyl, c2]; omega) (bv_one _)
        · rw [List.append_assoc] at hrun
          refine RT.ob_run (v := goInt (bv (x.drop 32)).length) (w' := W.setRow gs (cur.toList.take (i * 64 + 32) ++ (bv (x.drop 32) ++ cur.toList.drop (i * 64 + 32 + (bv (x.drop 32)).length))).toArray) rfl (RT.wanted_none rfl) (fun ev he hc => ?_) ⟨_, rfl, hsp, hO2.trans ⟨rfl, rfl, rfl, by simp [World.setRow], fun b hb hne => setRow_other W gs b _ (fun e => hne e)⟩⟩
          have e1 := (he (.tmp 23)).trans q1
          have e2 := (he (.tmp 24)).trans q2
          simp only [List.getElem_toArray, List.getElem_cons_succ, List.getElem_cons_zero, execOp]
          simp only [resolve, invoke, builtin, Sem.run_bind, Sem.run_pure, Result.andThen_ok, List.map_toArray, List.map_cons, List.map_nil, e1, e2, hrun]
        · intro j u hu
          rw [Addr.add_mid]
          have := hO3 (32 + j) u (by
            rw [bv_get'] at hu ⊢
            obtain ⟨z, hz, rfl⟩ := hu
            refine ⟨z, ?_, rfl⟩
            rw [List.getElem?_drop] at hz; exact hz)
          rwa [show 0 + (32 + j) = 32 + j by omega] at this
    · intro w' U hO
      have HO : Hid (lΩ w gs n st i w.heap.size x (tear 3 (st i) x) 1 U w') := hO
      clear hO
      simp only [RT.lay, RT.val, RT.at', hfn, Act.put]
      go_wp2_with fail
      go_end0
      exact ⟨rfl, HO.out.1, HO.out.2⟩
  · have e : tear c (st i) x = st i := by unfold tear; rw [if_neg h1, if_neg h2, if_neg h3]
    rw [e, upd_self]
    go_enter Tryd.func31, Tryd.ntmps31
    go_wp2_with fail
    go_end0
    have hB : Below w.heap.size w (w.alloc (.cells (bv x).toArray 59)) := (Below.refl _ _).alloc (Nat.le_refl _) _
    exact ⟨rfl, H.out.keep (hB.block _ H.out.lt), (Chg.refl _ _).alloc _⟩
end Go.Proofs.YthfpakjfdncphaaDoor
