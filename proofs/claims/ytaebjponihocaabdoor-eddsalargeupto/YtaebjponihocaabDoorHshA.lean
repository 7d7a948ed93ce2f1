/- hashed: SHA-512 of the pieces, as a number modulo L. -/
import Derived.Test.YtaebjponihocaabDoorShfT
import Derived.Test.YtaebjponihocaabDoorCatA
import Derived.Test.YtaebjponihocaabDoorMemN
import Derived.Test.YtaebjponihocaabDoorScpB
import Derived.Test.YtaebjponihocaabDoorPoiJ
namespace Go.Proofs.YtaebjponihocaabDoor.Edd
open Go Go.RowKit Shf
open Cat (Parts catC catM catY catN catH catOK cat_calls catY_succ notAt)
set_option linter.unusedSimpArgs false
set_option linter.unusedVariables false
/-- A byte, as a value. -/
def IsByte (v : Value) : Prop := ∃ x : Int, v = .int .u8 x ∧ 0 ≤ x ∧ x < 256
theorem blm_bsum : ∀ (l : List Value), (∀ v ∈ l, IsByte v) → Sc.blm l.length (Sc.bsum l) = l
  | [], _ => rfl
  | v :: l, h => by
    obtain ⟨x, rfl, h0, h1⟩ := h v (by simp)
    have ih := blm_bsum l fun v hv => h v (by simp [hv])
    have e : Sc.bsum (.int .u8 x :: l) = x.toNat + 256 * Sc.bsum l := rfl
    rw [e]
    generalize Sc.bsum l = m at *
    unfold Sc.blm at ih ⊢
    rw [List.length_cons, List.range_succ_eq_map, List.map_cons, List.map_map]
    congr 1
    · unfold Sc.by8
      congr 1
      rw [Nat.pow_zero, Nat.div_one]; omega
    · refine Eq.trans (List.map_congr_left fun i _ => ?_) ih
      show Value.int .u8 (Sc.by8 (x.toNat + 256 * m) (i + 1)) = Value.int .u8 (Sc.by8 m i)
      unfold Sc.by8
      rw [Nat.pow_succ, Nat.mul_comm (256 ^ i) 256, ← Nat.div_div_eq_div_mul, show (x.toNat + 256 * m) / 256 = m by omega]
theorem isB64_of {l : List Value} (hl : l.length = 64) (h : ∀ v ∈ l, IsByte v) : Sc.IsB64 (.agg l.toArray) := by
  have e := blm_bsum l h
  rw [hl] at e
  show Value.agg l.toArray = Sc.bv64 (Sc.bnum (.agg l.toArray))
  show Value.agg l.toArray = Value.agg (Sc.blm 64 (Sc.bsum l.toArray.toList)).toArray
  rw [List.toList_toArray, e]
theorem isB_of {l : List Value} (hl : l.length = 32) (h : ∀ v ∈ l, IsByte v) : Sc.IsB (.agg l.toArray) := by
  have e := blm_bsum l h
  rw [hl] at e
  show Value.agg l.toArray = Sc.bv (Sc.bnum (.agg l.toArray))
  show Value.agg l.toArray = Value.agg (Sc.blm 32 (Sc.bsum l.toArray.toList)).toArray
  rw [List.toList_toArray, e]
theorem b8_byte (x : Int) (d : Nat) : IsByte (b8 x d) := ⟨_, rfl, by rw [IntKind.wrap_u8]; omega, by rw [IntKind.wrap_u8]; omega⟩
theorem by32_byte (x : Int) : ∀ v ∈ by32 x, IsByte v := by
  intro v hv
  simp only [by32, List.mem_cons, List.not_mem_nil, or_false] at hv
  rcases hv with rfl | rfl | rfl | rfl
  · exact b8_byte _ _
  · exact b8_byte _ _
  · exact b8_byte _ _
  · exact ⟨_, rfl, by rw [IntKind.wrap_u8]; omega, by rw [IntKind.wrap_u8]; omega⟩
theorem by64_byte (x : Int) : ∀ v ∈ by64 x, IsByte v := by
  intro v hv
  rcases List.mem_append.1 hv with h | h
  · exact by32_byte _ v h
  · exact by32_byte _ v h
theorem out64_byte (s : S8) : ∀ v ∈ out64 s, IsByte v := by
  intro v hv
  unfold out64 at hv
  simp only [List.mem_append] at hv
  rcases hv with h | h | h | h | h | h | h | h <;> exact by64_byte _ v h
theorem out64_len (s : S8) : (out64 s).length = 64 := rfl
/-- SHA-512 of bytes, as a value and as a number modulo L. -/
def shaV (y : List Value) : Value := .agg (out64 (sumB y.length fun i => intL y i)).toArray
def hashV (y : List Value) : Value := Sc.RD (shaV y)
theorem shaV_B (y : List Value) : Sc.IsB64 (shaV y) := isB64_of (out64_len _) (out64_byte _)
theorem own_get {q y : List Value} {cap : Nat} (h : OwnRow y cap q) {i : Nat} (hi : i < y.length) : q[i]? = y[i]? := by
  conv => rhs; rw [← h.eq]
  rw [List.getElem?_take, if_pos hi]
theorem Vsm_own {q y : List Value} {cap : Nat} (h : OwnRow y cap q) : Vsm q 0 y.length [] = shaV y := by
  unfold Vsm shaV
  congr 3
  refine sumB_congr fun i hi => ?_
  rw [Nat.zero_add]
  unfold intL; rw [own_get h hi]
def IsU8 (v : Value) : Prop := ∃ x : Int, v = .int .u8 x
theorem Tsm_own {q y : List Value} {cap : Nat} (h : OwnRow y cap q) (hy : ∀ v ∈ y, IsU8 v) (hn : y.length < 1152921504606846976) : Tsm q 0 y.length cap [] := by
  refine ⟨rfl, h.le, hn, by have := h.len; have := h.le; omega, fun i hi => ?_⟩
  rw [Nat.zero_add]
  have e := own_get h hi
  obtain ⟨x, hx⟩ := hy y[i] (List.getElem_mem hi)
  rw [List.getElem?_eq_getElem hi, hx] at e
  unfold intL; rw [e]
def N7 : Cx := ((Cx.none.glo Shf.gl5).read 24 (Go.Proofs.YtaebjponihocaabDoor.gRd M5 Tsm Vsm)).pure 23 Sc.gRedS
theorem N7_ok : N7.Ok Tryd.prog := Sc.gRedS_ok (Shf.gSum_ok (Cx.glo_ok Cx.none_ok (by intro g hg; cases hg)) M5_cov)
theorem N7_gl : N7.gl = Shf.gl5 := by kernel_rfl
/-- hashed's body. -/
def h0S (fn : Func) (p : Nat) (ps : Parts) (ty : BT) : Act × Mem := (sinit fn [.slice (some ⟨ng, 0, none⟩) p p], M5 ++ [some ⟨catC ps, ty⟩])
def h1S (P : Program) (fn : Func) (p : Nat) (ps : Parts) (ty : BT) : Act × Mem := runL P N7 20 [cL (bodyOf fn)] (h0S fn p ps ty)
theorem h_1 (p : Nat) (ps : Parts) (ty : BT) : sexecL Tryd.prog N7 20 [cL (bodyOf Tryd.f12)] [] (h0S Tryd.f12 p ps ty) = some ([], h1S Tryd.prog Tryd.f12 p ps ty) := by kernel_rfl
def hC (c : Code) : Code := cL (cR c)
theorem h_code : bodyOf Tryd.f12 = seqs [cL (bodyOf Tryd.f12)] (.seq (hC (bodyOf Tryd.f12)) .ret) := by kernel_rfl
def h2S (P : Program) (fn : Func) (p : Nat) (ps : Parts) (ty : BT) : Act × Mem := ahead P N7 (hC (bodyOf fn)) [0] (h1S P fn p ps ty)
theorem h_2 (p : Nat) (ps : Parts) (ty : BT) : sseq Tryd.prog N7 (rOps (hC (bodyOf Tryd.f12))) (h1S Tryd.prog Tryd.f12 p ps ty).2.length [0] [] ((h1S Tryd.prog Tryd.f12 p ps ty).1, (h1S Tryd.prog Tryd.f12 p ps ty).2 ++ List.replicate ((rOps (hC (bodyOf Tryd.f12))).toList.filter makes).length none) = some ([], h2S Tryd.prog Tryd.f12 p ps ty) := by kernel_rfl
theorem h_2o (p : Nat) (ps : Parts) (ty : BT) : okX Shf.gl5 (h2S Tryd.prog Tryd.f12 p ps ty).1.eval (.tmp 3) = true := by kernel_rfl
theorem h_2e (p : Nat) (ps : Parts) (ty : BT) : (h2S Tryd.prog Tryd.f12 p ps ty).1.eval (.tmp 3) = .slice (some ⟨ng, 0, none⟩) p p := by kernel_rfl
def z32 : List Value := List.replicate 32 (.int .u8 0)
def hM (ps : Parts) (ty : BT) : Mem := M5 ++ [some ⟨catC ps, ty⟩, some ⟨z32, 22⟩]
theorem h_2m (p : Nat) (ps : Parts) (ty : BT) : (h2S Tryd.prog Tryd.f12 p ps ty).2 = hM ps ty := by kernel_rfl
theorem hM_len (ps : Parts) (ty : BT) : (hM ps ty).length = ng + 2 := by kernel_rfl
theorem hM_get (ps : Parts) (ty : BT) : getB (hM ps ty) ng = some ⟨catC ps, ty⟩ := by kernel_rfl
def h3S (P : Program) (fn : Func) (p : Nat) (ps : Parts) (ty : BT) (n cap : Nat) (q : List Value) : Act × Mem := seqS P N7 (rOps (hC (bodyOf fn))) (ng + 2) [2, 3, 4] ((h2S P fn p ps ty).1.put (some 4) (.slice (some ⟨ng + 2, 0, none⟩) n cap), hM ps ty ++ [some ⟨q, ⟨5, (0, 0)⟩⟩])
theorem h_3 (p : Nat) (ps : Parts) (ty : BT) (n cap : Nat) (q : List Value) : sseq Tryd.prog N7 (rOps (hC (bodyOf Tryd.f12))) (ng + 2) [2, 3, 4] [] ((h2S Tryd.prog Tryd.f12 p ps ty).1.put (some 4) (.slice (some ⟨ng + 2, 0, none⟩) n cap), hM ps ty ++ [some ⟨q, ⟨5, (0, 0)⟩⟩]) = some ([q.all flatR = true, Tsm q 0 n cap [], Sc.IsB64 (Vsm q 0 n [])], h3S Tryd.prog Tryd.f12 p ps ty n cap q) := by kernel_rfl
theorem h_3r (p : Nat) (ps : Parts) (ty : BT) (n cap : Nat) (q : List Value) : sres Tryd.prog Tryd.f12 (h3S Tryd.prog Tryd.f12 p ps ty n cap q) = some (Sc.RD (Vsm q 0 n [])) := by kernel_rfl
theorem h_3d (p : Nat) (ps : Parts) (ty : BT) (n cap : Nat) (q : List Value) : (h3S Tryd.prog Tryd.f12 p ps ty n cap q).1.defers = [] := by kernel_rfl
theorem h_3m (p : Nat) (ps : Parts) (ty : BT) (n cap : Nat) (q : List Value) : (h3S Tryd.prog Tryd.f12 p ps ty n cap q).2 = (M5 ++ [some ⟨catC ps, ty⟩]) ++ (h3S Tryd.prog Tryd.f12 p ps ty n cap q).2.drop (ng + 1) := by kernel_rfl
end Go.Proofs.YtaebjponihocaabDoor.Edd
/- hashed: its contract in the world, and as a contract of the engine. -/
namespace Go.Proofs.YtaebjponihocaabDoor.Edd
open Go Go.RowKit Shf
open Cat (Parts catC catM catY catN catH catOK cat_calls catY_succ)
set_option linter.unusedSimpArgs false
set_option linter.unusedVariables false
variable {r₀ r : Ren} {w₀ w : World} {m : Mem}
def allU64 (M : Mem) : Bool := M.all fun o => match o with
  | some B => B.cells.all (isInt .u64)
  | none => true
theorem M5_u64 : allU64 M5 = true := by kernel_rfl
theorem allU64_get {M : Mem} (h : allU64 M = true) {b : Nat} {B : Blk} (hB : getB M b = some B) : B.cells.all (isInt .u64) = true := by
  have hl := getB_lt hB
  have hm : some B ∈ M := by
    unfold getB at hB
    rw [List.getElem?_eq_getElem hl] at hB
    simp only [Option.getD_some] at hB
    rw [← hB]; exact List.getElem_mem hl
  exact List.all_eq_true.1 h _ hm
/-- A slice of bytes lies not in a table. -/
theorem not_tab {v : Sv} {y : List Value} (hG : Glo M5 w) (hs : WSrc v.val v.n y w) (hu : ∀ u ∈ y, IsU8 u) {g : Nat} (hg : (getB M5 g).isSome = true) : ∀ a, v.x = some a → v.n = 0 ∨ a.block ≠ g := by
  intro a ha
  obtain ⟨hl, ⟨c, hv, h0⟩ | ⟨c, o, cap, hv, hc, hj⟩⟩ := hs
  · exact .inl h0
  · rcases Nat.eq_zero_or_pos v.n with h0 | h0
    · exact .inl h0
    · right
      rintro rfl
      unfold Sv.val at hv
      rw [ha] at hv
      simp only [Value.slice.injEq, Option.some.injEq] at hv
      obtain ⟨rfl, _⟩ := hv
      obtain ⟨B, hB⟩ := Option.isSome_iff_exists.1 hg
      have hw := hG _ B hB
      have h1 := hj 0 y[0] (by rw [List.getElem?_eq_getElem (by omega)])
      obtain ⟨x, hx⟩ := hu y[0] (List.getElem_mem _)
      rw [hx] at h1
      simp only [World.cell?, hw, Option.isSome_none, Bool.false_eq_true, if_false, List.getElem?_toArray] at h1
      have := List.all_eq_true.1 (allU64_get M5_u64 hB) _ (List.mem_of_getElem? h1)
      simp [isInt] at this
theorem oneR_rel {ps : Parts} {c : Nat} {ty : BT} (hG : Glo M5 w) (hcg : ∀ g, (getB M5 g).isSome = true → c ≠ g) (hw : w.heap[c]? = some (.cells (ps.map fun q => q.1.val).toArray ty.id ty.fz)) : Rel (oneR M5 c) (M5 ++ [some ⟨catC ps, ty⟩]) w := by
  refine ⟨fun k B' hB' => ?_, fun k c' hc' => ?_, fun k k' c' h1 h2 => ?_⟩
  · rw [getB_snoc] at hB'
    unfold oneR
    split at hB'
    · rename_i e
      rw [if_pos e]
      cases hB'
      exact ⟨c, _, rfl, Cat.catC_tr _ ps, hw⟩
    · rename_i e
      rw [if_neg e]
      exact ⟨k, B'.cells, by simp [glR, hB'], trL_all (tr1_flat _) (flatM_get M5_flat hB'), hG k B' hB'⟩
  · rw [getB_snoc]
    unfold oneR at hc'
    split at hc'
    · rename_i e; rw [if_pos e]; exact ⟨_, rfl⟩
    · rename_i e; rw [if_neg e]; exact (glR_some hc').2
  · unfold oneR at h1 h2
    split at h1 <;> split at h2
    · rename_i e1 e2; rw [e1, e2]
    · rename_i e1 e2
      cases h1
      obtain ⟨e, B2, hB2⟩ := glR_some h2
      exact absurd e (hcg k' (by rw [hB2]; rfl))
    · rename_i e1 e2
      cases h2
      obtain ⟨e, B2, hB2⟩ := glR_some h1
      exact absurd e (hcg k (by rw [hB2]; rfl))
    · rw [← (glR_some h1).1, ← (glR_some h2).1]
theorem catU8 {ps : Parts} (hu : ∀ q ∈ ps, ∀ v ∈ q.2, IsU8 v) : ∀ t, ∀ v ∈ catY ps t, IsU8 v := by
  intro t v hv
  unfold catY at hv
  obtain ⟨l, hl, hv⟩ := List.mem_flatten.1 hv
  obtain ⟨q, hq, rfl⟩ := List.mem_map.1 hl
  exact hu q (List.mem_of_mem_take hq) v hv
def hsH (ps : Parts) (c : Nat) (r₀ : Ren) (w₀ : World) : Prop := r₀ ng = some c ∧ ∀ q ∈ ps, WSrc q.1.val q.1.n q.2 w₀ ∧ apart r₀ q.1.val
theorem hashed_body (ps : Parts) (hps : catOK ps) (hu : ∀ q ∈ ps, ∀ v ∈ q.2, IsU8 v) (hp2 : ps.length ≤ 1000) (h0 : 0 < catN ps ps.length) (hs : catN ps ps.length ≤ 140737488355328) (c : Nat) (ty : BT) :
    SWn (hsH ps c) Tryd.prog Shf.gl5 (bodyOf Tryd.f12) (h0S Tryd.f12 ps.length ps ty) fun e s => (e = .normal ∨ e = .ret) ∧ s.1.defers = [] ∧ ∃ v, sres Tryd.prog Tryd.f12 s = some v ∧ (flat v = true ∨ v = undef) ∧ (∀ i B, getB (M5 ++ [some ⟨catC ps, ty⟩]) i = some B → getB s.2 i = some B) ∧ v = hashV (catY ps ps.length) := by
  rw [h_code]
  refine SWn.preG N7_ok mixed N7_gl rfl (h_1 ps.length ps ty) (by simp) (SWn.seq ?_)
  rw [show hC (bodyOf Tryd.f12) = .region (rId (hC (bodyOf Tryd.f12))) (rOps (hC (bodyOf Tryd.f12))) false from (by kernel_rfl)]
  refine SWn.region ?_
  rw [show List.range (rOps (hC (bodyOf Tryd.f12))).size = [0] ++ (1 :: ([2, 3, 4] ++ [])) from (by kernel_rfl)]
  refine SWL.steps N7_ok N7_gl (by simp) ?_ [0] [] _ (h_2 ps.length ps ty)
  refine Cat.SWL.callR (c := hC (bodyOf Tryd.f12)) (d := 4) (f := 17) (args := #[.tmp 3]) (ts := #[50]) (n := catN ps ps.length) (e := 5) (R := fun cap q => OwnRow (catY ps ps.length) cap q) (by kernel_rfl) ?_ ?_
  · intro r₀ w₀ A w r hH S
    have e1 := S.eval (h_2o ps.length ps ty)
    rw [h_2e] at e1
    obtain ⟨c', hc', e2⟩ := tr_slice e1
    have hc : r ng = some c := S.ext.1 _ _ hH.1
    rw [hc] at hc'
    cases hc'
    have hm := h_2m ps.length ps ty
    obtain ⟨c1, cs, p1, p2, p3⟩ := S.rel.cells ng ⟨catC ps, ty⟩ (by rw [hm]; exact hM_get ps ty)
    rw [hc] at p1; cases p1
    rw [Cat.catC_tr] at p2
    cases p2
    rw [show (#[Operand.tmp 3] : Array Operand).map A.eval = #[A.eval (.tmp 3)] by simp, e2]
    refine cat_calls ps hps hp2 h0 hs p3 fun q hq => ?_
    obtain ⟨q1, q2⟩ := hH.2 q hq
    refine ⟨q1.fr q2 S.fr, ?_⟩
    unfold apart Sv.val at q2
    unfold Cat.notAt Sv.val
    cases hx : q.1.x with
    | none => trivial
    | some a =>
      rw [hx] at q2
      exact q2.imp id fun h e => h ng (by rw [hH.1, e])
  · intro cap q hf hrow
    have hm := h_2m ps.length ps ty
    rw [hm, hM_len]
    have hy : (catY ps ps.length).length = catN ps ps.length := rfl
    refine SWL.steps N7_ok N7_gl (fun p hp => ?_) (SWL.nil ?_) [2, 3, 4] [] _ (h_3 ps.length ps ty (catN ps ps.length) cap q)
    · simp only [List.mem_cons, List.not_mem_nil, or_false] at hp
      rcases hp with rfl | rfl | rfl
      · exact flatR_of hf
      · rw [← hy]; exact Tsm_own hrow (catU8 hu _) (by rw [hy]; omega)
      · rw [← hy, Vsm_own hrow]; exact shaV_B _
    · refine SW.n (SW.ret ⟨.inr rfl, h_3d ps.length ps ty _ cap q, _, h_3r ps.length ps ty _ cap q, .inl ?_, fun i B hB => ?_, ?_⟩)
      · exact Sc.flat_bv _
      · rw [h_3m]
        have hl := getB_lt hB
        unfold getB at hB ⊢
        rw [List.getElem?_append_left hl]; exact hB
      · rw [← hy, Vsm_own hrow]; rfl
theorem hashed_calls (ps : Parts) (hps : catOK ps) (hu : ∀ q ∈ ps, ∀ v ∈ q.2, IsU8 v) (hp2 : ps.length ≤ 1000) (h0 : 0 < catN ps ps.length) (hs : catN ps ps.length ≤ 140737488355328) {c : Nat} {ty : BT} (hG : Glo M5 w) (hcg : ∀ g, (getB M5 g).isSome = true → c ≠ g) (hw : w.heap[c]? = some (.cells (ps.map fun q => q.1.val).toArray ty.id ty.fz)) (hsrc : ∀ q ∈ ps, WSrc q.1.val q.1.n q.2 w ∧ Cat.notAt c q.1.val) :
    CallOK Tryd.prog 12 #[.slice (some ⟨c, 0, none⟩) ps.length ps.length] w fun v' w' => v' = hashV (catY ps ps.length) ∧ Below w.heap.size w w' := by
  refine call_enter Tryd.func12 (by kernel_rfl) (show _ = some (bodyOf Tryd.f12) from (by kernel_rfl)) ?_
  have hb := hashed_body ps hps hu hp2 h0 hs c ty
  refine (calls_of_SWn (H := hsH ps c) (gl := Shf.gl5) (m := M5 ++ [some ⟨catC ps, ty⟩]) (r := oneR M5 c) (args := [.slice (some ⟨ng, 0, none⟩) ps.length ps.length]) (args' := [.slice (some ⟨c, 0, none⟩) ps.length ps.length]) (R := fun v => v = hashV (catY ps ps.length)) Tryd.func12 (by kernel_rfl) hb (oneR_rel hG hcg hw) ⟨by simp [oneR, M5_len], fun q hq => ⟨(hsrc q hq).1, ?_⟩⟩ (oneR_glob M5_in) ?_).mono ?_
  · have h1 := (hsrc q hq).2
    have h2 : ∀ g, (getB M5 g).isSome = true → ∀ a, q.1.x = some a → q.1.n = 0 ∨ a.block ≠ g := fun g hg => not_tab hG (hsrc q hq).1 (hu q hq) hg
    unfold Cat.notAt Sv.val at h1
    unfold apart Sv.val
    cases hx : q.1.x with
    | none => trivial
    | some a =>
      rw [hx] at h1
      rcases h1 with h1 | h1
      · exact .inl h1
      · rcases Nat.eq_zero_or_pos q.1.n with h0 | h0
        · exact .inl h0
        · refine .inr fun b hb => ?_
          unfold oneR at hb
          split at hb
          · simp only [Option.some.injEq] at hb
            exact h1 hb.symm
          · obtain ⟨e, B, hB⟩ := glR_some hb
            rcases h2 b (by rw [hB]; rfl) a hx with h | h
            · omega
            · exact h e
  · exact trL_mk (tr_of_slice (by simp [oneR, M5_len])) rfl
  · rintro e w' ⟨v, rfl, rfl, hbel⟩
    exact ⟨_, rfl, rfl, hbel⟩
end Go.Proofs.YtaebjponihocaabDoor.Edd
/- All the variables on the road, and hashed as a contract of the engine, beside a message that is the world's own. -/
namespace Go.Proofs.YtaebjponihocaabDoor.Edd
open Go Go.RowKit Shf
open Cat (Parts catC catM catY catN catH catOK cat_calls catY_succ)
set_option linter.unusedSimpArgs false
set_option linter.unusedVariables false
variable {r₀ r : Ren} {w₀ w : World} {m : Mem}
def nA : Nat := Nat.max np ng
def MA : Mem := ((((((List.replicate nA none).set 0 (some ⟨H512, 69⟩)).set 3 (some ⟨K512, 82⟩)).set 2 (some ⟨bl GY, 22⟩)).set 4 (some ⟨bl DN', 22⟩)).set 5 (some ⟨bl 1, 22⟩)).set 1 (some ⟨bl GX, 22⟩)
def glA : List Nat := [0, 3, 2, 4, 5, 1]
theorem MA_flat : flatM MA = true := by kernel_rfl
theorem MA_in : insideG MA glA = true := by kernel_rfl
theorem MA_cov : coversG MA glA = true := by kernel_rfl
theorem M5_covA : coversG M5 glA = true := by kernel_rfl
theorem M0_covA : coversG M0 glA = true := by kernel_rfl
theorem M1_covA : coversG M1 glA = true := by kernel_rfl
theorem M5_MA : gHas M5 MA = true := by kernel_rfl
theorem MA_len : MA.length = nA := by kernel_rfl
theorem MA_M5 (h : Glo MA w) : Glo M5 w := fun b B hB => h b B (gHas_get M5_MA hB)
/-- The message stays the world's own. -/
def msgH (v : Sv) (y : List Value) (r₀ : Ren) (w₀ : World) : Prop := r₀ = glR MA ∧ Glo MA w₀ ∧ WSrc v.val v.n y w₀
def MsgOK (v : Sv) (y : List Value) : Prop := ∀ u ∈ y, IsU8 u
def pieceOf (v : Sv) (y : List Value) (m : Mem) (L : Nat) (u : Value) : Option (List Prop × List Value) :=
  match u with
  | .slice (some ⟨b, o, none⟩) n c => if b = L then none else
    match getB m b with
    | some B => some ([o + n ≤ B.cells.length ∧ ((B.cells.drop o).take n).all (isInt .u8) = true], (B.cells.drop o).take n)
    | none => none
  | .tuple ⟨[.slice x n c]⟩ => some ([x = v.x ∧ n = v.n ∧ c = v.c], y)
  | _ => none
def piecesOf (v : Sv) (y : List Value) (m : Mem) (L : Nat) : List Value → Option (List Prop × List Value)
  | [] => some ([], [])
  | u :: us => match pieceOf v y m L u, piecesOf v y m L us with
    | some (a, b), some (c, d) => some (a ++ c, b ++ d)
    | _, _ => none
def gHsh (v : Sv) (y : List Value) (args : List Value) (m : Mem) : Option (List Prop × Value) :=
  match args with
  | [.slice (some ⟨L, 0, none⟩) p c] => if gHas MA m && (getB MA L).isNone then
      match getB m L with
      | some B => if B.cells.length = p ∧ c = p ∧ p ≤ 1000 then
          match piecesOf v y m L B.cells with
          | some (ts, bs) => some (ts ++ [0 < bs.length ∧ bs.length ≤ 140737488355328], hashV bs)
          | none => none
        else none
      | none => none
    else none
  | _ => none
theorem pieceOf_more {v : Sv} {y : List Value} {L : Nat} {u : Value} {q : List Prop × List Value} {i : Nat} {B : Blk} (hi : m[i]? = some none) (h : pieceOf v y m L u = some q) : pieceOf v y (m.set i (some B)) L u = some q := by
  unfold pieceOf at h ⊢
  split at h
  · rename_i b o n c
    split at h
    · simp at h
    · rename_i hb
      simp only [if_neg hb]
      cases hB : getB m b with
      | none => rw [hB] at h; simp at h
      | some B' => rw [getB_fill (hole_ne hi hB), hB]; rw [hB] at h; exact h
  · exact h
  · simp at h
theorem piecesOf_more {v : Sv} {y : List Value} {L i : Nat} {B : Blk} (hi : m[i]? = some none) : ∀ (us : List Value) {q : List Prop × List Value}, piecesOf v y m L us = some q → piecesOf v y (m.set i (some B)) L us = some q
  | [], q, h => h
  | u :: us, q, h => by
    simp only [piecesOf] at h ⊢
    cases h1 : pieceOf v y m L u with
    | none => rw [h1] at h; simp at h
    | some a =>
      cases h2 : piecesOf v y m L us with
      | none => rw [h1, h2] at h; simp at h
      | some c =>
        rw [pieceOf_more hi h1, piecesOf_more hi us h2]
        rw [h1, h2] at h; exact h
theorem gHsh_more {v : Sv} {y : List Value} : ∀ args (m : Mem) q i B, m[i]? = some none → gHsh v y args m = some q → gHsh v y args (m.set i (some B)) = some q := by
  intro args m q i B hi h
  unfold gHsh at h ⊢
  split at h
  · rename_i L p c
    split at h
    · rename_i hg
      simp only [Bool.and_eq_true] at hg
      simp only [gHas_more hi hg.1, hg.2, Bool.and_self, if_true]
      cases hB : getB m L with
      | none => rw [hB] at h; simp at h
      | some B' =>
        rw [getB_fill (hole_ne hi hB), hB]
        rw [hB] at h
        simp only at h ⊢
        split at h
        · rename_i hc
          simp only [if_pos hc]
          cases hp : piecesOf v y m L B'.cells with
          | none => rw [hp] at h; simp at h
          | some x => rw [piecesOf_more hi _ hp]; rw [hp] at h; exact h
        · simp at h
    · simp at h
  · simp at h
theorem u8_flat {l : List Value} (h : ∀ u ∈ l, IsU8 u) : l.all flat1 = true := List.all_eq_true.2 fun u hu => by
  obtain ⟨x, rfl⟩ := h u hu; rfl
theorem isInt_u8 {l : List Value} (h : l.all (isInt .u8) = true) : ∀ u ∈ l, IsU8 u := fun u hu => by
  have := List.all_eq_true.1 h u hu
  cases u <;> simp [isInt] at this
  subst this; exact ⟨_, rfl⟩
/-- The message in a world that comes of the beginning. -/
theorem msg_now {v : Sv} {y : List Value} (h : msgH v y r₀ w₀) (hf : Fr r₀ w₀ w) (hG : Glo MA w) : WSrc v.val v.n y w := by
  obtain ⟨rfl, hG0, hs⟩ := h
  obtain ⟨hl, ⟨c, hv, h0⟩ | ⟨c, o, cap, hv, hc, hj⟩⟩ := hs
  · exact ⟨hl, .inl ⟨c, hv, h0⟩⟩
  · refine ⟨hl, .inr ⟨c, o, cap, hv, Nat.lt_of_lt_of_le hc hf.size, fun j u hu => ?_⟩⟩
    have h1 := hj j u hu
    have hb : w.heap[c]? = w₀.heap[c]? := by
      cases hm : getB MA c with
      | some B => rw [hG c B hm, hG0 c B hm]
      | none =>
        refine hf.block c hc fun b hb => ?_
        obtain ⟨e, B, hB⟩ := glR_some hb
        subst e
        rw [hm] at hB; cases hB
    simp only [World.cell?] at h1 ⊢
    rw [hb]; exact h1
theorem parts_of {v : Sv} {y : List Value} (hy : MsgOK v y) {L cL : Nat} (hr : Rel r m w) (hL : r L = some cL) (hmsg : WSrc v.val v.n y w) (hna : Cat.notAt cL v.val) : ∀ (us us' : List Value) (ts : List Prop) (bs : List Value), trL (tr1 r) us = some us' → piecesOf v y m L us = some (ts, bs) → (∀ p ∈ ts, p) →
    ∃ ps : Parts, us' = (ps.map fun q => q.1.val) ∧ (ps.map Prod.snd).flatten = bs ∧ ps.length = us.length ∧ ∀ q ∈ ps, q.2.length = q.1.n ∧ (∀ u ∈ q.2, IsU8 u) ∧ WSrc q.1.val q.1.n q.2 w ∧ Cat.notAt cL q.1.val
  | [], us', ts, bs, h, hp, _ => by
    simp only [trL, Option.some.injEq] at h; subst h
    simp only [piecesOf, Option.some.injEq, Prod.mk.injEq] at hp
    exact ⟨[], rfl, hp.2, rfl, fun q hq => by cases hq⟩
  | u :: us, us', ts, bs, h, hp, ht => by
    obtain ⟨u', r', h1, h2, rfl⟩ := trL_cons h
    simp only [piecesOf] at hp
    cases p1 : pieceOf v y m L u with
    | none => rw [p1] at hp; simp at hp
    | some a =>
      cases p2 : piecesOf v y m L us with
      | none => rw [p1, p2] at hp; simp at hp
      | some c =>
        obtain ⟨ta, ba⟩ := a
        obtain ⟨tc, bc⟩ := c
        rw [p1, p2] at hp
        simp only [Option.some.injEq, Prod.mk.injEq] at hp
        obtain ⟨rfl, rfl⟩ := hp
        obtain ⟨ps, e1, e2, e3, e4⟩ := parts_of hy hr hL hmsg hna us r' tc bc h2 p2 (fun p hp => ht p (List.mem_append_right _ hp))
        have key : ∃ q : Sv × List Value, u' = q.1.val ∧ q.2 = ba ∧ q.2.length = q.1.n ∧ (∀ u ∈ q.2, IsU8 u) ∧ WSrc q.1.val q.1.n q.2 w ∧ Cat.notAt cL q.1.val := by
          unfold pieceOf at p1
          split at p1
          · rename_i b o n k
            split at p1
            · simp at p1
            · rename_i hbL
              cases hB : getB m b with
              | none => rw [hB] at p1; simp at p1
              | some B =>
                rw [hB] at p1
                simp only [Option.some.injEq, Prod.mk.injEq] at p1
                obtain ⟨rfl, rfl⟩ := p1
                obtain ⟨t1, t2⟩ := ht _ (List.mem_append_left _ (List.mem_singleton.2 rfl))
                obtain ⟨cb, cs, q1, q2, q3⟩ := hr.cells b B hB
                have hu' : u' = .slice (some ⟨cb, o, none⟩) n k := by
                  simp only [tr1, q1, Option.map_some, Option.some.injEq] at h1
                  exact h1.symm
                subst hu'
                have hu8 := isInt_u8 t2
                have hlen : ((B.cells.drop o).take n).length = n := by rw [List.length_take, List.length_drop]; omega
                refine ⟨(⟨some ⟨cb, o, none⟩, n, k⟩, (B.cells.drop o).take n), rfl, rfl, hlen, hu8, ⟨hlen, .inr ⟨cb, o, k, rfl, hr.lt q1, fun j x hx => ?_⟩⟩, .inr fun e => ?_⟩
                · have e := trL_take n (trL_drop o q2)
                  rw [trL_all (tr1_flat r) (u8_flat hu8)] at e
                  simp only [Option.some.injEq] at e
                  rw [e, List.getElem?_take] at hx
                  split at hx
                  · rw [List.getElem?_drop] at hx
                    simp [World.cell?, q3, hx]
                  · simp at hx
                · simp only at e
                  subst e
                  exact hbL (hr.inj b L cb q1 hL)
          · rename_i x n k
            simp only [Option.some.injEq, Prod.mk.injEq] at p1
            obtain ⟨rfl, rfl⟩ := p1
            obtain ⟨rfl, rfl, rfl⟩ := ht _ (List.mem_append_left _ (List.mem_singleton.2 rfl))
            have hu' : u' = v.val := by
              show u' = Value.slice v.x v.n v.c
              simp only [tr1] at h1
              split at h1
              · simpa using h1.symm
              · simp at h1
            exact ⟨(v, y), hu', rfl, hmsg.1, hy, hmsg, hna⟩
          · simp at p1
        obtain ⟨q, k1, k2, k3, k4, k5, k6⟩ := key
        refine ⟨q :: ps, by rw [k1, e1]; rfl, by rw [List.map_cons, List.flatten_cons, k2, e2], by simp [e3], fun q' hq' => ?_⟩
        rcases List.mem_cons.1 hq' with rfl | hq'
        · exact ⟨k3, k4, k5, k6⟩
        · exact e4 q' hq'
theorem glR_dom {b c : Nat} (h : glR MA b = some c) : (getB MA b).isSome = true := by
  obtain ⟨_, B, hB⟩ := glR_some h; rw [hB]; rfl
theorem gHsh_ok {X : Cx} {v : Sv} {y : List Value} (hX : OkH X Tryd.prog (msgH v y)) (hgl : X.gl = glA) (hy : MsgOK v y) : OkH (X.read 12 (gHsh v y)) Tryd.prog (msgH v y) := by
  refine OkH.read hX (fun r₀ w₀ hH args m ps v' hg hp r w args' hr hf he hglr ha => ?_) gHsh_more
  rw [hgl] at hglr
  unfold gHsh at hg
  split at hg
  · rename_i L p c
    split at hg
    · rename_i hgm
      simp only [Bool.and_eq_true] at hgm
      cases hB : getB m L with
      | none => rw [hB] at hg; simp at hg
      | some B =>
        rw [hB] at hg
        simp only at hg
        split at hg
        · rename_i hc
          obtain ⟨hc1, rfl, hc3⟩ := hc
          cases hpo : piecesOf v y m L B.cells with
          | none => rw [hpo] at hg; simp at hg
          | some x =>
            obtain ⟨ts, bs⟩ := x
            rw [hpo] at hg
            simp only [Option.some.injEq, Prod.mk.injEq] at hg
            obtain ⟨rfl, rfl⟩ := hg
            have hG : Glo MA w := hr.glo hgm.1 MA_flat fun g hg => hglr g (coversG_get MA_cov hg)
            have hmsg := msg_now hH hf hG
            obtain ⟨cL, cs, q1, q2, q3⟩ := hr.cells L B hB
            have hnew : w₀.heap.size ≤ cL := by
              rcases he L cL q1 with h | h
              · rw [hH.1] at h
                have := glR_dom h
                rw [Option.isNone_iff_eq_none] at hgm
                rw [hgm.2] at this; cases this
              · exact h
            have hna : Cat.notAt cL v.val := by
              obtain ⟨_, ⟨c, hv, h0⟩ | ⟨c, o, cap, hv, hcl, _⟩⟩ := hH.2.2
              · rw [hv]; trivial
              · rw [hv]
                right
                show c ≠ cL
                omega
            obtain ⟨ps, e1, e2, e3, e4⟩ := parts_of hy hr q1 hmsg hna B.cells cs ts bs q2 hpo (fun p hp' => hp p (List.mem_append_left _ hp'))
            have hsz := hp _ (List.mem_append_right _ (List.mem_singleton.2 rfl))
            have hcat : catY ps ps.length = bs := by unfold catY; rw [List.take_length]; exact e2
            have hcn : catN ps ps.length = bs.length := by unfold catN; rw [hcat]
            have hlen : ps.length = c := by omega
            obtain ⟨a1, a2, a3⟩ : ∃ a1, args' = [a1] ∧ tr r (.slice (some ⟨L, 0, none⟩) c c) = some a1 := by
              obtain ⟨a1, l1, t1, t2, rfl⟩ := trL_cons ha
              simp only [trL, Option.some.injEq] at t2; subst t2
              exact ⟨a1, rfl, t1⟩
            obtain ⟨c', hc', rfl⟩ := tr_slice a3
            rw [q1] at hc'; cases hc'
            subst a2
            have h := hashed_calls ps (fun q hq => ⟨u8_flat (e4 q hq).2.1, (e4 q hq).1⟩) (fun q hq => (e4 q hq).2.1) (by omega) (by rw [hcn]; exact hsz.1) (by rw [hcn]; exact hsz.2) (c := cL) (ty := B.ty) (MA_M5 hG) (fun g hg e => by
              obtain ⟨B5, hB5⟩ := Option.isSome_iff_exists.1 hg
              have h0 := MA_M5 hH.2.1 g B5 hB5
              have := (Array.getElem?_eq_some_iff.1 h0).1
              omega) (by rw [q3, e1]) (fun q hq => ⟨(e4 q hq).2.2.1, (e4 q hq).2.2.2⟩)
            rw [hlen] at h
            rw [← hlen, hcat, hlen] at h
            have hfv : tr r (hashV bs) = some (hashV bs) := tr_flat r _ (Sc.flat_bv _)
            rcases h with ⟨v', w', k1, rfl, k3⟩ | ⟨k1, k2⟩
            · exact .inl ⟨_, w', k1, hfv, k3⟩
            · refine .inr ⟨k1, k2.mono ?_⟩
              rintro e w' ⟨v', rfl, rfl, k3⟩
              exact ⟨_, rfl, hfv, k3⟩
        · simp at hg
    · simp at hg
  · simp at hg
end Go.Proofs.YtaebjponihocaabDoor.Edd
