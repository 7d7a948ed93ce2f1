/- hashed: SHA-512 of the pieces, as a number modulo L. -/
import Derived.Test.YtdegfgncdphepaaDoorShfT
import Derived.Test.YtdegfgncdphepaaDoorCatC
import Derived.Test.YtdegfgncdphepaaDoorMemP
import Derived.Test.YtdegfgncdphepaaDoorScpB
namespace Go.Proofs.YtdegfgncdphepaaDoor.Edd
open Go Go.RowKit Shf
open Cat (Parts catC catM catY catN catH catOK cat_calls catY_succ notAt)
set_option linter.unusedSimpArgs false
set_option linter.unusedVariables false
/-- A byte, as a value. -/
def IsByte (v : Value) : Prop := ∃ x : Int, v = .int .u8 x ∧ 0 ≤ x ∧ x < 256
theorem blm_bsum : ∀ (l : List Value), (∀ v ∈ l, IsByte v) → Sc.blm l.length (Sc.bsum l) = l
  | [], _ => rfl
  | v :: l, h => by
    obtain ⟨x, rfl, h0, h1⟩ := h v (by simp)
    have ih := blm_bsum l fun v hv => h v (by simp [hv])
    have e : Sc.bsum (.int .u8 x :: l) = x.toNat + 256 * Sc.bsum l := rfl
    rw [e]
    generalize Sc.bsum l = m at *
    unfold Sc.blm at ih ⊢
    rw [List.length_cons, List.range_succ_eq_map, List.map_cons, List.map_map]
    congr 1
    · unfold Sc.by8
      congr 1
      rw [Nat.pow_zero, Nat.div_one]; omega
    · refine Eq.trans (List.map_congr_left fun i _ => ?_) ih
      show Value.int .u8 (Sc.by8 (x.toNat + 256 * m) (i + 1)) = Value.int .u8 (Sc.by8 m i)
      unfold Sc.by8
      rw [Nat.pow_succ, Nat.mul_comm (256 ^ i) 256, ← Nat.div_div_eq_div_mul, show (x.toNat + 256 * m) / 256 = m by omega]
theorem isB64_of {l : List Value} (hl : l.length = 64) (h : ∀ v ∈ l, IsByte v) : Sc.IsB64 (.agg l.toArray) := by
  have e := blm_bsum l h
  rw [hl] at e
  show Value.agg l.toArray = Sc.bv64 (Sc.bnum (.agg l.toArray))
  show Value.agg l.toArray = Value.agg (Sc.blm 64 (Sc.bsum l.toArray.toList)).toArray
  rw [List.toList_toArray, e]
theorem isB_of {l : List Value} (hl : l.length = 32) (h : ∀ v ∈ l, IsByte v) : Sc.IsB (.agg l.toArray) := by
  have e := blm_bsum l h
  rw [hl] at e
  show Value.agg l.toArray = Sc.bv (Sc.bnum (.agg l.toArray))
  show Value.agg l.toArray = Value.agg (Sc.blm 32 (Sc.bsum l.toArray.toList)).toArray
  rw [List.toList_toArray, e]
theorem b8_byte (x : Int) (d : Nat) : IsByte (b8 x d) := ⟨_, rfl, by rw [IntKind.wrap_u8]; omega, by rw [IntKind.wrap_u8]; omega⟩
theorem by32_byte (x : Int) : ∀ v ∈ by32 x, IsByte v := by
  intro v hv
  simp only [by32, List.mem_cons, List.not_mem_nil, or_false] at hv
  rcases hv with rfl | rfl | rfl | rfl
  · exact b8_byte _ _
  · exact b8_byte _ _
  · exact b8_byte _ _
  · exact ⟨_, rfl, by rw [IntKind.wrap_u8]; omega, by rw [IntKind.wrap_u8]; omega⟩
theorem by64_byte (x : Int) : ∀ v ∈ by64 x, IsByte v := by
  intro v hv
  rcases List.mem_append.1 hv with h | h
  · exact by32_byte _ v h
  · exact by32_byte _ v h
theorem out64_byte (s : S8) : ∀ v ∈ out64 s, IsByte v := by
  intro v hv
  unfold out64 at hv
  simp only [List.mem_append] at hv
  rcases hv with h | h | h | h | h | h | h | h <;> exact by64_byte _ v h
theorem out64_len (s : S8) : (out64 s).length = 64 := rfl
/-- SHA-512 of bytes, as a value and as a number modulo L. -/
def shaV (y : List Value) : Value := .agg (out64 (sumB y.length fun i => intL y i)).toArray
def hashV (y : List Value) : Value := Sc.RD (shaV y)
theorem shaV_B (y : List Value) : Sc.IsB64 (shaV y) := isB64_of (out64_len _) (out64_byte _)
theorem own_get {q y : List Value} {cap : Nat} (h : OwnRow y cap q) {i : Nat} (hi : i < y.length) : q[i]? = y[i]? := by
  conv => rhs; rw [← h.eq]
  rw [List.getElem?_take, if_pos hi]
theorem Vsm_own {q y : List Value} {cap : Nat} (h : OwnRow y cap q) : Vsm q 0 y.length [] = shaV y := by
  unfold Vsm shaV
  congr 3
  refine sumB_congr fun i hi => ?_
  rw [Nat.zero_add]
  unfold intL; rw [own_get h hi]
def IsU8 (v : Value) : Prop := ∃ x : Int, v = .int .u8 x
theorem Tsm_own {q y : List Value} {cap : Nat} (h : OwnRow y cap q) (hy : ∀ v ∈ y, IsU8 v) (hn : y.length < 1152921504606846976) : Tsm q 0 y.length cap [] := by
  refine ⟨rfl, h.le, hn, by have := h.len; have := h.le; omega, fun i hi => ?_⟩
  rw [Nat.zero_add]
  have e := own_get h hi
  obtain ⟨x, hx⟩ := hy y[i] (List.getElem_mem hi)
  rw [List.getElem?_eq_getElem hi, hx] at e
  unfold intL; rw [e]
def N7 : Cx := ((Cx.none.glo Shf.gl5).read 16 (Go.Proofs.YtdegfgncdphepaaDoor.gRd M5 Tsm Vsm)).pure 17 Sc.gRedS
theorem N7_ok : N7.Ok Tryd.prog := Sc.gRedS_ok (Shf.gSum_ok (Cx.glo_ok Cx.none_ok (by intro g hg; cases hg)) M5_cov)
theorem N7_gl : N7.gl = Shf.gl5 := by kernel_rfl
/-- hashed's body. -/
def h0S (fn : Func) (p : Nat) (ps : Parts) (ty : BT) : Act × Mem := (sinit fn [.slice (some ⟨ng, 0, none⟩) p p], M5 ++ [some ⟨catC ps, ty⟩])
def h1S (P : Program) (fn : Func) (p : Nat) (ps : Parts) (ty : BT) : Act × Mem := runL P N7 20 [cL (bodyOf fn)] (h0S fn p ps ty)
theorem h_1 (p : Nat) (ps : Parts) (ty : BT) : sexecL Tryd.prog N7 20 [cL (bodyOf Tryd.f9)] [] (h0S Tryd.f9 p ps ty) = some ([], h1S Tryd.prog Tryd.f9 p ps ty) := by kernel_rfl
def hC (c : Code) : Code := cL (cR c)
theorem h_code : bodyOf Tryd.f9 = seqs [cL (bodyOf Tryd.f9)] (.seq (hC (bodyOf Tryd.f9)) .ret) := by kernel_rfl
def h2S (P : Program) (fn : Func) (p : Nat) (ps : Parts) (ty : BT) : Act × Mem := ahead P N7 (hC (bodyOf fn)) [0] (h1S P fn p ps ty)
theorem h_2 (p : Nat) (ps : Parts) (ty : BT) : sseq Tryd.prog N7 (rOps (hC (bodyOf Tryd.f9))) (h1S Tryd.prog Tryd.f9 p ps ty).2.length [0] [] ((h1S Tryd.prog Tryd.f9 p ps ty).1, (h1S Tryd.prog Tryd.f9 p ps ty).2 ++ List.replicate ((rOps (hC (bodyOf Tryd.f9))).toList.filter makes).length none) = some ([], h2S Tryd.prog Tryd.f9 p ps ty) := by kernel_rfl
theorem h_2o (p : Nat) (ps : Parts) (ty : BT) : okX Shf.gl5 (h2S Tryd.prog Tryd.f9 p ps ty).1.eval (.tmp 3) = true := by kernel_rfl
theorem h_2e (p : Nat) (ps : Parts) (ty : BT) : (h2S Tryd.prog Tryd.f9 p ps ty).1.eval (.tmp 3) = .slice (some ⟨ng, 0, none⟩) p p := by kernel_rfl
def z32 : List Value := List.replicate 32 (.int .u8 0)
def hM (ps : Parts) (ty : BT) : Mem := M5 ++ [some ⟨catC ps, ty⟩, some ⟨z32, 22⟩]
theorem h_2m (p : Nat) (ps : Parts) (ty : BT) : (h2S Tryd.prog Tryd.f9 p ps ty).2 = hM ps ty := by kernel_rfl
theorem hM_len (ps : Parts) (ty : BT) : (hM ps ty).length = ng + 2 := by kernel_rfl
theorem hM_get (ps : Parts) (ty : BT) : getB (hM ps ty) ng = some ⟨catC ps, ty⟩ := by kernel_rfl
def h3S (P : Program) (fn : Func) (p : Nat) (ps : Parts) (ty : BT) (n cap : Nat) (q : List Value) : Act × Mem := seqS P N7 (rOps (hC (bodyOf fn))) (ng + 2) [2, 3, 4] ((h2S P fn p ps ty).1.put (some 4) (.slice (some ⟨ng + 2, 0, none⟩) n cap), hM ps ty ++ [some ⟨q, ⟨5, (0, 0)⟩⟩])
theorem h_3 (p : Nat) (ps : Parts) (ty : BT) (n cap : Nat) (q : List Value) : sseq Tryd.prog N7 (rOps (hC (bodyOf Tryd.f9))) (ng + 2) [2, 3, 4] [] ((h2S Tryd.prog Tryd.f9 p ps ty).1.put (some 4) (.slice (some ⟨ng + 2, 0, none⟩) n cap), hM ps ty ++ [some ⟨q, ⟨5, (0, 0)⟩⟩]) = some ([q.all flatR = true, Tsm q 0 n cap [], Sc.IsB64 (Vsm q 0 n [])], h3S Tryd.prog Tryd.f9 p ps ty n cap q) := by kernel_rfl
theorem h_3r (p : Nat) (ps : Parts) (ty : BT) (n cap : Nat) (q : List Value) : sres Tryd.prog Tryd.f9 (h3S Tryd.prog Tryd.f9 p ps ty n cap q) = some (Sc.RD (Vsm q 0 n [])) := by kernel_rfl
theorem h_3d (p : Nat) (ps : Parts) (ty : BT) (n cap : Nat) (q : List Value) : (h3S Tryd.prog Tryd.f9 p ps ty n cap q).1.defers = [] := by kernel_rfl
theorem h_3m (p : Nat) (ps : Parts) (ty : BT) (n cap : Nat) (q : List Value) : (h3S Tryd.prog Tryd.f9 p ps ty n cap q).2 = (M5 ++ [some ⟨catC ps, ty⟩]) ++ (h3S Tryd.prog Tryd.f9 p ps ty n cap q).2.drop (ng + 1) := by kernel_rfl
end Go.Proofs.YtdegfgncdphepaaDoor.Edd
/- hashed: its contract in the world, and as a contract of the engine. -/
namespace Go.Proofs.YtdegfgncdphepaaDoor.Edd
open Go Go.RowKit Shf
open Cat (Parts catC catM catY catN catH catOK cat_calls catY_succ)
set_option linter.unusedSimpArgs false
set_option linter.unusedVariables false
variable {r₀ r : Ren} {w₀ w : World} {m : Mem}
def allU64 (M : Mem) : Bool := M.all fun o => match o with
  | some B => B.cells.all (isInt .u64)
  | none => true
theorem M5_u64 : allU64 M5 = true := by kernel_rfl
theorem allU64_get {M : Mem} (h : allU64 M = true) {b : Nat} {B : Blk} (hB : getB M b = some B) : B.cells.all (isInt .u64) = true := by
  have hl := getB_lt hB
  have hm : some B ∈ M := by
    unfold getB at hB
    rw [List.getElem?_eq_getElem hl] at hB
    simp only [Option.getD_some] at hB
    rw [← hB]; exact List.getElem_mem hl
  exact List.all_eq_true.1 h _ hm
/-- A slice of bytes lies not in a table. -/
theorem not_tab {v : Sv} {y : List Value} (hG : Glo M5 w) (hs : WSrc v.val v.n y w) (hu : ∀ u ∈ y, IsU8 u) {g : Nat} (hg : (getB M5 g).isSome = true) : ∀ a, v.x = some a → v.n = 0 ∨ a.block ≠ g := by
  intro a ha
  obtain ⟨hl, ⟨c, hv, h0⟩ | ⟨c, o, cap, hv, hc, hj⟩⟩ := hs
  · exact .inl h0
  · rcases Nat.eq_zero_or_pos v.n with h0 | h0
    · exact .inl h0
    · right
      rintro rfl
      unfold Sv.val at hv
      rw [ha] at hv
      simp only [Value.slice.injEq, Option.some.injEq] at hv
      obtain ⟨rfl, _⟩ := hv
      obtain ⟨B, hB⟩ := Option.isSome_iff_exists.1 hg
      have hw := hG _ B hB
      have h1 := hj 0 y[0] (by rw [List.getElem?_eq_getElem (by omega)])
      obtain ⟨x, hx⟩ := hu y[0] (List.getElem_mem _)
      rw [hx] at h1
      simp only [World.cell?, hw, Option.isSome_none, Bool.false_eq_true, if_false, List.getElem?_toArray] at h1
      have := List.all_eq_true.1 (allU64_get M5_u64 hB) _ (List.mem_of_getElem? h1)
      simp [isInt] at this
theorem oneR_rel {ps : Parts} {c : Nat} {ty : BT} (hG : Glo M5 w) (hcg : ∀ g, (getB M5 g).isSome = true → c ≠ g) (hw : w.heap[c]? = some (.cells (ps.map fun q => q.1.val).toArray ty.id ty.fz)) : Rel (oneR M5 c) (M5 ++ [some ⟨catC ps, ty⟩]) w := by
  refine ⟨fun k B' hB' => ?_, fun k c' hc' => ?_, fun k k' c' h1 h2 => ?_⟩
  · rw [getB_snoc] at hB'
    unfold oneR
    split at hB'
    · rename_i e
      rw [if_pos e]
      cases hB'
      exact ⟨c, _, rfl, Cat.catC_tr _ ps, hw⟩
    · rename_i e
      rw [if_neg e]
      exact ⟨k, B'.cells, by simp [glR, hB'], trL_all (tr1_flat _) (flatM_get M5_flat hB'), hG k B' hB'⟩
  · rw [getB_snoc]
    unfold oneR at hc'
    split at hc'
    · rename_i e; rw [if_pos e]; exact ⟨_, rfl⟩
    · rename_i e; rw [if_neg e]; exact (glR_some hc').2
  · unfold oneR at h1 h2
    split at h1 <;> split at h2
    · rename_i e1 e2; rw [e1, e2]
    · rename_i e1 e2
      cases h1
      obtain ⟨e, B2, hB2⟩ := glR_some h2
      exact absurd e (hcg k' (by rw [hB2]; rfl))
    · rename_i e1 e2
      cases h2
      obtain ⟨e, B2, hB2⟩ := glR_some h1
      exact absurd e (hcg k (by rw [hB2]; rfl))
    · rw [← (glR_some h1).1, ← (glR_some h2).1]
theorem catU8 {ps : Parts} (hu : ∀ q ∈ ps, ∀ v ∈ q.2, IsU8 v) : ∀ t, ∀ v ∈ catY ps t, IsU8 v := by
  intro t v hv
  unfold catY at hv
  obtain ⟨l, hl, hv⟩ := List.mem_flatten.1 hv
  obtain ⟨q, hq, rfl⟩ := List.mem_map.1 hl
  exact hu q (List.mem_of_mem_take hq) v hv
def hsH (ps : Parts) (c : Nat) (r₀ : Ren) (w₀ : World) : Prop := r₀ ng = some c ∧ ∀ q ∈ ps, WSrc q.1.val q.1.n q.2 w₀ ∧ apart r₀ q.1.val
theorem hashed_body (ps : Parts) (hps : catOK ps) (hu : ∀ q ∈ ps, ∀ v ∈ q.2, IsU8 v) (hp2 : ps.length ≤ 1000) (h0 : 0 < catN ps ps.length) (hs : catN ps ps.length ≤ 140737488355328) (c : Nat) (ty : BT) :
    SWn (hsH ps c) Tryd.prog Shf.gl5 (bodyOf Tryd.f9) (h0S Tryd.f9 ps.length ps ty) fun e s => (e = .normal ∨ e = .ret) ∧ s.1.defers = [] ∧ ∃ v, sres Tryd.prog Tryd.f9 s = some v ∧ (flat v = true ∨ v = undef) ∧ (∀ i B, getB (M5 ++ [some ⟨catC ps, ty⟩]) i = some B → getB s.2 i = some B) ∧ v = hashV (catY ps ps.length) := by
  rw [h_code]
  refine SWn.preG N7_ok mixed N7_gl rfl (h_1 ps.length ps ty) (by simp) (SWn.seq ?_)
  rw [show hC (bodyOf Tryd.f9) = .region (rId (hC (bodyOf Tryd.f9))) (rOps (hC (bodyOf Tryd.f9))) false from (by kernel_rfl)]
  refine SWn.region ?_
  rw [show List.range (rOps (hC (bodyOf Tryd.f9))).size = [0] ++ (1 :: ([2, 3, 4] ++ [])) from (by kernel_rfl)]
  refine SWL.steps N7_ok N7_gl (by simp) ?_ [0] [] _ (h_2 ps.length ps ty)
  refine Cat.SWL.callR (c := hC (bodyOf Tryd.f9)) (d := 4) (f := 12) (args := #[.tmp 3]) (ts := #[40]) (n := catN ps ps.length) (e := 5) (R := fun cap q => OwnRow (catY ps ps.length) cap q) (by kernel_rfl) ?_ ?_
  · intro r₀ w₀ A w r hH S
    have e1 := S.eval (h_2o ps.length ps ty)
    rw [h_2e] at e1
    obtain ⟨c', hc', e2⟩ := tr_slice e1
    have hc : r ng = some c := S.ext.1 _ _ hH.1
    rw [hc] at hc'
    cases hc'
    have hm := h_2m ps.length ps ty
    obtain ⟨c1, cs, p1, p2, p3⟩ := S.rel.cells ng ⟨catC ps, ty⟩ (by rw [hm]; exact hM_get ps ty)
    rw [hc] at p1; cases p1
    rw [Cat.catC_tr] at p2
    cases p2
    rw [show (#[Operand.tmp 3] : Array Operand).map A.eval = #[A.eval (.tmp 3)] by simp, e2]
    refine cat_calls ps hps hp2 h0 hs p3 fun q hq => ?_
    obtain ⟨q1, q2⟩ := hH.2 q hq
    refine ⟨q1.fr q2 S.fr, ?_⟩
    unfold apart Sv.val at q2
    unfold Cat.notAt Sv.val
    cases hx : q.1.x with
    | none => trivial
    | some a =>
      rw [hx] at q2
      exact q2.imp id fun h e => h ng (by rw [hH.1, e])
  · intro cap q hf hrow
    have hm := h_2m ps.length ps ty
    rw [hm, hM_len]
    have hy : (catY ps ps.length).length = catN ps ps.length := rfl
    refine SWL.steps N7_ok N7_gl (fun p hp => ?_) (SWL.nil ?_) [2, 3, 4] [] _ (h_3 ps.length ps ty (catN ps ps.length) cap q)
    · simp only [List.mem_cons, List.not_mem_nil, or_false] at hp
      rcases hp with rfl | rfl | rfl
      · exact flatR_of hf
      · rw [← hy]; exact Tsm_own hrow (catU8 hu _) (by rw [hy]; omega)
      · rw [← hy, Vsm_own hrow]; exact shaV_B _
    · refine SW.n (SW.ret ⟨.inr rfl, h_3d ps.length ps ty _ cap q, _, h_3r ps.length ps ty _ cap q, .inl ?_, fun i B hB => ?_, ?_⟩)
      · exact Sc.flat_bv _
      · rw [h_3m]
        have hl := getB_lt hB
        unfold getB at hB ⊢
        rw [List.getElem?_append_left hl]; exact hB
      · rw [← hy, Vsm_own hrow]; rfl
theorem hashed_calls (ps : Parts) (hps : catOK ps) (hu : ∀ q ∈ ps, ∀ v ∈ q.2, IsU8 v) (hp2 : ps.length ≤ 1000) (h0 : 0 < catN ps ps.length) (hs : catN ps ps.length ≤ 140737488355328) {c : Nat} {ty : BT} (hG : Glo M5 w) (hcg : ∀ g, (getB M5 g).isSome = true → c ≠ g) (hw : w.heap[c]? = some (.cells (ps.map fun q => q.1.val).toArray ty.id ty.fz)) (hsrc : ∀ q ∈ ps, WSrc q.1.val q.1.n q.2 w ∧ Cat.notAt c q.1.val) :
    CallOK Tryd.prog 9 #[.slice (some ⟨c, 0, none⟩) ps.length ps.length] w fun v' w' => v' = hashV (catY ps ps.length) ∧ Below w.heap.size w w' := by
  refine call_enter Tryd.func9 (by kernel_rfl) (show _ = some (bodyOf Tryd.f9) from (by kernel_rfl)) ?_
  have hb := hashed_body ps hps hu hp2 h0 hs c ty
  refine (calls_of_SWn (H := hsH ps c) (gl := Shf.gl5) (m := M5 ++ [some ⟨catC ps, ty⟩]) (r := oneR M5 c) (args := [.slice (some ⟨ng, 0, none⟩) ps.length ps.length]) (args' := [.slice (some ⟨c, 0, none⟩) ps.length ps.length]) (R := fun v => v = hashV (catY ps ps.length)) Tryd.func9 (by kernel_rfl) hb (oneR_rel hG hcg hw) ⟨by simp [oneR, M5_len], fun q hq => ⟨(hsrc q hq).1, ?_⟩⟩ (oneR_glob M5_in) ?_).mono ?_
  · have h1 := (hsrc q hq).2
    have h2 : ∀ g, (getB M5 g).isSome = true → ∀ a, q.1.x = some a → q.1.n = 0 ∨ a.block ≠ g := fun g hg => not_tab hG (hsrc q hq).1 (hu q hq) hg
    unfold Cat.notAt Sv.val at h1
    unfold apart Sv.val
    cases hx : q.1.x with
    | none => trivial
    | some a =>
      rw [hx] at h1
      rcases h1 with h1 | h1
      · exact .inl h1
      · rcases Nat.eq_zero_or_pos q.1.n with h0 | h0
        · exact .inl h0
        · refine .inr fun b hb => ?_
          unfold oneR at hb
          split at hb
          · simp only [Option.some.injEq] at hb
            exact h1 hb.symm
          · obtain ⟨e, B, hB⟩ := glR_some hb
            rcases h2 b (by rw [hB]; rfl) a hx with h | h
            · omega
            · exact h e
  · exact trL_mk (tr_of_slice (by simp [oneR, M5_len])) rfl
  · rintro e w' ⟨v, rfl, rfl, hbel⟩
    exact ⟨_, rfl, rfl, hbel⟩
end Go.Proofs.YtdegfgncdphepaaDoor.Edd
