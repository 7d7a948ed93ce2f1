/- A region that appends to a slice of the call's own. -/
import Derived.Test.YtdegfgncdphepaaDoorMemN
namespace Go.Proofs.YtdegfgncdphepaaDoor
open Go Go.RowKit
set_option linter.unusedSimpArgs false
set_option linter.unusedVariables false
variable {H : Ren → World → Prop} {gl : List Nat} {P : Program} {X : Cx} {Q : Exit → Act × Mem → Prop}
/-- What goes from t goes from s. -/
def Into (H : Ren → World → Prop) (P : Program) (gl : List Nat) (t s : Act × Mem) : Prop := ∀ c Q, SWn H P gl c t Q → SWn H P gl c s Q
theorem Into.refl (s : Act × Mem) : Into H P gl s s := fun _ _ h => h
theorem Into.trans {t s u : Act × Mem} (h : Into H P gl t s) (k : Into H P gl u t) : Into H P gl u s := fun c Q hq => h c Q (k c Q hq)
/-- A row of the call's own: what it holds, its room, and all of its cells. -/
structure OwnRow (y : List Value) (cap : Nat) (cells : List Value) : Prop where
  len : cells.length = cap
  le : y.length ≤ cap
  eq : cells.take y.length = y
  flat : cells.all flat1 = true
theorem OwnRow.room {y news cells : List Value} {cap : Nat} (h : OwnRow y cap cells) (hr : y.length + news.length ≤ cap) (hf : news.all flat1 = true) : OwnRow (y ++ news) cap (putL cells y.length news) := by
  have hl := h.len
  refine ⟨by rw [putL_len _ _ _ (by omega)]; exact hl, by rw [List.length_append]; exact hr, ?_, putL_all _ _ _ _ h.flat hf⟩
  unfold putL
  rw [h.eq, ← List.append_assoc]
  exact List.take_left' rfl
theorem OwnRow.grow {y news cells : List Value} {cap c : Nat} {z : Value} (h : OwnRow y cap cells) (hc : y.length + news.length ≤ c) (hf : news.all flat1 = true) (hz : flat1 z = true) : OwnRow (y ++ news) c (cells.take y.length ++ news ++ List.replicate (c - (y.length + news.length)) z) := by
  rw [h.eq]
  have hy : y.all flat1 = true := by
    rw [← h.eq]
    exact List.all_eq_true.2 fun v hv => List.all_eq_true.1 h.flat v (List.mem_of_mem_take hv)
  refine ⟨by simp; omega, by rw [List.length_append]; exact hc, List.take_left' rfl, ?_⟩
  rw [List.all_append, List.all_append, hy, hf]
  simp only [Bool.true_and, List.all_replicate]
  split
  · rfl
  · exact hz
def seqS (P : Program) (X : Cx) (ops : Array Oper) (h0 : Nat) (l : List Nat) (s : Act × Mem) : Act × Mem :=
  match sseq P X ops h0 l [] s with
  | some (_, s') => s'
  | none => s
theorem SWn.app {n0 id : Nat} {ops : Array Oper} {post : List Nat} {i : Nat} {o : Oper} {sx xx : Operand} {t tx e : TypeId} {info : TypeInfo} {z : Value}
    (hX : X.Ok P) (hgl : X.gl = gl) (ho : ops[i]? = some o) (hg : o.guard = none) (hop : o.op = .call { callee := .builtin .append, args := #[sx, xx], argTypes := #[t, tx] })
    (ht : P.underlying t = some (.slice e)) (hi : P.info? e = some info) (hz : info.zero = some z) (hsz : info.size = 1) (hby : info.bytes = 1) (hzc : z.cells = #[z]) (hzf : flat1 z = true)
    {s s1 : Act × Mem} {h0 : Nat} (hpre : ∀ Q', SWL H P gl ops (i :: post) s1 Q' → SWL H P gl ops (List.range ops.size) (s.1, s.2 ++ List.replicate (ops.toList.filter makes).length none) Q')
    {y news cells : List Value} {cap n j d : Nat} {F : List Nat} {A1 : Nat → Act} {A2 : Nat → Nat → Act} {mb : Mem}
    (hsx : okX gl s1.1.eval sx = true) (hxx : okX gl s1.1.eval xx = true) (hown : s1.1.eval sx = .slice (some ⟨j, 0, none⟩) y.length cap) (hrow : OwnRow y cap cells) (hb : getB s1.2 j = some ⟨cells, ⟨e, (0, 0)⟩⟩)
    (hsrc : SrcS H P tx s1.2 (s1.1.eval xx) n news) (hn : news.length = n) (hsize : y.length + n ≤ 140737488355328)
    (hpost : ∀ b' cap' m', sseq P X ops h0 post [] (s1.1.put o.dst (.slice (some ⟨b', 0, none⟩) (y.length + n) cap'), m') = some ([], (A2 b' cap', m')))
    (hA2 : ∀ b' cap', (forgetL (A2 b' cap') F).eval (.tmp d) = .slice (some ⟨b', 0, none⟩) (y.length + n) cap' ∧ d < (forgetL (A2 b' cap') F).tmps.size ∧ (forgetL (A2 b' cap') F).put (some d) (.slice (some ⟨j, 0, none⟩) (y.length + n) cap') = A1 cap' ∧ fixAll mb j d (forgetL (A2 b' cap') F) = true)
    (hmb : s1.2.take j = mb) (hkeep : memR mb = true) (hlow : ∀ r₀ w₀, H r₀ w₀ → Low n0 r₀) (hn0 : n0 ≤ j) (hglj : ∀ g ∈ gl, g < j ∧ (getB mb g).isSome = true) :
    SWn H P gl (.region id ops false) s (thenS (fun s' => ∃ cap' cells', OwnRow (y ++ news) cap' cells' ∧ Into H P gl (A1 cap', mb ++ [some ⟨cells', ⟨e, (0, 0)⟩⟩]) s') Q) := by
  subst hn
  have hj := getB_lt hb
  have key : ∀ b' cap' m' cells', OwnRow (y ++ news) cap' cells' → getB m' b' = some ⟨cells', ⟨e, (0, 0)⟩⟩ → j ≤ b' → m'.take j = mb → SWL H P gl ops post (s1.1.put o.dst (.slice (some ⟨b', 0, none⟩) (y.length + news.length) cap'), m') (thenS (fun s' => ∃ cap' cells', OwnRow (y ++ news) cap' cells' ∧ Into H P gl (A1 cap', mb ++ [some ⟨cells', ⟨e, (0, 0)⟩⟩]) s') Q) := by
    intro b' cap' m' cells' hr hb' hjb hm
    have := SWL.steps (H := H) (Q := thenS (fun s' => ∃ cap' cells', OwnRow (y ++ news) cap' cells' ∧ Into H P gl (A1 cap', mb ++ [some ⟨cells', ⟨e, (0, 0)⟩⟩]) s') Q) hX hgl (by simp) (l2 := []) (SWL.nil ?_) post [] _ (hpost b' cap' m')
    · rw [List.append_nil] at this; exact this
    · refine ⟨cap', cells', hr, fun c Q' hq => ?_⟩
      obtain ⟨a1, a2, a3, a4⟩ := hA2 b' cap'
      refine SWn.normK (n0 := n0) j d b' (y.length + news.length) cap' F (cells := cells') (ty := e) (s := (A2 b' cap', m')) a1 a2 hb' hjb hr.flat ?_ hlow hn0 (by rw [hm]; exact hkeep) (by rw [hm]; exact a4) (by rw [hm]; exact hglj) hq
      simp only
      rw [a3, hm]
  refine SWn.region (hpre _ ?_)
  refine SWL.append (k := y.length) (cap := cap) (n := news.length) (cells := cells) (news := news) (ty := e) (bo := some j) ho hg hop ht hi hz hsz hby hzc hzf hsx hxx (by rw [hown]; exact .row j _ cap cells e hb hrow.len hrow.le) hsrc hsize (fun h => by cases h) (fun b hb2 hroom => ?_) (fun hgrow c hc => ?_)
  · cases hb2
    refine key j cap _ _ (hrow.room hroom hsrc.1) ?_ (Nat.le_refl _) ?_
    · rw [getB_set, if_pos ⟨rfl, hj⟩]
    · rw [List.take_set_of_le (Nat.le_refl _)]; exact hmb
  · refine key s1.2.length c _ _ (hrow.grow hc hsrc.1 hzf) ?_ (by omega) ?_
    · rw [getB_snoc, if_pos rfl]
    · rw [List.take_append_of_le_length (by omega)]; exact hmb
/-- The same, where the slice is nil still. -/
theorem SWn.app0 {n0 id : Nat} {ops : Array Oper} {post : List Nat} {i : Nat} {o : Oper} {sx xx : Operand} {t tx e : TypeId} {info : TypeInfo} {z : Value}
    (hX : X.Ok P) (hgl : X.gl = gl) (ho : ops[i]? = some o) (hg : o.guard = none) (hop : o.op = .call { callee := .builtin .append, args := #[sx, xx], argTypes := #[t, tx] })
    (ht : P.underlying t = some (.slice e)) (hi : P.info? e = some info) (hz : info.zero = some z) (hsz : info.size = 1) (hby : info.bytes = 1) (hzc : z.cells = #[z]) (hzf : flat1 z = true)
    {s s1 : Act × Mem} {h0 : Nat} (hpre : ∀ Q', SWL H P gl ops (i :: post) s1 Q' → SWL H P gl ops (List.range ops.size) (s.1, s.2 ++ List.replicate (ops.toList.filter makes).length none) Q')
    {news : List Value} {n j d : Nat} {F : List Nat} {A1 : Nat → Act} {A2 : Nat → Nat → Act} {mb : Mem}
    (hsx : okX gl s1.1.eval sx = true) (hxx : okX gl s1.1.eval xx = true) (hown : s1.1.eval sx = .slice none 0 0)
    (hsrc : SrcS H P tx s1.2 (s1.1.eval xx) n news) (hn : news.length = n) (hpos : 0 < n) (hsize : n ≤ 140737488355328)
    (hpost : ∀ b' cap' m', sseq P X ops h0 post [] (s1.1.put o.dst (.slice (some ⟨b', 0, none⟩) n cap'), m') = some ([], (A2 b' cap', m')))
    (hA2 : ∀ b' cap', (forgetL (A2 b' cap') F).eval (.tmp d) = .slice (some ⟨b', 0, none⟩) n cap' ∧ d < (forgetL (A2 b' cap') F).tmps.size ∧ (forgetL (A2 b' cap') F).put (some d) (.slice (some ⟨j, 0, none⟩) n cap') = A1 cap' ∧ fixAll mb j d (forgetL (A2 b' cap') F) = true)
    (hj : j ≤ s1.2.length) (hmb : s1.2.take j = mb) (hkeep : memR mb = true) (hlow : ∀ r₀ w₀, H r₀ w₀ → Low n0 r₀) (hn0 : n0 ≤ j) (hglj : ∀ g ∈ gl, g < j ∧ (getB mb g).isSome = true) :
    SWn H P gl (.region id ops false) s (thenS (fun s' => ∃ cap' cells', OwnRow news cap' cells' ∧ Into H P gl (A1 cap', mb ++ [some ⟨cells', ⟨e, (0, 0)⟩⟩]) s') Q) := by
  subst hn
  have key : ∀ b' cap' m' cells', OwnRow news cap' cells' → getB m' b' = some ⟨cells', ⟨e, (0, 0)⟩⟩ → j ≤ b' → m'.take j = mb → SWL H P gl ops post (s1.1.put o.dst (.slice (some ⟨b', 0, none⟩) news.length cap'), m') (thenS (fun s' => ∃ cap' cells', OwnRow news cap' cells' ∧ Into H P gl (A1 cap', mb ++ [some ⟨cells', ⟨e, (0, 0)⟩⟩]) s') Q) := by
    intro b' cap' m' cells' hr hb' hjb hm
    have := SWL.steps (H := H) (Q := thenS (fun s' => ∃ cap' cells', OwnRow news cap' cells' ∧ Into H P gl (A1 cap', mb ++ [some ⟨cells', ⟨e, (0, 0)⟩⟩]) s') Q) hX hgl (by simp) (l2 := []) (SWL.nil ?_) post [] _ (hpost b' cap' m')
    · rw [List.append_nil] at this; exact this
    · refine ⟨cap', cells', hr, fun c Q' hq => ?_⟩
      obtain ⟨a1, a2, a3, a4⟩ := hA2 b' cap'
      refine SWn.normK (n0 := n0) j d b' news.length cap' F (cells := cells') (ty := e) (s := (A2 b' cap', m')) a1 a2 hb' hjb hr.flat ?_ hlow hn0 (by rw [hm]; exact hkeep) (by rw [hm]; exact a4) (by rw [hm]; exact hglj) hq
      simp only
      rw [a3, hm]
  refine SWn.region (hpre _ ?_)
  have e0 : OwnRow [] 0 [] := ⟨rfl, Nat.le_refl _, rfl, rfl⟩
  refine SWL.append (k := 0) (cap := 0) (n := news.length) (cells := []) (news := news) (ty := e) (bo := none) ho hg hop ht hi hz hsz hby hzc hzf hsx hxx (by rw [hown]; exact .nil e) hsrc (by omega) (fun _ h => by omega) (fun b hb2 => by cases hb2) (fun hgrow c hc => ?_)
  rw [Nat.zero_add] at hc ⊢
  have hr := e0.grow (c := c) (news := news) (z := z) (by simpa using hc) hsrc.1 hzf
  simp only [List.length_nil, Nat.zero_add, List.nil_append] at hr
  refine key s1.2.length c _ _ hr ?_ hj ?_
  · rw [getB_snoc, if_pos rfl]
  · rw [List.take_append_of_le_length hj]; exact hmb
def rOps : Code → Array Oper
  | .region _ ops _ => ops
  | _ => #[]
def rId : Code → Nat
  | .region i _ _ => i
  | _ => 0
/-- The type of slices of bytes. -/
structure ByteT (P : Program) (t e : TypeId) (z : Value) : Prop where
  ht : P.underlying t = some (.slice e)
  hi : (P.info? e).map (fun i => (i.zero, i.size, i.bytes)) = some (some z, 1, 1)
  hzc : z.cells = #[z]
  hzf : flat1 z = true
theorem ByteT.info {P : Program} {t e : TypeId} {z : Value} (h : ByteT P t e z) : ∃ info, P.info? e = some info ∧ info.zero = some z ∧ info.size = 1 ∧ info.bytes = 1 := by
  have := h.hi
  cases hi : P.info? e with
  | none => rw [hi] at this; simp at this
  | some i =>
    rw [hi] at this
    simp only [Option.map_some, Option.some.injEq, Prod.mk.injEq] at this
    exact ⟨i, rfl, this.1, this.2.1, this.2.2⟩
/-- A slice of the world's own, as a value. -/
structure Sv where
  x : Option Addr
  n : Nat
  c : Nat
def Sv.val (v : Sv) : Value := .slice v.x v.n v.c
/-- The state ahead of the append. -/
def ahead (P : Program) (X : Cx) (c : Code) (pre : List Nat) (s : Act × Mem) : Act × Mem :=
  seqS P X (rOps c) s.2.length pre (s.1, s.2 ++ List.replicate ((rOps c).toList.filter makes).length none)
/-- The slots behind it. -/
def behind (P : Program) (X : Cx) (c : Code) (pre post : List Nat) (ds k : Nat) (s : Act × Mem) (b cap : Nat) : Act :=
  (seqS P X (rOps c) s.2.length post ((ahead P X c pre s).1.put (some ds) (.slice (some ⟨b, 0, none⟩) k cap), [])).1
theorem SWn.appR {n0 : Nat} {c : Code} {pre post : List Nat} {i ds : Nat} {sx xx : Operand} {t tx e : TypeId} {z : Value}
    (hX : X.Ok P) (hgl : X.gl = gl) (hT : ByteT P t e z) (hc : c = .region (rId c) (rOps c) false) (hrange : List.range (rOps c).size = pre ++ (i :: (post ++ [])))
    (hop : ((rOps c)[i]?).map (fun o => (o.guard, o.op, o.dst)) = some (none, .call { callee := .builtin .append, args := #[sx, xx], argTypes := #[t, tx] }, some ds))
    {s : Act × Mem} {ps : List Prop} (h1 : sseq P X (rOps c) s.2.length pre [] (s.1, s.2 ++ List.replicate ((rOps c).toList.filter makes).length none) = some (ps, ahead P X c pre s)) (hp : ∀ p ∈ ps, p)
    {y news cells : List Value} {k cap n j d : Nat} {F : List Nat} {A1 : Nat → Act} {mb : Mem} (hk : y.length = k)
    (hsx : okX gl (ahead P X c pre s).1.eval sx = true) (hxx : okX gl (ahead P X c pre s).1.eval xx = true) (hown : (ahead P X c pre s).1.eval sx = .slice (some ⟨j, 0, none⟩) k cap) (hrow : OwnRow y cap cells) (hb : getB (ahead P X c pre s).2 j = some ⟨cells, ⟨e, (0, 0)⟩⟩)
    (hsrc : SrcS H P tx (ahead P X c pre s).2 ((ahead P X c pre s).1.eval xx) n news) (hn : news.length = n) (hsize : k + n ≤ 140737488355328)
    (hpost : ∀ b' cap' m', sseq P X (rOps c) s.2.length post [] ((ahead P X c pre s).1.put (some ds) (.slice (some ⟨b', 0, none⟩) (k + n) cap'), m') = some ([], (behind P X c pre post ds (k + n) s b' cap', m')))
    (h21 : ∀ b' cap', (forgetL (behind P X c pre post ds (k + n) s b' cap') F).eval (.tmp d) = .slice (some ⟨b', 0, none⟩) (k + n) cap')
    (h22 : ∀ b' cap', decide (d < (forgetL (behind P X c pre post ds (k + n) s b' cap') F).tmps.size) = true)
    (h23 : ∀ b' cap', (forgetL (behind P X c pre post ds (k + n) s b' cap') F).put (some d) (.slice (some ⟨j, 0, none⟩) (k + n) cap') = A1 cap')
    (h24 : ∀ b' cap', fixAll mb j d (forgetL (behind P X c pre post ds (k + n) s b' cap') F) = true)
    (hmb : (ahead P X c pre s).2.take j = mb) (hkeep : memR mb = true) (hlow : ∀ r₀ w₀, H r₀ w₀ → Low n0 r₀) (hn0 : n0 ≤ j) (hglj : ∀ g ∈ gl, g < j ∧ (getB mb g).isSome = true) :
    SWn H P gl c s (thenS (fun s' => ∃ cap' cells', OwnRow (y ++ news) cap' cells' ∧ Into H P gl (A1 cap', mb ++ [some ⟨cells', ⟨e, (0, 0)⟩⟩]) s') Q) := by
  subst hk
  obtain ⟨info, hi, hz, hsz, hby⟩ := hT.info
  cases ho : (rOps c)[i]? with
  | none => rw [ho] at hop; simp at hop
  | some o =>
    rw [ho] at hop
    simp only [Option.map_some, Option.some.injEq, Prod.mk.injEq] at hop
    obtain ⟨o1, o2, o3⟩ := hop
    rw [hc]
    exact SWn.app (n0 := n0) (h0 := s.2.length) (s1 := ahead P X c pre s) (A2 := behind P X c pre post ds (y.length + n) s) hX hgl ho o1 o2 hT.ht hi hz hsz hby hT.hzc hT.hzf (fun Q' hq => by rw [hrange, List.append_nil]; exact SWL.steps hX hgl hp hq pre [] _ h1) hsx hxx hown hrow hb hsrc hn hsize (fun b' cap' m' => by rw [o3]; exact hpost b' cap' m') (fun b' cap' => ⟨h21 b' cap', of_decide_eq_true (h22 b' cap'), h23 b' cap', h24 b' cap'⟩) hmb hkeep hlow hn0 hglj
theorem SWn.appR0 {n0 : Nat} {c : Code} {pre post : List Nat} {i ds : Nat} {sx xx : Operand} {t tx e : TypeId} {z : Value}
    (hX : X.Ok P) (hgl : X.gl = gl) (hT : ByteT P t e z) (hc : c = .region (rId c) (rOps c) false) (hrange : List.range (rOps c).size = pre ++ (i :: (post ++ [])))
    (hop : ((rOps c)[i]?).map (fun o => (o.guard, o.op, o.dst)) = some (none, .call { callee := .builtin .append, args := #[sx, xx], argTypes := #[t, tx] }, some ds))
    {s : Act × Mem} {ps : List Prop} (h1 : sseq P X (rOps c) s.2.length pre [] (s.1, s.2 ++ List.replicate ((rOps c).toList.filter makes).length none) = some (ps, ahead P X c pre s)) (hp : ∀ p ∈ ps, p)
    {news : List Value} {n j d : Nat} {F : List Nat} {A1 : Nat → Act} {mb : Mem}
    (hsx : okX gl (ahead P X c pre s).1.eval sx = true) (hxx : okX gl (ahead P X c pre s).1.eval xx = true) (hown : (ahead P X c pre s).1.eval sx = .slice none 0 0)
    (hsrc : SrcS H P tx (ahead P X c pre s).2 ((ahead P X c pre s).1.eval xx) n news) (hn : news.length = n) (hpos : 0 < n) (hsize : n ≤ 140737488355328)
    (hpost : ∀ b' cap' m', sseq P X (rOps c) s.2.length post [] ((ahead P X c pre s).1.put (some ds) (.slice (some ⟨b', 0, none⟩) n cap'), m') = some ([], (behind P X c pre post ds n s b' cap', m')))
    (h21 : ∀ b' cap', (forgetL (behind P X c pre post ds n s b' cap') F).eval (.tmp d) = .slice (some ⟨b', 0, none⟩) n cap')
    (h22 : ∀ b' cap', decide (d < (forgetL (behind P X c pre post ds n s b' cap') F).tmps.size) = true)
    (h23 : ∀ b' cap', (forgetL (behind P X c pre post ds n s b' cap') F).put (some d) (.slice (some ⟨j, 0, none⟩) n cap') = A1 cap')
    (h24 : ∀ b' cap', fixAll mb j d (forgetL (behind P X c pre post ds n s b' cap') F) = true)
    (hj : j ≤ (ahead P X c pre s).2.length) (hmb : (ahead P X c pre s).2.take j = mb) (hkeep : memR mb = true) (hlow : ∀ r₀ w₀, H r₀ w₀ → Low n0 r₀) (hn0 : n0 ≤ j) (hglj : ∀ g ∈ gl, g < j ∧ (getB mb g).isSome = true) :
    SWn H P gl c s (thenS (fun s' => ∃ cap' cells', OwnRow news cap' cells' ∧ Into H P gl (A1 cap', mb ++ [some ⟨cells', ⟨e, (0, 0)⟩⟩]) s') Q) := by
  obtain ⟨info, hi, hz, hsz, hby⟩ := hT.info
  cases ho : (rOps c)[i]? with
  | none => rw [ho] at hop; simp at hop
  | some o =>
    rw [ho] at hop
    simp only [Option.map_some, Option.some.injEq, Prod.mk.injEq] at hop
    obtain ⟨o1, o2, o3⟩ := hop
    rw [hc]
    exact SWn.app0 (n0 := n0) (h0 := s.2.length) (s1 := ahead P X c pre s) (A2 := behind P X c pre post ds n s) hX hgl ho o1 o2 hT.ht hi hz hsz hby hT.hzc hT.hzf (fun Q' hq => by rw [hrange, List.append_nil]; exact SWL.steps hX hgl hp hq pre [] _ h1) hsx hxx hown hsrc hn hpos hsize (fun b' cap' m' => by rw [o3]; exact hpost b' cap' m') (fun b' cap' => ⟨h21 b' cap', of_decide_eq_true (h22 b' cap'), h23 b' cap', h24 b' cap'⟩) hj hmb hkeep hlow hn0 hglj
/-- The slots behind the append, from the state ahead of it. -/
def behindG (P : Program) (X : Cx) (c : Code) (h0 : Nat) (post : List Nat) (ds k : Nat) (s1 : Act × Mem) (b cap : Nat) : Act :=
  (seqS P X (rOps c) h0 post (s1.1.put (some ds) (.slice (some ⟨b, 0, none⟩) k cap), [])).1
theorem SWn.appG {n0 : Nat} {c : Code} {post : List Nat} {i ds h0 : Nat} {sx xx : Operand} {t tx e : TypeId} {z : Value}
    (hX : X.Ok P) (hgl : X.gl = gl) (hT : ByteT P t e z) (hc : c = .region (rId c) (rOps c) false)
    (hop : ((rOps c)[i]?).map (fun o => (o.guard, o.op, o.dst)) = some (none, .call { callee := .builtin .append, args := #[sx, xx], argTypes := #[t, tx] }, some ds))
    {s s1 : Act × Mem} (hpre : ∀ Q', SWL H P gl (rOps c) (i :: post) s1 Q' → SWL H P gl (rOps c) (List.range (rOps c).size) (s.1, s.2 ++ List.replicate ((rOps c).toList.filter makes).length none) Q')
    {y news cells : List Value} {k cap n j d : Nat} {F : List Nat} {A1 : Nat → Act} {mb : Mem} (hk : y.length = k)
    (hsx : okX gl s1.1.eval sx = true) (hxx : okX gl s1.1.eval xx = true) (hown : s1.1.eval sx = .slice (some ⟨j, 0, none⟩) k cap) (hrow : OwnRow y cap cells) (hb : getB s1.2 j = some ⟨cells, ⟨e, (0, 0)⟩⟩)
    (hsrc : SrcS H P tx s1.2 (s1.1.eval xx) n news) (hn : news.length = n) (hsize : k + n ≤ 140737488355328)
    (hpost : ∀ b' cap' m', sseq P X (rOps c) h0 post [] (s1.1.put (some ds) (.slice (some ⟨b', 0, none⟩) (k + n) cap'), m') = some ([], (behindG P X c h0 post ds (k + n) s1 b' cap', m')))
    (h21 : ∀ b' cap', (forgetL (behindG P X c h0 post ds (k + n) s1 b' cap') F).eval (.tmp d) = .slice (some ⟨b', 0, none⟩) (k + n) cap')
    (h22 : ∀ b' cap', decide (d < (forgetL (behindG P X c h0 post ds (k + n) s1 b' cap') F).tmps.size) = true)
    (h23 : ∀ b' cap', (forgetL (behindG P X c h0 post ds (k + n) s1 b' cap') F).put (some d) (.slice (some ⟨j, 0, none⟩) (k + n) cap') = A1 cap')
    (h24 : ∀ b' cap', fixAll mb j d (forgetL (behindG P X c h0 post ds (k + n) s1 b' cap') F) = true)
    (hmb : s1.2.take j = mb) (hkeep : memR mb = true) (hlow : ∀ r₀ w₀, H r₀ w₀ → Low n0 r₀) (hn0 : n0 ≤ j) (hglj : ∀ g ∈ gl, g < j ∧ (getB mb g).isSome = true) :
    SWn H P gl c s (thenS (fun s' => ∃ cap' cells', OwnRow (y ++ news) cap' cells' ∧ Into H P gl (A1 cap', mb ++ [some ⟨cells', ⟨e, (0, 0)⟩⟩]) s') Q) := by
  subst hk
  obtain ⟨info, hi, hz, hsz, hby⟩ := hT.info
  cases ho : (rOps c)[i]? with
  | none => rw [ho] at hop; simp at hop
  | some o =>
    rw [ho] at hop
    simp only [Option.map_some, Option.some.injEq, Prod.mk.injEq] at hop
    obtain ⟨o1, o2, o3⟩ := hop
    rw [hc]
    exact SWn.app (n0 := n0) (h0 := h0) (s1 := s1) (A2 := behindG P X c h0 post ds (y.length + n) s1) hX hgl ho o1 o2 hT.ht hi hz hsz hby hT.hzc hT.hzf hpre hsx hxx hown hrow hb hsrc hn hsize (fun b' cap' m' => by rw [o3]; exact hpost b' cap' m') (fun b' cap' => ⟨h21 b' cap', of_decide_eq_true (h22 b' cap'), h23 b' cap', h24 b' cap'⟩) hmb hkeep hlow hn0 hglj
theorem SWn.appG0 {n0 : Nat} {c : Code} {post : List Nat} {i ds h0 : Nat} {sx xx : Operand} {t tx e : TypeId} {z : Value}
    (hX : X.Ok P) (hgl : X.gl = gl) (hT : ByteT P t e z) (hc : c = .region (rId c) (rOps c) false)
    (hop : ((rOps c)[i]?).map (fun o => (o.guard, o.op, o.dst)) = some (none, .call { callee := .builtin .append, args := #[sx, xx], argTypes := #[t, tx] }, some ds))
    {s s1 : Act × Mem} (hpre : ∀ Q', SWL H P gl (rOps c) (i :: post) s1 Q' → SWL H P gl (rOps c) (List.range (rOps c).size) (s.1, s.2 ++ List.replicate ((rOps c).toList.filter makes).length none) Q')
    {news : List Value} {n j d : Nat} {F : List Nat} {A1 : Nat → Act} {mb : Mem}
    (hsx : okX gl s1.1.eval sx = true) (hxx : okX gl s1.1.eval xx = true) (hown : s1.1.eval sx = .slice none 0 0)
    (hsrc : SrcS H P tx s1.2 (s1.1.eval xx) n news) (hn : news.length = n) (hpos : 0 < n) (hsize : n ≤ 140737488355328)
    (hpost : ∀ b' cap' m', sseq P X (rOps c) h0 post [] (s1.1.put (some ds) (.slice (some ⟨b', 0, none⟩) n cap'), m') = some ([], (behindG P X c h0 post ds n s1 b' cap', m')))
    (h21 : ∀ b' cap', (forgetL (behindG P X c h0 post ds n s1 b' cap') F).eval (.tmp d) = .slice (some ⟨b', 0, none⟩) n cap')
    (h22 : ∀ b' cap', decide (d < (forgetL (behindG P X c h0 post ds n s1 b' cap') F).tmps.size) = true)
    (h23 : ∀ b' cap', (forgetL (behindG P X c h0 post ds n s1 b' cap') F).put (some d) (.slice (some ⟨j, 0, none⟩) n cap') = A1 cap')
    (h24 : ∀ b' cap', fixAll mb j d (forgetL (behindG P X c h0 post ds n s1 b' cap') F) = true)
    (hj : j ≤ s1.2.length) (hmb : s1.2.take j = mb) (hkeep : memR mb = true) (hlow : ∀ r₀ w₀, H r₀ w₀ → Low n0 r₀) (hn0 : n0 ≤ j) (hglj : ∀ g ∈ gl, g < j ∧ (getB mb g).isSome = true) :
    SWn H P gl c s (thenS (fun s' => ∃ cap' cells', OwnRow news cap' cells' ∧ Into H P gl (A1 cap', mb ++ [some ⟨cells', ⟨e, (0, 0)⟩⟩]) s') Q) := by
  obtain ⟨info, hi, hz, hsz, hby⟩ := hT.info
  cases ho : (rOps c)[i]? with
  | none => rw [ho] at hop; simp at hop
  | some o =>
    rw [ho] at hop
    simp only [Option.map_some, Option.some.injEq, Prod.mk.injEq] at hop
    obtain ⟨o1, o2, o3⟩ := hop
    rw [hc]
    exact SWn.app0 (n0 := n0) (h0 := h0) (s1 := s1) (A2 := behindG P X c h0 post ds n s1) hX hgl ho o1 o2 hT.ht hi hz hsz hby hT.hzc hT.hzf hpre hsx hxx hown hsrc hn hpos hsize (fun b' cap' m' => by rw [o3]; exact hpost b' cap' m') (fun b' cap' => ⟨h21 b' cap', of_decide_eq_true (h22 b' cap'), h23 b' cap', h24 b' cap'⟩) hj hmb hkeep hlow hn0 hglj
theorem sload_one {t b o : Nat} {m : Mem} {B : Blk} {v : Value} (hB : getB m b = some B) (hT : (rowT P t).map Prod.fst = some false) (hv : B.cells[o]? = some v) : sload P t b o m = some v := by
  unfold sload
  rw [hB]
  cases h : rowT P t with
  | none => rw [h] at hT; simp at hT
  | some q =>
    obtain ⟨x, n⟩ := q
    rw [h] at hT
    simp only [Option.map_some, Option.some.injEq] at hT
    subst hT
    exact hv
/-- A load within a region, by what lies at the place. -/
theorem SWL.loadR {c : Code} {s : Act × Mem} {l : List Nat} {i d : Nat} {t : TypeId} {x : Operand} {b k : Nat} {v : Value} (ho : ((rOps c)[i]?).map (fun o => (o.guard, o.op, o.dst)) = some (none, .load t x, some d)) (hx : okX gl s.1.eval x = true) (he : s.1.eval x = .pointer (some ⟨b, k, none⟩)) (hl : sload P t b k s.2 = some v)
    (h : SWL H P gl (rOps c) l (s.1.put (some d) v, s.2) Q) : SWL H P gl (rOps c) (i :: l) s Q := by
  cases hoi : (rOps c)[i]? with
  | none => rw [hoi] at ho; simp at ho
  | some o =>
    rw [hoi] at ho
    simp only [Option.map_some, Option.some.injEq, Prod.mk.injEq] at ho
    obtain ⟨o1, o2, o3⟩ := ho
    exact SWL.load hoi o1 o2 hx he hl (by rw [o3]; exact h)
theorem forget_into (l : List Nat) {s t : Act × Mem} (h : (forgetL s.1 l, s.2) = t) : Into H P gl t s := fun c Q hq => by
  obtain ⟨a, m⟩ := s
  exact SWn.forget l (by rw [show (forgetL a l, m) = t from h]; exact hq)
theorem thenS_only {N : Act × Mem → Prop} {e : Exit} {s : Act × Mem} (h : thenS N (fun _ _ => False) e s) : e = .normal ∧ N s := by
  cases e <;> first | exact ⟨rfl, h⟩ | exact h.elim
end Go.Proofs.YtdegfgncdphepaaDoor
