/- Leaves turned about: copies of the call's own; the root does not hang on the order. -/
import Derived.Test.YtkeobajlikhghabDoorTroD
import Derived.Test.YtkeobajlikhghabDoorTrlA
import Derived.Test.YtkeobajlikhghabDoorTrfB
import Derived.Test.YtkeobajlikhghabDoorTrgA
namespace Go.Proofs.YtkeobajlikhghabDoor
open Go Go.RowKit
set_option linter.unusedSimpArgs false
set_option linter.unusedVariables false
set_option maxRecDepth 100000

theorem ro_perm {ls ms : List Lf} (hp : ms.Perm ls) (hk : ∀ x ∈ ls, x.Ok) {R : List Int} {er : Int} (h : RO ls R er) : RO ms R er := by
  have hk2 : ∀ x ∈ ms, x.Ok := fun x hx => hk x (hp.mem_iff.1 hx)
  have hm : (ms.map ln).Perm (ls.map ln) := hp.map _
  rcases h with ⟨ho, rfl, rfl⟩ | ⟨ho, rfl, rfl⟩
  · obtain ⟨h1, h2⟩ := so_spec ho
    obtain ⟨o2, e2⟩ := so_uniq hk2 (h1.trans hm.symm) h2
    exact .inl ⟨o2, by rw [e2], rfl⟩
  · exact .inr ⟨fun ⟨s, q1, q2⟩ => ho ⟨s, q1.trans hm, q2⟩, rfl, rfl⟩
theorem lit_ownl (w : World) : LO w.heap.size (w.alloc (.cells #[] 27)) (.slice (some ⟨w.heap.size, 0, none⟩) 0 0) [] := by
  have hh : (w.alloc (.cells #[] 27)).heap[w.heap.size]? = some (.cells #[] 27 (0, 0)) := by show (w.heap.push _)[w.heap.size]? = _; simp
  exact ⟨⟨rfl, .inr ⟨w.heap.size, 0, _, rfl, Nat.le_refl _, hh, Nat.le_refl _, by unfold maxLen; omega, rfl, rfl⟩⟩, (fun x hx => by cases hx), by simp⟩
set_option maxHeartbeats 1000000 in
theorem copyLeaves_own (l : List Lf) (hk : ∀ x ∈ l, x.Ok) (hlen : l.length ≤ 3000000000000) (v : Value) (w : World) (hv : LS w v l) :
    Calls Tryd.prog 5 #[v] w fun e w' => ∃ v', e = .returned v' ∧ LO w.heap.size w' v' l ∧ Below w.heap.size w w' := by
  have hl := lit_nol w
  have hb0 : Below w.heap.size w (w.alloc (.cells #[] 27)) := (Below.refl _ w).alloc (Nat.le_refl _) _
  obtain ⟨v', w', hr, h1, h2, -⟩ := app_lown (lit_ownl w) hk (hv.below hb0) (by simpa using hlen)
  have H1 : Hid (LO w.heap.size w' v' l) := h1
  have H2 : Hid (Below w.heap.size w w') := hb0.trans h2
  obtain ⟨ad, cap, rfl, -, -⟩ := hv
  obtain ⟨n, hn⟩ : ∃ n, l.length = n := ⟨_, rfl⟩
  rw [hn] at hr ⊢
  have HR : Hid ((Builtin.append_ #[22, 22] 22 #[.slice (some ⟨w.heap.size, 0, none⟩) 0 0, .slice ad n cap]).run Tryd.prog (w.alloc (.cells #[] 27)) = .ok v' w') := hr
  clear hk hlen h1 h2 hn hr hb0
  go_enter Tryd.func5, Tryd.ntmps5
  go_wp2_with (at_builtin; refine wp_app_run rfl (.tmp 3) (.tmp 4) 22 rfl 22 rfl (.slice (some ⟨w.heap.size, 0, none⟩) 0 0) (.slice ad n cap) v' w' rfl rfl HR.out ?_)
  go_ret
  exact ⟨_, rfl, H1.out, H2.out⟩
/-- The first k of a list from behind, the others as they were. -/
def trn (ls : List Lf) (k : Nat) : List Lf := ls.reverse.take k ++ ls.drop k
theorem trn_len (ls : List Lf) {k : Nat} (hk : k ≤ ls.length) : (trn ls k).length = ls.length := by simp [trn]; omega
theorem trn_step {ls : List Lf} {k : Nat} (hk : k < ls.length) {x : Lf} (hx : ls[ls.length - 1 - k]? = some x) : (trn ls k).take k ++ [x] ++ (trn ls k).drop (k + [x].length) = trn ls (k + 1) := by
  have h1 : (ls.reverse.take k).length = k := by simp; omega
  have hr : ls.reverse[k]? = some x := by rw [List.getElem?_reverse (by omega)]; exact hx
  unfold trn
  rw [List.take_append_of_le_length (by omega), List.take_take, Nat.min_self]
  rw [List.drop_append, List.drop_of_length_le (by rw [h1]; omega), h1, List.nil_append, List.drop_drop]
  obtain ⟨q1, q2⟩ := List.getElem?_eq_some_iff.1 hr
  rw [List.take_succ_eq_append_getElem q1, q2]
  congr 2
  simp
theorem trn_all (ls : List Lf) : trn ls ls.length = ls.reverse := by unfold trn; rw [List.drop_length, List.append_nil, List.take_of_length_le (by simp)]
/-- Two of a list put in each other's place. -/
theorem swap_perm {l : List Lf} {k : Nat} {a b : Lf} (ha : l[0]? = some a) (hb : l[k]? = some b) : ((l.set 0 b).set k a).Perm l := by
  obtain ⟨h1, rfl⟩ := List.getElem?_eq_some_iff.1 ha
  obtain ⟨h2, rfl⟩ := List.getElem?_eq_some_iff.1 hb
  exact List.set_set_perm h1 h2
theorem set_take {l : List Lf} {i : Nat} (hi : i < l.length) (x : Lf) : l.take i ++ [x] ++ l.drop (i + [x].length) = l.set i x := by
  rw [List.set_eq_take_append_cons_drop, if_pos hi]; simp
end Go.Proofs.YtkeobajlikhghabDoor
/- What the law TreeKeeps wants besides. -/
namespace Go.Proofs.YtkeobajlikhghabDoor
open Go Go.RowKit
set_option linter.unusedSimpArgs false
set_option linter.unusedVariables false
set_option maxRecDepth 100000

theorem ext_lp {x : Lf} (h : x.Ok) : (lfc x).toArray.extract 0 (0 + 32) = (bv x.p).toArray := by
  rw [List.extract_toArray]; congr 1
  simp [lfc, lf, List.extract, bv_length, h.p.len, List.take_append]
theorem ext_lq {x : Lf} (h : x.Ok) : (lfc x).toArray.extract 32 (32 + 32) = (bv x.q).toArray := by
  rw [List.extract_toArray]; congr 1
  simp [lfc, lf, List.extract, bv_length, h.p.len, h.q.len, List.drop_append]
  exact List.take_of_length_le (by rw [bv_length, h.q.len]; omega)
set_option maxHeartbeats 1000000 in
theorem eq_lf {x : Lf} (h : x.Ok) (w : World) : (Op.equalIn 10000 27 (.agg (lfc x).toArray) (.agg (lfc x).toArray)).run Tryd.prog w = .ok true w := by
  have hf := run_equalIn_struct (P := Tryd.prog) w 9999 27 (lfc x).toArray (lfc x).toArray (by kernel_rfl) (by kernel_rfl)
  refine hf.trans ?_
  have p1 := part32 w (lfc x).toArray 0
  have p2 := part32 w (lfc x).toArray 32
  rw [ext_lp h] at p1
  rw [ext_lq h] at p2
  have hfs : (Tryd.prog.fieldsOf 27).toList.map (fun f => (f.name == "_", f.type, f.offset)) = [(false, 23, 0), (false, 23, 32)] := by kernel_rfl
  obtain ⟨C, hC⟩ : ∃ C, (lfc x).toArray = C := ⟨_, rfl⟩
  rw [hC] at p1 p2 ⊢
  have key : ∀ (fs : List Field) (l : List (Bool × TypeId × Nat)), fs.map (fun f => (f.name == "_", f.type, f.offset)) = l → (∀ q ∈ l, q.1 = false ∧ ∃ v, (part q.2.1 C q.2.2).run Tryd.prog w = .ok v w ∧ (Op.equalIn 9999 q.2.1 v v).run Tryd.prog w = .ok true w) → (Op.eqFields 9999 C C fs).run Tryd.prog w = .ok true w := by
    intro fs
    induction fs with
    | nil => intro l _ _; simp [Op.eqFields]
    | cons f fs ih =>
      intro l hl hq
      subst hl
      obtain ⟨hn, v, hv, he⟩ := hq (f.name == "_", f.type, f.offset) (by simp)
      have hn' : f.name ≠ "_" := by simpa using hn
      have := ih _ rfl (fun q hq' => hq q (by simp only [List.map_cons]; exact List.mem_cons_of_mem _ hq'))
      unfold Op.eqFields
      rw [if_pos hn']
      simp only [Sem.run_bind, hv, he, Result.andThen_ok, Bool.not_true, Bool.false_eq_true, if_false]
      exact this
  refine key _ _ hfs (fun q hq => ?_)
  simp only [List.mem_cons, List.not_mem_nil, or_false] at hq
  rcases hq with rfl | rfl
  · exact ⟨rfl, _, p1, eq_32' h.p w⟩
  · exact ⟨rfl, _, p2, eq_32' h.q w⟩
theorem eql_lf {x : Lf} (h : x.Ok) (w : World) : (binOp .eql 27 (.agg (lfc x).toArray) (.agg (lfc x).toArray)).run Tryd.prog w = .ok (.bool true) w := by
  have h : (Op.equalIn Op.maxDepth 27 (.agg (lfc x).toArray) (.agg (lfc x).toArray)).run Tryd.prog w = .ok true w := eq_lf h w
  simp [binOp, h, Op.equal, go_sem]
theorem eqg_lf (op : BinOp) (x y : Operand) (a b : Array Value) (w : World) : (eqGuard op 27 x y (.agg a) (.agg b)).run Tryd.prog w = .ok () w := by
  have h : Tryd.prog.eqGuardType Tryd.prog.depth 27 = false := by kernel_rfl
  unfold eqGuard
  cases op <;> first | (simp [h, Result.andThen]; done) | kernel_rfl
/-- A literal of one field. -/
theorem wp_buildk {P : Program} {ops : Array Oper} {rest : List Oper} {o : Oper} {a : Act} {w : World} {Q : Exit → Act → World → Prop} (t : TypeId) (k : Nat) (x0 : Operand) (ho : o.op = .build t #[(k, x0)]) (hgd : o.guard = none) (v0 : Value) (h0 : a.eval x0 = v0) (cells : Array Value)
    (hr : (Instr.build t #[(k, v0)]).run P w = .ok (.agg cells) w) (h : wpList P ops Q rest (a.put o.dst (.agg cells)) w) : wpList P ops Q (o :: rest) a w := by
  refine wpList_plain hgd fun K hK => ?_
  unfold Oper.wp execOp
  simp only [ho, Sem.run_bind, List.map_toArray, List.map_cons, List.map_nil, h0, hr, Result.andThen_ok, Sem.run_pure]
  exact hK _ _ h
def s77 : List Int := 77 :: List.replicate 31 0
theorem s77_l32 : L32 s77 := ⟨by simp [s77], fun z hz => by
  simp only [s77, List.mem_cons, List.mem_replicate] at hz
  omega⟩
theorem build_77 (w : World) : (Instr.build 23 #[(0, .int .u8 77)]).run Tryd.prog w = .ok (.agg (bv s77).toArray) w := by kernel_rfl
theorem build_l77 (w : World) : (Instr.build 27 #[(1, .agg (bv s77).toArray)]).run Tryd.prog w = .ok (.agg (lfc ⟨z32, s77⟩).toArray) w := by kernel_rfl
theorem build_n (c : Int) (w : World) : (Instr.build 35 #[(0, .int .i64 c)]).run Tryd.prog w = .ok (.agg (nc ⟨c, z32, z32⟩).toArray) w := by kernel_rfl
/-- A Len written over. -/
def sn (z : Int) (x : Nd) : Nd := ⟨z, x.p, x.h⟩
theorem ncs_set (z : Int) : ∀ {l : List Nd}, (∀ x ∈ l, x.Ok) → ∀ {k : Nat} {x : Nd}, l[k]? = some x → (ncs l).set (k * 65) (.int .i64 z) = ncs (l.set k (sn z x))
  | [], _, k, x, h => by simp at h
  | a :: r, hk, 0, x, h => by
    simp at h; subst h
    show (nc a ++ ncs r).set (0 * 65) _ = nc (sn z a) ++ ncs r
    rw [Nat.zero_mul]; rfl
  | a :: r, hk, k + 1, x, h => by
    have ih := ncs_set z (l := r) (fun y hy => hk y (List.mem_cons_of_mem _ hy)) (k := k) (x := x) (by simpa using h)
    have ha := nc_length (hk a List.mem_cons_self)
    show (nc a ++ ncs r).set ((k + 1) * 65) _ = nc a ++ ncs (r.set k (sn z x))
    rw [List.set_append_right _ _ (by rw [ha]; omega), ha, show (k + 1) * 65 - 65 = k * 65 by omega, ih]
theorem NO.len1 {B : Nat} {w : World} {g n cap : Nat} {l : List Nd} (h : NO B w (.slice (some ⟨g, 0, none⟩) n cap) l) {k : Nat} {x : Nd} (hx : l[k]? = some x) (z : Int) :
    NO B (w.setCell ⟨g, k * 65, none⟩ (.int .i64 z)) (.slice (some ⟨g, 0, none⟩) n cap) (l.set k (sn z x)) ∧ w.grownBy (w.setCell ⟨g, k * 65, none⟩ (.int .i64 z)) (some g) := by
  have hn : n = l.length := by
    rcases h.1.2 with ⟨h', _⟩ | ⟨g', cap', cur, h', _⟩
    · simp at h'
    · simp at h'; exact h'.2.1
  subst hn
  obtain ⟨h1, h2⟩ := World.ownsRow.stored h.1 (k * 65) (.int .i64 z)
  refine ⟨⟨?_, ?_, Nat.le_trans h.2.2 h2.size⟩, h2⟩
  · rw [List.length_set, ← ncs_set z h.2.1 hx]; exact h1
  · intro q hq
    rcases List.mem_or_eq_of_mem_set hq with e | e
    · exact h.2.1 q e
    · subst e; have := h.2.1 x (List.mem_of_getElem? hx); exact ⟨this.p, this.h⟩
theorem NO.cell0 {B : Nat} {w : World} {g n cap : Nat} {l : List Nd} (h : NO B w (.slice (some ⟨g, 0, none⟩) n cap) l) {k : Nat} {x : Nd} (hx : l[k]? = some x) :
    w.cell? ⟨g, k * 65, none⟩ = some (.int .i64 x.n) ∧ w.frozen? ⟨g, k * 65, none⟩ = false := by
  constructor
  · have := h.1.cells (g := g) rfl (k * 65) (.int .i64 x.n) (by have e := ncs_get h.2.1 k 0 x hx (by omega); rw [Nat.add_zero] at e; rw [e]; rfl)
    rw [addr_add0, Nat.zero_add] at this; exact this
  · rcases h.1.2 with ⟨h', _⟩ | ⟨g', cap', cur, h', _, hg, _⟩
    · simp at h'
    · simp at h'; obtain ⟨rfl, _⟩ := h'
      simp [World.frozen?, hg]
/-- Nodes in a row at its block's beginning, where there are any. -/
def At0 (w : World) (v : Value) (L : List Nd) : Prop := ∃ ad cap, v = .slice ad L.length cap ∧ L.length ≤ cap ∧ ((L = [] ∧ (ad = none → cap = 0)) ∨ ∃ b, ad = some ⟨b, 0, none⟩ ∧ b < w.heap.size ∧ ∀ (i : Nat) (x : Nd), L[i]? = some x → w.rangeAt b (0 + i * 65) (nc x))
theorem At0.ns {w : World} {v : Value} {L : List Nd} (h : At0 w v L) : NS w v L := by
  obtain ⟨ad, cap, rfl, hc, hx⟩ := h
  refine ⟨ad, cap, rfl, hc, ?_⟩
  rcases hx with h0 | ⟨b, rfl, hlt, hm⟩
  · exact .inl h0
  · exact .inr ⟨b, 0, rfl, hlt, hm⟩
theorem NO.at0 {B : Nat} {w : World} {v : Value} {l : List Nd} (h : NO B w v l) : At0 w v l := by
  obtain ⟨ad, cap, rfl, hc, hx⟩ := h.ns
  refine ⟨ad, cap, rfl, hc, ?_⟩
  rcases hx with h0 | ⟨b, o, rfl, hlt, hm⟩
  · exact .inl h0
  · rcases h.1.2 with ⟨h', _⟩ | ⟨g', cap', cur, h', _⟩
    · cases h'
    · cases h'
      exact .inr ⟨b, rfl, hlt, hm⟩
theorem At0.below {w w' : World} {v : Value} {L : List Nd} (h : At0 w v L) (hb : Below w.heap.size w w') : At0 w' v L := by
  obtain ⟨ad, cap, rfl, hc, hx⟩ := h
  refine ⟨ad, cap, rfl, hc, ?_⟩
  rcases hx with h0 | ⟨b, rfl, hlt, hm⟩
  · exact .inl h0
  · exact .inr ⟨b, rfl, Nat.lt_of_lt_of_le hlt hb.size, fun i x hi => range_below (hm i x hi) hb hlt⟩
/-- A row stays where another one is written. -/
theorem At0.far {w w' : World} {v : Value} {L : List Nd} {row : Option Nat} (h : At0 w v L) (hg : w.grownBy w' row) (hr : L ≠ [] → ∀ b, v.ownBlock = some b → row ≠ some b) : At0 w' v L := by
  obtain ⟨ad, cap, rfl, hc, hx⟩ := h
  refine ⟨ad, cap, rfl, hc, ?_⟩
  rcases hx with h0 | ⟨b, rfl, hlt, hm⟩
  · exact .inl h0
  · by_cases hL : L = []
    · exact .inl ⟨hL, fun e => by cases e⟩
    · exact .inr ⟨b, rfl, Nat.lt_of_lt_of_le hlt hg.size, fun i x hi j u hu => hg.cell (hm i x hi j u hu) (fun e => hr hL b rfl e.symm)⟩
/-- Rows with unlike beginnings are apart. -/
theorem At0.ne {w : World} {v a : Value} {L La : List Nd} {B : Nat} (h : At0 w v L) (ha : NO B w a La) (h7 : ∀ x ∈ La, x.n = -7) (hL : ∀ x ∈ L, x.n ≠ -7) (hne : L ≠ []) (hna : La ≠ []) : ∀ b, v.ownBlock = some b → a.ownBlock ≠ some b := by
  intro b hb e
  obtain ⟨ad, cap, rfl, hc, hx⟩ := h
  rcases hx with ⟨h0, _⟩ | ⟨b', rfl, hlt, hm⟩
  · exact hne h0
  · have : b' = b := by simpa [Value.ownBlock] using hb
    subst this
    obtain ⟨g, c, rfl, -⟩ := ha.sl hna
    have : g = b' := by simpa [Value.ownBlock] using e
    subst this
    obtain ⟨x, hx⟩ : ∃ x, L[0]? = some x := ⟨L[0]'(List.length_pos_iff.2 hne), List.getElem?_eq_getElem _⟩
    obtain ⟨z, hz⟩ : ∃ x, La[0]? = some x := ⟨La[0]'(List.length_pos_iff.2 hna), List.getElem?_eq_getElem _⟩
    have e1 := hm 0 x hx 0 (.int .i64 x.n) rfl
    have e2 := (ha.cell0 hz).1
    rw [Nat.zero_mul] at e1 e2
    rw [e1] at e2
    have e3 : x.n = z.n := by simpa using e2
    exact hL x (List.mem_of_getElem? hx) (e3.trans (h7 z (List.mem_of_getElem? hz)))
/-- Nodes that stay have a Len. -/
theorem wo_nn {hd : Nd → Bool} {own : Bool} : ∀ (f : Nat) (l : List Nd), Rsn l → ∀ x ∈ wo hd own f l, 0 ≤ x.n
  | 0, _, _, x, hx => by cases hx
  | f + 1, [], _, x, hx => by cases hx
  | f + 1, a :: r, h, x, hx => by
    simp only [wo] at hx
    split at hx
    · obtain rfl : x = ovl (a :: r) := by simpa using hx
      exact (ov_ok h (by simp) _ (Nat.le_refl _)).2.1
    · split at hx
      · cases hx
      · rcases List.mem_append.1 hx with q | q
        · exact wo_nn f _ (h.sub (List.take_sublist _ _)) x q
        · exact wo_nn f _ (h.sub (List.drop_sublist _ _)) x q
/-- What both Opens give, whatever the leaves. -/
theorem opens_both (ls : List Lf) (hk : ∀ x ∈ ls, x.Ok) (hlen : ls.length ≤ 2500000000000) (y : List Int) (hy : L32 y) :
    ∃ L : List Nd, (∀ x ∈ L, x.Ok) ∧ L.length ≤ 2500000000000 ∧ (∀ x ∈ L, x.n ≠ -7) ∧
      (∀ (v : Value) (W : World), LS W v ls → Tb W → Calls Tryd.prog 7 #[v, .agg (bv y).toArray] W fun e w' => ∃ v' er, e = .returned (.tuple #[v', .int .i64 er]) ∧ NO W.heap.size w' v' L ∧ Below W.heap.size W w') ∧
      (∀ (v : Value) (W : World), LS W v ls → Calls Tryd.prog 8 #[v, .agg (bv y).toArray] W fun e w' => ∃ v' er, e = .returned (.tuple #[v', .int .i64 er]) ∧ NO W.heap.size w' v' L ∧ Below W.heap.size W w') := by
  by_cases ho : okl ls
  · have hr := so_rsn hk ho
    have e : opl y (so ls) = wo (fun n => hl n y) true (so ls).length (so ls) := (wo_opl y _ _ hr.ris (Nat.le_refl _)).symm
    have hf := wo_fit (hd := fun n => hl n y) (own := true) (so ls).length (so ls) hr
    refine ⟨opl y (so ls), by rw [e]; exact hf.1, by rw [e]; have h9 := so_len ho; have := hf.2; omega, fun x hx => ?_, fun v W h1 h2 => ?_, fun v W h1 => ?_⟩
    · rw [e] at hx
      have := wo_nn _ _ hr x hx
      omega
    · refine (Open_any ls hk hlen y hy v W h1 h2).mono fun e w' ⟨v', er, q1, q2, q3⟩ => ⟨v', er, q1, ?_, q3⟩
      rcases q2 with ⟨_, _, q⟩ | ⟨q, _⟩
      · exact q
      · exact absurd ho q
    · refine (rOpen_own ls hk hlen y hy v W h1).mono fun e w' ⟨v', er, q1, q2, q3⟩ => ⟨v', er, q1, ?_, q3⟩
      rcases q2 with ⟨_, _, q⟩ | ⟨q, _⟩
      · exact q
      · exact absurd ho q
  · refine ⟨[], (fun x hx => by cases hx), by simp, (fun x hx => by cases hx), fun v W h1 h2 => ?_, fun v W h1 => ?_⟩
    · refine (Open_any ls hk hlen y hy v W h1 h2).mono fun e w' ⟨v', er, q1, q2, q3⟩ => ⟨v', er, q1, ?_, q3⟩
      rcases q2 with ⟨q, _⟩ | ⟨_, _, rfl⟩
      · exact absurd q ho
      · exact NO.nil' q3.size
    · refine (rOpen_own ls hk hlen y hy v W h1).mono fun e w' ⟨v', er, q1, q2, q3⟩ => ⟨v', er, q1, ?_, q3⟩
      rcases q2 with ⟨q, _⟩ | ⟨_, _, rfl⟩
      · exact absurd q ho
      · exact NO.nil' q3.size
end Go.Proofs.YtkeobajlikhghabDoor
