/- The reference's Open, and copyNodes of the law: what they give is new memory. -/
import Derived.Test.YtpojalbpekbfdabDoorTrwB
import Derived.Test.YtpojalbpekbfdabDoorTroA
import Derived.Test.YtpojalbpekbfdabDoorTrrL
import Derived.Test.YtpojalbpekbfdabDoorTrrK
import Derived.Test.YtpojalbpekbfdabDoorTrmC
namespace Go.Proofs.YtpojalbpekbfdabDoor
open Go Go.RowKit
set_option linter.unusedSimpArgs false
set_option linter.unusedVariables false
set_option maxRecDepth 100000

def ROp (B : Nat) (ls : List Lf) (y : List Int) (v' : Value) (er : Int) (w' : World) : Prop := (okl ls ∧ er = 0 ∧ NO B w' v' (opl y (so ls))) ∨ (¬ okl ls ∧ er = 1 ∧ v' = .slice none 0 0)
theorem size_al9 (w : World) (X : Obj) : (w.alloc X).heap.size = w.heap.size + 1 := by simp
end Go.Proofs.YtpojalbpekbfdabDoor
/- What the law TreeKeeps wants besides. -/
namespace Go.Proofs.YtpojalbpekbfdabDoor
open Go Go.RowKit
set_option linter.unusedSimpArgs false
set_option linter.unusedVariables false
set_option maxRecDepth 100000

theorem ext_lp {x : Lf} (h : x.Ok) : (lfc x).toArray.extract 0 (0 + 32) = (bv x.p).toArray := by
  rw [List.extract_toArray]; congr 1
  simp [lfc, lf, List.extract, bv_length, h.p.len, List.take_append]
theorem ext_lq {x : Lf} (h : x.Ok) : (lfc x).toArray.extract 32 (32 + 32) = (bv x.q).toArray := by
  rw [List.extract_toArray]; congr 1
  simp [lfc, lf, List.extract, bv_length, h.p.len, h.q.len, List.drop_append]
  exact List.take_of_length_le (by rw [bv_length, h.q.len]; omega)
set_option maxHeartbeats 1000000 in
theorem eq_lf {x : Lf} (h : x.Ok) (w : World) : (Op.equalIn 10000 27 (.agg (lfc x).toArray) (.agg (lfc x).toArray)).run Tryd.prog w = .ok true w := by
  have hf := run_equalIn_struct (P := Tryd.prog) w 9999 27 (lfc x).toArray (lfc x).toArray (by kernel_rfl) (by kernel_rfl)
  refine hf.trans ?_
  have p1 := part32 w (lfc x).toArray 0
  have p2 := part32 w (lfc x).toArray 32
  rw [ext_lp h] at p1
  rw [ext_lq h] at p2
  have hfs : (Tryd.prog.fieldsOf 27).toList.map (fun f => (f.name == "_", f.type, f.offset)) = [(false, 25, 0), (false, 25, 32)] := by kernel_rfl
  obtain ⟨C, hC⟩ : ∃ C, (lfc x).toArray = C := ⟨_, rfl⟩
  rw [hC] at p1 p2 ⊢
  have key : ∀ (fs : List Field) (l : List (Bool × TypeId × Nat)), fs.map (fun f => (f.name == "_", f.type, f.offset)) = l → (∀ q ∈ l, q.1 = false ∧ ∃ v, (part q.2.1 C q.2.2).run Tryd.prog w = .ok v w ∧ (Op.equalIn 9999 q.2.1 v v).run Tryd.prog w = .ok true w) → (Op.eqFields 9999 C C fs).run Tryd.prog w = .ok true w := by
    intro fs
    induction fs with
    | nil => intro l _ _; simp [Op.eqFields]
    | cons f fs ih =>
      intro l hl hq
      subst hl
      obtain ⟨hn, v, hv, he⟩ := hq (f.name == "_", f.type, f.offset) (by simp)
      have hn' : f.name ≠ "_" := by simpa using hn
      have := ih _ rfl (fun q hq' => hq q (by simp only [List.map_cons]; exact List.mem_cons_of_mem _ hq'))
      unfold Op.eqFields
      rw [if_pos hn']
      simp only [Sem.run_bind, hv, he, Result.andThen_ok, Bool.not_true, Bool.false_eq_true, if_false]
      exact this
  refine key _ _ hfs (fun q hq => ?_)
  simp only [List.mem_cons, List.not_mem_nil, or_false] at hq
  rcases hq with rfl | rfl
  · exact ⟨rfl, _, p1, eq_32' h.p w⟩
  · exact ⟨rfl, _, p2, eq_32' h.q w⟩
theorem eql_lf {x : Lf} (h : x.Ok) (w : World) : (binOp .eql 27 (.agg (lfc x).toArray) (.agg (lfc x).toArray)).run Tryd.prog w = .ok (.bool true) w := by
  have h : (Op.equalIn Op.maxDepth 27 (.agg (lfc x).toArray) (.agg (lfc x).toArray)).run Tryd.prog w = .ok true w := eq_lf h w
  simp [binOp, h, Op.equal, go_sem]
theorem eqg_lf (op : BinOp) (x y : Operand) (a b : Array Value) (w : World) : (eqGuard op 27 x y (.agg a) (.agg b)).run Tryd.prog w = .ok () w := by
  have h : Tryd.prog.eqGuardType Tryd.prog.depth 27 = false := by kernel_rfl
  unfold eqGuard
  cases op <;> first | (simp [h, Result.andThen]; done) | kernel_rfl
/-- A literal of one field. -/
theorem wp_buildk {P : Program} {ops : Array Oper} {rest : List Oper} {o : Oper} {a : Act} {w : World} {Q : Exit → Act → World → Prop} (t : TypeId) (k : Nat) (x0 : Operand) (ho : o.op = .build t #[(k, x0)]) (hgd : o.guard = none) (v0 : Value) (h0 : a.eval x0 = v0) (cells : Array Value)
    (hr : (Instr.build t #[(k, v0)]).run P w = .ok (.agg cells) w) (h : wpList P ops Q rest (a.put o.dst (.agg cells)) w) : wpList P ops Q (o :: rest) a w := by
  refine wpList_plain hgd fun K hK => ?_
  unfold Oper.wp execOp
  simp only [ho, Sem.run_bind, List.map_toArray, List.map_cons, List.map_nil, h0, hr, Result.andThen_ok, Sem.run_pure]
  exact hK _ _ h
def s77 : List Int := 77 :: List.replicate 31 0
theorem s77_l32 : L32 s77 := ⟨by simp [s77], fun z hz => by
  simp only [s77, List.mem_cons, List.mem_replicate] at hz
  omega⟩
theorem build_77 (w : World) : (Instr.build 25 #[(0, .int .u8 77)]).run Tryd.prog w = .ok (.agg (bv s77).toArray) w := by kernel_rfl
theorem build_l77 (w : World) : (Instr.build 27 #[(1, .agg (bv s77).toArray)]).run Tryd.prog w = .ok (.agg (lfc ⟨z32, s77⟩).toArray) w := by kernel_rfl
theorem build_n (c : Int) (w : World) : (Instr.build 33 #[(0, .int .i64 c)]).run Tryd.prog w = .ok (.agg (nc ⟨c, z32, z32⟩).toArray) w := by kernel_rfl
/-- A Len written over. -/
def sn (z : Int) (x : Nd) : Nd := ⟨z, x.p, x.h⟩
theorem ncs_set (z : Int) : ∀ {l : List Nd}, (∀ x ∈ l, x.Ok) → ∀ {k : Nat} {x : Nd}, l[k]? = some x → (ncs l).set (k * 65) (.int .i64 z) = ncs (l.set k (sn z x))
  | [], _, k, x, h => by simp at h
  | a :: r, hk, 0, x, h => by
    simp at h; subst h
    show (nc a ++ ncs r).set (0 * 65) _ = nc (sn z a) ++ ncs r
    rw [Nat.zero_mul]; rfl
  | a :: r, hk, k + 1, x, h => by
    have ih := ncs_set z (l := r) (fun y hy => hk y (List.mem_cons_of_mem _ hy)) (k := k) (x := x) (by simpa using h)
    have ha := nc_length (hk a List.mem_cons_self)
    show (nc a ++ ncs r).set ((k + 1) * 65) _ = nc a ++ ncs (r.set k (sn z x))
    rw [List.set_append_right _ _ (by rw [ha]; omega), ha, show (k + 1) * 65 - 65 = k * 65 by omega, ih]
theorem NO.len1 {B : Nat} {w : World} {g n cap : Nat} {l : List Nd} (h : NO B w (.slice (some ⟨g, 0, none⟩) n cap) l) {k : Nat} {x : Nd} (hx : l[k]? = some x) (z : Int) :
    NO B (w.setCell ⟨g, k * 65, none⟩ (.int .i64 z)) (.slice (some ⟨g, 0, none⟩) n cap) (l.set k (sn z x)) ∧ w.grownBy (w.setCell ⟨g, k * 65, none⟩ (.int .i64 z)) (some g) := by
  have hn : n = l.length := by
    rcases h.1.2 with ⟨h', _⟩ | ⟨g', cap', cur, h', _⟩
    · simp at h'
    · simp at h'; exact h'.2.1
  subst hn
  obtain ⟨h1, h2⟩ := World.ownsRow.stored h.1 (k * 65) (.int .i64 z)
  refine ⟨⟨?_, ?_, Nat.le_trans h.2.2 h2.size⟩, h2⟩
  · rw [List.length_set, ← ncs_set z h.2.1 hx]; exact h1
  · intro q hq
    rcases List.mem_or_eq_of_mem_set hq with e | e
    · exact h.2.1 q e
    · subst e; have := h.2.1 x (List.mem_of_getElem? hx); exact ⟨this.p, this.h⟩
theorem NO.cell0 {B : Nat} {w : World} {g n cap : Nat} {l : List Nd} (h : NO B w (.slice (some ⟨g, 0, none⟩) n cap) l) {k : Nat} {x : Nd} (hx : l[k]? = some x) :
    w.cell? ⟨g, k * 65, none⟩ = some (.int .i64 x.n) ∧ w.frozen? ⟨g, k * 65, none⟩ = false := by
  constructor
  · have := h.1.cells (g := g) rfl (k * 65) (.int .i64 x.n) (by have e := ncs_get h.2.1 k 0 x hx (by omega); rw [Nat.add_zero] at e; rw [e]; rfl)
    rw [addr_add0, Nat.zero_add] at this; exact this
  · rcases h.1.2 with ⟨h', _⟩ | ⟨g', cap', cur, h', _, hg, _⟩
    · simp at h'
    · simp at h'; obtain ⟨rfl, _⟩ := h'
      simp [World.frozen?, hg]
/-- Nodes in a row at its block's beginning, where there are any. -/
def At0 (w : World) (v : Value) (L : List Nd) : Prop := ∃ ad cap, v = .slice ad L.length cap ∧ L.length ≤ cap ∧ ((L = [] ∧ (ad = none → cap = 0)) ∨ ∃ b, ad = some ⟨b, 0, none⟩ ∧ b < w.heap.size ∧ ∀ (i : Nat) (x : Nd), L[i]? = some x → w.rangeAt b (0 + i * 65) (nc x))
theorem At0.ns {w : World} {v : Value} {L : List Nd} (h : At0 w v L) : NS w v L := by
  obtain ⟨ad, cap, rfl, hc, hx⟩ := h
  refine ⟨ad, cap, rfl, hc, ?_⟩
  rcases hx with h0 | ⟨b, rfl, hlt, hm⟩
  · exact .inl h0
  · exact .inr ⟨b, 0, rfl, hlt, hm⟩
theorem NO.at0 {B : Nat} {w : World} {v : Value} {l : List Nd} (h : NO B w v l) : At0 w v l := by
  obtain ⟨ad, cap, rfl, hc, hx⟩ := h.ns
  refine ⟨ad, cap, rfl, hc, ?_⟩
  rcases hx with h0 | ⟨b, o, rfl, hlt, hm⟩
  · exact .inl h0
  · rcases h.1.2 with ⟨h', _⟩ | ⟨g', cap', cur, h', _⟩
    · cases h'
    · cases h'
      exact .inr ⟨b, rfl, hlt, hm⟩
theorem At0.below {w w' : World} {v : Value} {L : List Nd} (h : At0 w v L) (hb : Below w.heap.size w w') : At0 w' v L := by
  obtain ⟨ad, cap, rfl, hc, hx⟩ := h
  refine ⟨ad, cap, rfl, hc, ?_⟩
  rcases hx with h0 | ⟨b, rfl, hlt, hm⟩
  · exact .inl h0
  · exact .inr ⟨b, rfl, Nat.lt_of_lt_of_le hlt hb.size, fun i x hi => range_below (hm i x hi) hb hlt⟩
/-- A row stays where another one is written. -/
theorem At0.far {w w' : World} {v : Value} {L : List Nd} {row : Option Nat} (h : At0 w v L) (hg : w.grownBy w' row) (hr : L ≠ [] → ∀ b, v.ownBlock = some b → row ≠ some b) : At0 w' v L := by
  obtain ⟨ad, cap, rfl, hc, hx⟩ := h
  refine ⟨ad, cap, rfl, hc, ?_⟩
  rcases hx with h0 | ⟨b, rfl, hlt, hm⟩
  · exact .inl h0
  · by_cases hL : L = []
    · exact .inl ⟨hL, fun e => by cases e⟩
    · exact .inr ⟨b, rfl, Nat.lt_of_lt_of_le hlt hg.size, fun i x hi j u hu => hg.cell (hm i x hi j u hu) (fun e => hr hL b rfl e.symm)⟩
/-- Rows with unlike beginnings are apart. -/
theorem At0.ne {w : World} {v a : Value} {L La : List Nd} {B : Nat} (h : At0 w v L) (ha : NO B w a La) (h7 : ∀ x ∈ La, x.n = -7) (hL : ∀ x ∈ L, x.n ≠ -7) (hne : L ≠ []) (hna : La ≠ []) : ∀ b, v.ownBlock = some b → a.ownBlock ≠ some b := by
  intro b hb e
  obtain ⟨ad, cap, rfl, hc, hx⟩ := h
  rcases hx with ⟨h0, _⟩ | ⟨b', rfl, hlt, hm⟩
  · exact hne h0
  · have : b' = b := by simpa [Value.ownBlock] using hb
    subst this
    obtain ⟨g, c, rfl, -⟩ := ha.sl hna
    have : g = b' := by simpa [Value.ownBlock] using e
    subst this
    obtain ⟨x, hx⟩ : ∃ x, L[0]? = some x := ⟨L[0]'(List.length_pos_iff.2 hne), List.getElem?_eq_getElem _⟩
    obtain ⟨z, hz⟩ : ∃ x, La[0]? = some x := ⟨La[0]'(List.length_pos_iff.2 hna), List.getElem?_eq_getElem _⟩
    have e1 := hm 0 x hx 0 (.int .i64 x.n) rfl
    have e2 := (ha.cell0 hz).1
    rw [Nat.zero_mul] at e1 e2
    rw [e1] at e2
    have e3 : x.n = z.n := by simpa using e2
    exact hL x (List.mem_of_getElem? hx) (e3.trans (h7 z (List.mem_of_getElem? hz)))
/-- Nodes that stay have a Len. -/
theorem wo_nn {hd : Nd → Bool} {own : Bool} : ∀ (f : Nat) (l : List Nd), Rsn l → ∀ x ∈ wo hd own f l, 0 ≤ x.n
  | 0, _, _, x, hx => by cases hx
  | f + 1, [], _, x, hx => by cases hx
  | f + 1, a :: r, h, x, hx => by
    simp only [wo] at hx
    split at hx
    · obtain rfl : x = ovl (a :: r) := by simpa using hx
      exact (ov_ok h (by simp) _ (Nat.le_refl _)).2.1
    · split at hx
      · cases hx
      · rcases List.mem_append.1 hx with q | q
        · exact wo_nn f _ (h.sub (List.take_sublist _ _)) x q
        · exact wo_nn f _ (h.sub (List.drop_sublist _ _)) x q
end Go.Proofs.YtpojalbpekbfdabDoor
/- The reference's Stays gives new memory; what both give. -/
namespace Go.Proofs.YtpojalbpekbfdabDoor
open Go Go.RowKit
set_option linter.unusedSimpArgs false
set_option linter.unusedVariables false
set_option maxRecDepth 100000

set_option maxHeartbeats 4000000 in
theorem rStays_own (ls ms : List Lf) (hk : ∀ x ∈ ls ++ ms, x.Ok) (hlen : ls.length + ms.length ≤ 1400000000000) (v u : Value) (w : World) (hv : LS w v ls) (hu : LS w u ms) :
    Calls Tryd.prog 7 #[v, u] w fun e w' => ∃ v' er, e = .returned (.tuple #[v', .int .i64 er]) ∧ SYo w.heap.size ls ms v' er w' ∧ Below w.heap.size w w' := by
  have hk1 : ∀ x ∈ ls, x.Ok := fun x hx => hk x (List.mem_append_left _ hx)
  have hk2 : ∀ x ∈ ms, x.Ok := fun x hx => hk x (List.mem_append_right _ hx)
  have HK : Hid (∀ x ∈ ls ++ ms, x.Ok) := hk
  have HK1 : Hid (∀ x ∈ ls, x.Ok) := hk1
  have HK2 : Hid (∀ x ∈ ms, x.Ok) := hk2
  have VW : Hid (LS w v ls) := hv
  have VU : Hid (LS w u ms) := hu
  have HLN : Hid (ls.length + ms.length ≤ 1400000000000) := hlen
  have hb0 : Below w.heap.size w (w.alloc (.cells #[] 27)) := (Below.refl _ w).alloc (Nat.le_refl _) _
  obtain ⟨v1, w1, hr1, h1, h2, -⟩ := app_lown (lit_ownl w) hk1 (hv.below hb0) (by simp; omega)
  rw [List.nil_append] at h1
  have b1 : Below w.heap.size w w1 := hb0.trans h2
  obtain ⟨v2, w2, hr2, h3, h4, -⟩ := app_lown h1 hk2 (hu.below b1) (by omega)
  have N2 : Hid (LS w2 v2 (ls ++ ms)) := h3.ls
  have B2 : Hid (Below w.heap.size w w2) := b1.trans h4
  obtain ⟨ad, cap, hv0, hc0, hx0⟩ := id hv
  obtain ⟨au, cu, hu0, hcu0, hxu⟩ := id hu
  obtain ⟨n, hn⟩ : ∃ n, ls.length = n := ⟨_, rfl⟩
  obtain ⟨m, hm⟩ : ∃ n, ms.length = n := ⟨_, rfl⟩
  have HM : Hid (ms.length = m) := hm
  rw [hn] at hv0
  rw [hm] at hu0
  subst hv0
  subst hu0
  have HXU : Hid ((ms = [] ∧ (au = none → cu = 0)) ∨ ∃ b o, au = some ⟨b, o, none⟩ ∧ b < w.heap.size ∧ ∀ (i : Nat) (x : Lf), ms[i]? = some x → w.rangeAt b (o + i * 64) (lfc x)) := hxu
  have HR1 : Hid ((Builtin.append_ #[22, 22] 22 #[.slice (some ⟨w.heap.size, 0, none⟩) 0 0, .slice ad n cap]).run Tryd.prog (w.alloc (.cells #[] 27)) = .ok v1 w1) := hr1
  have HR2 : Hid ((Builtin.append_ #[22, 22] 22 #[v1, .slice au m cu]).run Tryd.prog w1 = .ok v2 w2) := hr2
  have hm9 : m ≤ 1400000000000 := by omega
  clear hk hk1 hk2 hlen hv hu hb0 hr1 h1 h2 b1 hr2 h3 h4 hc0 hx0 hcu0 hxu hn hm
  by_cases ho : okl (ls ++ ms)
  · have HO : Hid (okl (ls ++ ms)) := ho
    obtain ⟨o1, o2, o3⟩ := okl_left HK.out ho
    have HN1 : Hid (Calls Tryd.prog 14 #[v2] w2 fun e w' => ∃ v', e = .returned (.tuple #[v', .bool true]) ∧ NS w' v' (so (ls ++ ms)) ∧ Below w2.heap.size w2 w') := rNodes_yes (ls ++ ms) HK.out (by rw [List.length_append]; have := HLN.out; omega) ho v2 w2 N2.out
    have HN2 : Hid (∀ W : World, Below w.heap.size w W → Calls Tryd.prog 14 #[.slice ad n cap] W fun e w' => ∃ v', e = .returned (.tuple #[v', .bool true]) ∧ NS w' v' (so ls) ∧ Below W.heap.size W w') := fun W q => rNodes_yes ls HK1.out (by have := HLN.out; omega) o1 _ W (VW.out.below q)
    have HWO : Hid (∀ (nv yv : Value) (W : World), NS W nv (so ls) → YS W yv (ms.map (·.p)) → Calls Tryd.prog 15 #[nv, yv, .bool false] W fun e w' => ∃ v', e = .returned v' ∧ NO W.heap.size w' v' (sty ls ms) ∧ Below W.heap.size W w') := fun nv yv W q1 q2 => by
      have := rWithout_own (ms.map (·.p)) (fun y hy => by obtain ⟨x, hx, rfl⟩ := List.mem_map.1 hy; exact (HK2.out x hx).p) (by rw [List.length_map]; have := HLN.out; omega) false _ (so ls) (Nat.le_refl _) (so_rsn HK1.out o1) (by rw [so_len o1]; have := HLN.out; omega) nv yv W q1 q2
      rw [sty_wo HK.out ho _ (by omega)] at this
      exact this
    clear ho o1 o2 o3
    go_enter Tryd.func7, Tryd.ntmps7
    go_upto_region 2 with (first
      | (at_builtin; refine wp_app_run rfl (.tmp 13) (.tmp 14) 22 rfl 22 rfl _ _ v1 w1 rfl rfl HR1.out ?_)
      | (at_builtin; refine wp_app_run rfl (.tmp 15) (.tmp 16) 22 rfl 22 rfl _ _ v2 w2 rfl rfl HR2.out ?_)
      | (go_at_call 14; refine HN1.out.mono ?_; rintro e w3 ⟨v3, rfl, g1, g2⟩; have B3 : Hid (Below w.heap.size w w3) := Below.tr' B2.out g2; clear g1 g2))
    go_wp2_with (go_at_call 14; refine (HN2.out w3 B3.out).mono ?_; rintro e w4 ⟨v4, rfl, g1, g2⟩; have N4 : Hid (NS w4 v4 (so ls)) := g1; have B4 : Hid (Below w.heap.size w w4) := Below.tr' B3.out g2; clear g1 g2)
    go_loopw [10, 30] (fun yv i wr => ∃ k : Nat, k ≤ m ∧ i = .int .i64 (k : Int) ∧ YO w4.heap.size wr yv ((ms.take k).map (·.p)) ∧ Below w4.heap.size w4 wr) (fun _ i _ => m - (intOf i).toNat)
    case atStart => exact ⟨0, Nat.zero_le _, rfl, YO.nil' (Nat.le_refl _), Below.refl _ _⟩
    case round =>
      obtain ⟨k, hkm, rfl, q1, q2⟩ := hrel
      have O5 : Hid (YO w4.heap.size wr u10 ((ms.take k).map (·.p))) := q1
      have G5 : Hid (Below w4.heap.size w4 wr) := q2
      clear q1 q2
      by_cases hlt : k < m
      · have HLT : Hid (k < m) := hlt
        obtain ⟨x, hx⟩ : ∃ x, ms[k]? = some x := ⟨ms[k]'(by rw [HM.out]; exact hlt), List.getElem?_eq_getElem _⟩
        have HX : Hid x.Ok := HK2.out x (List.mem_of_getElem? hx)
        rcases HXU.out with ⟨h0, _⟩ | ⟨b, o, rfl, hlb, hmm⟩
        · rw [h0] at hx; simp at hx
        · have RX : Hid (wr.rangeAt b (o + k * 64) (bv x.p)) := lf_p (range_below (hmm k x hx) (Below.tr' B4.out G5.out) hlb)
          obtain ⟨px, hpx⟩ : ∃ p, x.p = p := ⟨_, rfl⟩
          have HP : Hid (L32 px) := by rw [← hpx]; exact HX.out.p
          have HTP : Hid ((ms.take (k + 1)).map (·.p) = (ms.take k).map (·.p) ++ [px]) := by rw [← hpx]; exact take_p hx
          rw [hpx] at RX
          have HSZ : Hid (((ms.take k).map (·.p)).length + [px].length ≤ 4400000000000) := by show _ ≤ _; rw [List.length_map, List.length_take]; simp only [List.length_cons, List.length_nil]; omega
          obtain ⟨Lk, hLk⟩ : ∃ L, (ms.take k).map (·.p) = L := ⟨_, rfl⟩
          rw [hLk] at O5 HTP HSZ
          clear hmm hlb hx hpx hLk
          go_wp2_with (first
            | (refine wpList_load_mid rfl 25 (.tmp 37) rfl b (o + k * 64) rfl (bv px) _ RX.out Tryd.underlying25 rfl (size_l32 HP.out) ?_)
            | (refine wpList_oney rfl (.tmp 38) rfl px HP.out rfl ?_)
            | (at_builtin; refine wp_appy rfl (.tmp 33) (.tmp 39) rfl rfl w4.heap.size u10 (.slice (some ⟨wr.heap.size, 0, none⟩) 1 1) Lk [px] rfl rfl (O5.out.alloc _) (fun z hz => by simp at hz; subst hz; exact HP.out) (ys_one wr px _) HSZ.out ?_; intro v6 w6 g1 g2; have O6 : Hid (YO w4.heap.size w6 v6 ((ms.take (k + 1)).map (·.p))) := (HTP.out.symm ▸ g1); have G6 : Hid (Below w4.heap.size w4 w6) := (G5.out.alloc G5.out.size _).trans g2; clear g1 g2))
          exact ⟨⟨k + 1, HLT.out, by go_num, O6.out, G6.out⟩, by have := HLT.out; simp [intOf]; omega⟩
      · obtain rfl : k = m := by omega
        have eT : ms.take k = ms := by rw [← HM.out]; exact List.take_length
        have Y5 : Hid (YS wr u10 (ms.map (·.p))) := by have := O5.out.ys; rw [eT] at this; exact this
        clear eT
        go_wp2_with (go_at_call 15; refine (HWO.out v4 u10 wr (N4.out.below G5.out) Y5.out).mono ?_; rintro e w7 ⟨v7, rfl, g1, g2⟩; have N7 : Hid (NO w.heap.size w7 v7 (sty ls ms)) := g1.mono (by have h1 := B4.out.size; have h2 := G5.out.size; omega); have B7 : Hid (Below w.heap.size w w7) := Below.tr' B4.out (Below.tr' G5.out g2); clear g1 g2)
        go_ret2
        exact ⟨_, _, rfl, .inl ⟨HO.out, rfl, N7.out⟩, B7.out⟩
  · have HO : Hid (¬ okl (ls ++ ms)) := ho
    have HN1 : Hid (Calls Tryd.prog 14 #[v2] w2 fun e w' => e = .returned (.tuple #[.slice none 0 0, .bool false]) ∧ Below w2.heap.size w2 w') := rNodes_no (ls ++ ms) HK.out (by rw [List.length_append]; have := HLN.out; omega) ho v2 w2 N2.out
    clear ho
    go_enter Tryd.func7, Tryd.ntmps7
    go_wp2_with (first
      | (at_builtin; refine wp_app_run rfl (.tmp 13) (.tmp 14) 22 rfl 22 rfl _ _ v1 w1 rfl rfl HR1.out ?_)
      | (at_builtin; refine wp_app_run rfl (.tmp 15) (.tmp 16) 22 rfl 22 rfl _ _ v2 w2 rfl rfl HR2.out ?_)
      | (go_at_call 14; refine HN1.out.mono ?_; rintro e w3 ⟨rfl, g2⟩; have B3 : Hid (Below w.heap.size w w3) := Below.tr' B2.out g2; clear g2))
    go_ret2
    exact ⟨_, _, rfl, .inr ⟨HO.out, rfl, rfl⟩, B3.out⟩
theorem stays_own (ls ms : List Lf) (hk : ∀ x ∈ ls ++ ms, x.Ok) (hlen : ls.length + ms.length ≤ 1400000000000) :
    ∃ (L : List Nd) (E : Int), (∀ x ∈ L, x.Ok) ∧ L.length ≤ ls.length ∧ (∀ x ∈ L, x.n ≠ -7) ∧
      (∀ (v u : Value) (W : World), LS W v ls → LS W u ms → Calls Tryd.prog 7 #[v, u] W fun e w' => ∃ v', e = .returned (.tuple #[v', .int .i64 E]) ∧ NO W.heap.size w' v' L ∧ Below W.heap.size W w') ∧
      (∀ (v u : Value) (W : World), LS W v ls → LS W u ms → Tb W → Calls Tryd.prog 6 #[v, u] W fun e w' => ∃ v', e = .returned (.tuple #[v', .int .i64 E]) ∧ NO W.heap.size w' v' L ∧ Below W.heap.size W w') := by
  by_cases ho : okl (ls ++ ms)
  · obtain ⟨f1, f2⟩ := sty_fit hk ho
    have hk1 : ∀ x ∈ ls, x.Ok := fun x hx => hk x (List.mem_append_left _ hx)
    obtain ⟨o1, -, -⟩ := okl_left hk ho
    refine ⟨sty ls ms, 0, f1, f2, fun x hx => ?_, fun v u W h1 h2 => ?_, fun v u W h1 h2 h3 => ?_⟩
    · rw [← sty_wo hk ho (so ls).length (Nat.le_refl _)] at hx
      have := wo_nn _ _ (so_rsn hk1 o1) x hx
      omega
    · refine (rStays_own ls ms hk hlen v u W h1 h2).mono fun e w' ⟨v', er, q1, q2, q3⟩ => ?_
      rcases q2 with ⟨_, rfl, q⟩ | ⟨q, _⟩
      · exact ⟨v', q1, q, q3⟩
      · exact absurd ho q
    · refine (Stays_any ls ms hk hlen v u W h1 h2 h3).mono fun e w' ⟨v', er, q1, q2, q3⟩ => ?_
      rcases q2 with ⟨_, rfl, q⟩ | ⟨q, _⟩
      · exact ⟨v', q1, q, q3⟩
      · exact absurd ho q
  · refine ⟨[], 1, (fun x hx => by cases hx), by simp, (fun x hx => by cases hx), fun v u W h1 h2 => ?_, fun v u W h1 h2 h3 => ?_⟩
    · refine (rStays_own ls ms hk hlen v u W h1 h2).mono fun e w' ⟨v', er, q1, q2, q3⟩ => ?_
      rcases q2 with ⟨q, _⟩ | ⟨_, rfl, rfl⟩
      · exact absurd q ho
      · exact ⟨_, q1, NO.nil' q3.size, q3⟩
    · refine (Stays_any ls ms hk hlen v u W h1 h2 h3).mono fun e w' ⟨v', er, q1, q2, q3⟩ => ?_
      rcases q2 with ⟨q, _⟩ | ⟨_, rfl, rfl⟩
      · exact absurd q ho
      · exact ⟨_, q1, NO.nil' q3.size, q3⟩
end Go.Proofs.YtpojalbpekbfdabDoor
