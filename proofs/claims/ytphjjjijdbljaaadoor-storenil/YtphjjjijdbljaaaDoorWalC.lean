/- headOf. -/
import Derived.Test.YtphjjjijdbljaaaDoorWalA
import Derived.Laws.CopyOwn
namespace Go.Proofs.YtphjjjijdbljaaaDoor
open Go Go.RowKit
set_option linter.unusedSimpArgs false
set_option linter.unusedVariables false
set_option maxRecDepth 100000

theorem bv_take (xs : List Int) (n : Nat) : bv (xs.take n) = (bv xs).take n := by simp [bv, List.map_take]
theorem bv_drop (xs : List Int) (n : Nat) : bv (xs.drop n) = (bv xs).drop n := by simp [bv, List.map_drop]
/-- copy of bytes into a block of bytes. -/
theorem wp_copy_bv {o : Oper} {a : Act} {w : World} {K : Act → World → Prop} {Q : Exit → Act → World → Prop} (d s : Operand)
    (ho : o.op = .call { callee := .builtin .copy, args := #[d, s], argTypes := #[71, 71] }) (g off dl dc : Nat) (b so sl sc : Nat) (hd : a.eval d = .slice (some ⟨g, off, none⟩) dl dc) (hs : a.eval s = .slice (some ⟨b, so, none⟩) sl sc)
    (ys : List Int) (t : TypeId) (hg : w.heap[g]? = some (.cells (bv ys).toArray t (0, 0))) (xs : List Int) (hn : xs.length = Nat.min sl dl) (hx : ∀ i, i < xs.length → w.cell? ⟨b, so + i, none⟩ = some (.int .u8 (gi xs i))) (hfit : off + xs.length ≤ ys.length)
    (h : ∀ w', w.grownBy w' (some g) → w'.heap.size = w.heap.size → w'.heap[g]? = some (.cells (bv (ys.take off ++ (xs ++ ys.drop (off + xs.length)))).toArray t (0, 0)) → K (a.put o.dst (.int .i64 (xs.length : Int))) w') : Oper.wp Tryd.prog o a w K Q := by
  have hrun := run_copy_row (P := Tryd.prog) w 71 71 o.type 5 g off dl dc ⟨b, so, none⟩ sl sc (bv ys).toArray t (bv xs) Tryd.underlying71 size_u8' hg (by rw [bv_length]; exact hn) (fun j v hv => by
    obtain ⟨hj, _⟩ := List.getElem?_eq_some_iff.1 hv
    rw [bv_length] at hj
    rw [addr_add0, hx j hj, ← bv_get xs hj, ← hv]) (by rw [bv_length, List.size_toArray, bv_length]; exact hfit) (bv_one _)
  unfold Oper.wp
  simp [execOp, ho, resolve, invoke, builtin, hd, hs, hrun, Result.andThen]
  have e : (bv (ys.take off ++ (xs ++ ys.drop (off + xs.length)))) = (bv ys).take off ++ (bv xs ++ (bv ys).drop (off + (bv xs).length)) := by
    rw [bv_append, bv_append, bv_take, bv_drop, bv_length]
  have hh := h (w.setRow g ((bv ys).take off ++ (bv xs ++ (bv ys).drop (off + (bv xs).length))).toArray) ⟨rfl, rfl, rfl, by simp [World.setRow], fun k _ hk => setRow_other w g k _ (fun e => hk (by rw [e]))⟩ (by simp) (by rw [e]; exact setRow_heap w g _ _ t _ hg)
  have e2 : goInt (bv xs).length = .int .i64 (xs.length : Int) := by rw [bv_length]; rfl
  rw [← e2] at hh
  exact hh
/-- A frame's first sector. -/
def hdp (h : List Int) (n : Nat) : List Int := h ++ (be 8 (n : Int) ++ List.replicate 24 0)
def hd (p : List Int) : List Int := hdp (hs p) p.length
theorem hdp_length {h : List Int} (hh : h.length = 32) (n : Nat) : (hdp h n).length = 64 := by simp [hdp, be_length, hh]
theorem hd_length (p : List Int) : (hd p).length = 64 := hdp_length (hs_length p) _
theorem zero_32 (w : World) : (zeroValue 117).run Tryd.prog w = .ok (.agg (bv (List.replicate 32 0)).toArray) w := by kernel_rfl
theorem size_32 : (Tryd.prog.info? 117).map (·.size) = some 32 := by kernel_rfl
structure HQ (w W : World) (b3 : Nat) (h y : List Int) : Prop where
  below : Below w.heap.size w W
  head : W.heap[w.heap.size]? = some (.cells (bv y).toArray 67 (0, 0))
  sum : W.rangeAt b3 0 (bv h)
  pos : w.heap.size < b3
  lt : b3 < W.heap.size
theorem HQ.more {w W W' : World} {b3 : Nat} {h y : List Int} (x : HQ w W b3 h y) (hb : Below W.heap.size W W') : HQ w W' b3 h y :=
  ⟨x.below.trans (hb.mono x.below.size), (hb.block _ (Array.getElem?_eq_some_iff.1 x.head).1).trans x.head, fun j u hu => (hb.cell (p := ⟨b3, 0 + j, none⟩) x.lt).trans (x.sum j u hu), x.pos, Nat.lt_of_lt_of_le x.lt hb.size⟩
theorem HQ.drew {w W : World} {b3 : Nat} {h y : List Int} (x : HQ w W b3 h y) : HQ w { W with drawn := W.drawn + 1 } b3 h y := ⟨x.below.drew, x.head, x.sum, x.pos, x.lt⟩
theorem HQ.put {w W W' : World} {b3 : Nat} {h y y' : List Int} (x : HQ w W b3 h y) (hg : W.grownBy W' (some w.heap.size)) (hh : W'.heap[w.heap.size]? = some (.cells (bv y').toArray 67 (0, 0))) : HQ w W' b3 h y' := by
  have hp := x.pos
  refine ⟨x.below.grown hg x.below.size (fun b e => by cases e; exact Nat.le_refl _), hh, fun j u hu => ?_, hp, Nat.lt_of_lt_of_le x.lt hg.size⟩
  rw [World.cell?_of_block (w := W) (a := ⟨b3, 0 + j, none⟩) (hg.block _ x.lt (fun e => by have h1 : b3 = w.heap.size := Option.some.inj e; omega))]; exact x.sum j u hu
def hΩ2 (w : World) (b3 : Nat) (h : List Int) : Nat → (Nat → Value) → World → Prop
  | 0, _, W => HQ w W b3 h z64
  | _, U, W => HQ w W b3 h (h ++ z64.drop 32) ∧ U 0 = .int .i64 32
def hf2 (w : World) (b3 : Nat) : Nat → Value
  | 0 => .slice (some ⟨w.heap.size, 0, none⟩) 32 64
  | 1 => .slice (some ⟨b3, 0, none⟩) 32 32
  | _ => undef
def hΩ3 (w : World) (b3 : Nat) (h : List Int) (n : Nat) : Nat → (Nat → Value) → World → Prop
  | 0, _, W => HQ w W b3 h (h ++ z64.drop 32)
  | 1, U, W => HQ w W b3 h (h ++ z64.drop 32) ∧ ∃ b c, U 0 = .slice (some ⟨b, 0, none⟩) 8 c ∧ b < W.heap.size ∧ b ≠ w.heap.size ∧ ∀ i, i < 8 → W.cell? ⟨b, 0 + i, none⟩ = some (.int .u8 (gi (be 8 (n : Int)) i))
  | _, U, W => HQ w W b3 h (hdp h n) ∧ U 1 = .int .i64 8
def hf3 (w : World) (v : Value) (n : Nat) : Nat → Value
  | 0 => .slice (some ⟨w.heap.size, 32, none⟩) 32 32
  | 1 => v
  | 2 => .int .i64 (n : Int)
  | 3 => .int .u64 (n : Int)
  | _ => undef
def hK0 : Nat → Nat := fun _ => 0
def hK3 : Nat → Nat := fun i => if i = 0 then 1 else 0
set_option maxHeartbeats 2000000 in
theorem headOf_at (h p : List Int) (ad : Option Addr) (cap : Nat) (w : World) (hh : hs p = h) (hl : p.length ≤ 140737488355328) (hT : Tb w) (hb : Byt p) (hv : Sq w (.slice ad p.length cap) p) :
    Calls Tryd.prog 58 #[.slice ad p.length cap] w fun e w' => e = .returned (.agg (bv (hdp h p.length)).toArray) ∧ Below w.heap.size w w' := by
  have HT : Hid (Tb w) := hT
  have HV : Hid (Sq w (.slice ad p.length cap) p) := hv
  have HB : Hid (Byt p) := hb
  have HH : Hid (hs p = h) := hh
  have HL : Hid (h.length = 32) := by rw [← hh]; exact hs_length p
  have HP : Hid (p.length ≤ 140737488355328) := hl
  clear hT hv hb hh
  have hz := zero_sct
  have hz2 := zero_32
  have HB0 : Hid (Below w.heap.size w (w.alloc (.cells (bv z64).toArray 67))) := (Below.refl _ _).alloc (Nat.le_refl _) _
  have HR0 : Hid ((w.alloc (.cells (bv z64).toArray 67)).heap[w.heap.size]? = some (.cells (bv z64).toArray 67 (0, 0))) := by show (w.heap.push _)[w.heap.size]? = _; simp
  go_enter Tryd.func58, Tryd.ntmps58
  go_wp2_with fail
  refine (sum256_sl p h _ HH.out hl _ (HT.out.below HB0.out) HB.out (HV.out.below HB0.out)).mono ?_
  rintro e w1 ⟨rfl, hb1⟩
  have hs1 : w.heap.size + 1 ≤ w1.heap.size := by have := hb1.size; simpa using this
  have HB1 : Hid (Below w.heap.size w w1) := HB0.out.trans (hb1.mono (by simp))
  have HR1 : Hid (w1.heap[w.heap.size]? = some (.cells (bv z64).toArray 67 (0, 0))) := (hb1.block _ (by simp)).trans HR0.out
  clear hb1 HB0 HR0
  have HTH : Hid ((w1.alloc (.cells (bv (List.replicate 32 0)).toArray 117)).there w1.heap.size 0 (bv h).toArray.size) := by
    have e : (bv h).toArray.size = 32 := by rw [List.size_toArray, bv_length, HL.out]
    rw [e]
    exact there_of_row' (cs := (bv (List.replicate 32 0)).toArray) (t := 117) (by rw [World.alloc]; simp only [Array.getElem?_push, if_true]) 0 32 (by rw [List.size_toArray, bv_length]; simp)
  obtain ⟨b3, hb3⟩ : ∃ b, b = w1.heap.size := ⟨_, rfl⟩
  go_wp2_with (refine Sh.wpList_store_midL rfl 117 _ _ rfl w1.heap.size 0 (bv h).toArray rfl rfl HTH.out (by rw [List.size_toArray, bv_length, HL.out]; exact size_32) (bv_one' _) ?_; intro w2 hw2; have Q2 : Hid (HQ w w2 w1.heap.size h z64) := (by
      have hbb : Below w1.heap.size w1 w2 := by rw [hw2]; exact below_setCells _ (Nat.le_refl _) _ _ _ ((Below.refl _ _).alloc (Nat.le_refl _) _)
      refine ⟨HB1.out.trans (hbb.mono (by omega)), (hbb.block _ (by omega)).trans HR1.out, by rw [hw2]; exact World.rangeAt_setCells_same _ _ _ _ (by have := HTH.out; rwa [List.size_toArray] at this), by omega, by rw [hw2, size_setCells]; simp⟩); clear hw2)
  rw [← hb3] at Q2
  rw [← hb3]
  clear HTH HR1 HB1 hb3 hs1
  have sl0 := fun w1 => Sh.sliceAt_h w1 67 5 64 w.heap.size 0 32 32 rfl Tryd.underlying67 size_u8' (by omega)
  have sl1 := fun w1 => Sh.sliceAt_all w1 117 5 32 b3 0 Tryd.underlying117 size_u8'
  have sl2 : ∀ w1 : World, (Instr.sliceAt 67 (.pointer (some ⟨w.heap.size, 0, none⟩)) (some (.int .i64 32)) none none).run Tryd.prog w1 = .ok (.slice (some ⟨w.heap.size, 32, none⟩) 32 32) w1 :=
    fun w1 => by rw [Sh.sliceAt_l w1 67 5 64 w.heap.size 0 32 32 rfl Tryd.underlying67 size_u8' (by omega), Nat.zero_add]
  refine RT.wp_rgn' [2] (hf2 w b3) hK0 (hΩ2 w b3 h) (by kernel_rfl) (by kernel_rfl) Q2.out.drew ?_ ?_
  · refine ⟨?_, ?_, ?_, trivial⟩
    · refine RT.ObT.pure rfl rfl rfl (fun a V hf hp ev he hc W => ?_)
      have q2 : ev (.tmp 2) = .pointer (some ⟨w.heap.size, 0, none⟩) := (he (.tmp 2)).trans (hf 2 rfl)
      simp only [List.getElem_toArray, List.getElem_cons_succ, List.getElem_cons_zero, execOp, Option.map_some, Option.map_none]; rw [q2]
      try simp only [hc]
      have := sl0 W
      first | (go_simp; done) | (go_simp; rfl)
    · refine RT.ObT.pure rfl rfl rfl (fun a V hf hp ev he hc W => ?_)
      have q3 : ev (.tmp 3) = .pointer (some ⟨b3, 0, none⟩) := (he (.tmp 3)).trans (hf 3 rfl)
      simp only [List.getElem_toArray, List.getElem_cons_succ, List.getElem_cons_zero, execOp, Option.map_some, Option.map_none]; rw [q3]
      try simp only [hc]
      have := sl1 W
      first | (go_simp; done) | (go_simp; rfl)
    · refine RT.ObT.loud (j := 0) rfl (fun a W V hO hf hp => ?_)
      have hO : HQ w W b3 h z64 := hO
      have e1 : a.eval (.tmp 6) = .slice (some ⟨w.heap.size, 0, none⟩) 32 64 := hp 0 6 rfl
      have e2 : a.eval (.tmp 7) = .slice (some ⟨b3, 0, none⟩) 32 32 := hp 1 7 rfl
      refine RT.ob_op rfl (RT.wanted_none rfl) (wp_copy_bv (.tmp 6) (.tmp 7) rfl w.heap.size 0 32 64 b3 0 32 32 e1 e2 z64 _ hO.head h (by rw [HL.out]; rfl) (fun i hi => ?_) (by rw [HL.out, z64_length]; omega) (fun W' g1 g2 g3 => ⟨_, rfl, hO.put g1 ?_, ?_⟩))
      · exact hO.sum i _ (bv_get h hi)
      · rw [List.take_zero, List.nil_append, HL.out] at g3; exact g3
      · show RT.updU V 0 _ 0 = _; rw [HL.out]; rfl
  intro w3 V3 hO3
  have Q3 : Hid (HQ w w3 b3 h (h ++ z64.drop 32)) := hO3.1
  have hV3 : V3 0 = .int .i64 32 := hO3.2
  simp only [RT.lay, RT.val, RT.at', hf2, Act.put, hV3]
  simp only [List.setIfInBounds_toArray, List.set_cons_succ, List.set_cons_zero]
  clear hO3 Q2 hV3 sl0 sl1
  have HPi : (p.length : Int) ≤ 140737488355328 := by omega
  have hwr : IntKind.u64.wrap (p.length : Int) = (p.length : Int) := by rw [IntKind.wrap_u64]; omega
  go_wp2_with fail
  refine RT.wp_rgn' [4, 5] (hf3 w (.slice ad p.length cap) p.length) hK3 (hΩ3 w b3 h p.length) (by kernel_rfl) (by kernel_rfl) Q3.out.drew ?_ ?_
  · refine ⟨?_, ?_, ?_, ?_, ?_, ?_, trivial⟩
    · refine RT.ObT.pure rfl rfl rfl (fun a V hf hp ev he hc W => ?_)
      have q2 : ev (.tmp 2) = .pointer (some ⟨w.heap.size, 0, none⟩) := (he (.tmp 2)).trans (hf 2 rfl)
      simp only [List.getElem_toArray, List.getElem_cons_succ, List.getElem_cons_zero, execOp, Option.map_some, Option.map_none]; rw [q2]
      try simp only [hc]
      have := sl2 W
      first | (go_simp; done) | (go_simp; rfl)
    · refine RT.ObT.pure rfl rfl rfl (fun a V hf hp ev he hc W => ?_)
      have q0 : ev (.tmp 0) = .slice ad p.length cap := (he (.tmp 0)).trans (hf 0 rfl)
      simp only [List.getElem_toArray, List.getElem_cons_succ, List.getElem_cons_zero, execOp, Option.map_some, Option.map_none]; rw [q0]
      first | (go_simp; done) | (go_simp; rfl)
    · refine RT.ObT.pure rfl rfl rfl (fun a V hf hp ev he hc W => ?_)
      have q10 : ev (.tmp 10) = .slice ad p.length cap := (he (.tmp 10)).trans (hp 1 10 rfl)
      simp only [List.getElem_toArray, List.getElem_cons_succ, List.getElem_cons_zero, execOp, Option.map_some, Option.map_none]; simp only [resolve, invoke, builtin, Sem.run_bind, Sem.run_pure, Result.andThen_ok, List.map_toArray, List.map_cons, List.map_nil, q10]
      first | (go_simp; done) | (go_simp; rfl)
    · refine RT.ObT.pure rfl rfl rfl (fun a V hf hp ev he hc W => ?_)
      have q11 : ev (.tmp 11) = .int .i64 (p.length : Int) := (he (.tmp 11)).trans (hp 2 11 rfl)
      simp only [List.getElem_toArray, List.getElem_cons_succ, List.getElem_cons_zero, execOp, Option.map_some, Option.map_none]; rw [q11]
      first | (go_simp; done) | (go_simp; rfl)
    · refine RT.ObT.loud (j := 0) rfl (fun a W V hO hf hp => ?_)
      have hO : HQ w W b3 h (h ++ z64.drop 32) := hO
      have e1 : a.eval (.tmp 12) = .int .u64 (p.length : Int) := hp 3 12 rfl
      refine RT.ob_call (g := 73) (args := #[.int .u64 (p.length : Int)]) rfl (RT.wanted_none rfl) (fun ev he hc => ?_) ((num_any (p.length : Int) W (by omega) (by have := HP.out; omega)).mono ?_)
      · have h1 := (he (.tmp 12)).trans e1
        have hfn := he (.func 73)
        simp only [List.getElem_toArray, List.getElem_cons_succ, List.getElem_cons_zero, execOp]
        simp only [resolve, invoke, Sem.run_bind, Sem.run_pure, Result.andThen_ok, List.map_toArray, List.map_cons, List.map_nil, h1, hfn, Act.eval]
        rfl
      · rintro e W' ⟨v', rfl, ho, hb⟩
        have hq := hO.more hb
        obtain ⟨ad', cap', hv', hc', hcell⟩ := ho.sl
        rw [be_length] at hv' hc' hcell
        rcases hcell with ⟨hnil, _⟩ | ⟨b, o, rfl, hlt, hm⟩
        · have := be_length 8 (p.length : Int); rw [hnil] at this; cases this
        · have ho2 := ho.2
          rcases ho2 with ⟨h', _⟩ | ⟨g', c2, cur, h', hb', _⟩
          · rw [hv'] at h'; cases h'
          · rw [hv'] at h'; cases h'
            exact ⟨_, rfl, _, rfl, hq, b, cap', by rw [hv']; rfl, hlt, by have h2 := (Array.getElem?_eq_some_iff.1 hO.head).1; omega, fun i hi => hm i hi⟩
    · refine RT.ObT.loud (j := 1) rfl (fun a W V hO hf hp => ?_)
      obtain ⟨hO1, b, c, hU, hlt, hne, hcell⟩ := hO
      have e1 : a.eval (.tmp 9) = .slice (some ⟨w.heap.size, 32, none⟩) 32 32 := hp 0 9 rfl
      have e2 : a.eval (.tmp 13) = .slice (some ⟨b, 0, none⟩) 8 c := (hp 4 13 rfl).trans hU
      have hbl := be_length 8 (p.length : Int)
      have hyl : (h ++ z64.drop 32).length = 64 := by simp [HL.out, z64_length]
      refine RT.ob_op rfl (RT.wanted_none rfl) (wp_copy_bv (.tmp 9) (.tmp 13) rfl w.heap.size 32 32 32 b 0 8 c e1 e2 (h ++ z64.drop 32) _ hO1.head (be 8 (p.length : Int)) (by rw [hbl]; rfl) (fun i hi => hcell i (by rw [hbl] at hi; exact hi)) (by rw [hbl, hyl]; omega) (fun W' g1 g2 g3 => ⟨_, rfl, hO1.put g1 ?_, ?_⟩))
      · have e : (h ++ z64.drop 32).take 32 ++ (be 8 (p.length : Int) ++ (h ++ z64.drop 32).drop (32 + (be 8 (p.length : Int)).length)) = hdp h p.length := by
          have h1 : (h ++ z64.drop 32).take 32 = h := by rw [← HL.out, List.take_left']; rfl
          have h2 : (h ++ z64.drop 32).drop (32 + 8) = List.replicate 24 0 := by
            rw [List.drop_append, List.drop_eq_nil_of_le (by rw [HL.out]; omega), HL.out]; rfl
          rw [h1, hbl, h2]; rfl
        rw [e] at g3; exact g3
      · show RT.updU V 1 _ 1 = _; rw [hbl]; rfl
  intro w4 V4 hO4
  have Q4 : Hid (HQ w w4 b3 h (hdp h p.length)) := hO4.1
  have hV4 : V4 1 = .int .i64 8 := hO4.2
  obtain ⟨vn, hvn⟩ : ∃ v, v = V4 0 := ⟨_, rfl⟩
  simp only [RT.lay, RT.val, RT.at', hf3, Act.put, hV4, ← hvn]
  simp only [List.setIfInBounds_toArray, List.set_cons_succ, List.set_cons_zero]
  clear hO4 Q3 hV4 sl2 hvn
  have HZ : Hid ((hdp h p.length).length = 64) := hdp_length HL.out _
  have HR4 : Hid (w4.rangeAt w.heap.size 0 (bv (hdp h p.length))) := fun j u hu => by
    rw [cell_of_row w4 _ _ _ _ _ Q4.out.head, Nat.zero_add, List.getElem?_toArray]; exact hu
  have HT4 : Hid (w4.there w.heap.size 0 (bv (hdp h p.length)).toArray.size) := there_of_row' Q4.out.head 0 _ (by omega)
  go_wp2_with (first
    | (refine wpList_load_mid rfl 67 _ rfl w.heap.size 0 rfl (bv (hdp h p.length)) _ HR4.out Tryd.underlying67 rfl (by rw [bv_length, HZ.out]; exact size_sct) ?_)
    | (refine wpList_store_mid rfl 67 _ _ rfl w.heap.size 0 (bv (hdp h p.length)).toArray rfl rfl HT4.out (sct_size HZ.out) (bv_one' _) ?_))
  refine bodyPost_ret (v := .agg (bv (hdp h p.length)).toArray) ?_ rfl ⟨rfl, ?_⟩
  · exact Sh.results_mid Tryd.results58 _ _ w.heap.size 0 (bv (hdp h p.length)) _ rfl (World.rangeAt_setCells_same _ _ _ _ (by have := HT4.out; rwa [List.size_toArray] at this)) Tryd.underlying67 rfl (by rw [bv_length, HZ.out]; exact size_sct)
  · exact below_setCells _ (Nat.le_refl _) _ _ _ Q4.out.below
theorem headOf_any (p : List Int) (ad : Option Addr) (cap : Nat) (w : World) (hl : p.length ≤ 140737488355328) (hT : Tb w) (hb : Byt p) (hv : Sq w (.slice ad p.length cap) p) :
    Calls Tryd.prog 58 #[.slice ad p.length cap] w fun e w' => e = .returned (.agg (bv (hd p)).toArray) ∧ Below w.heap.size w w' := headOf_at (hs p) p ad cap w rfl hl hT hb hv
end Go.Proofs.YtphjjjijdbljaaaDoor
