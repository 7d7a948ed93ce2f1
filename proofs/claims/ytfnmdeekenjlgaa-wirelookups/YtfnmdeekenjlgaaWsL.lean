/- Package wire: readNodes. -/
import Derived.Test.YtfnmdeekenjlgaaWsK
namespace Go.Proofs.Ytfnmdeekenjlgaa
open Go Go.RowKit Go.Shelf
set_option linter.unusedSimpArgs false
set_option linter.unusedVariables false
set_option maxRecDepth 100000
attribute [local go_sem] Oper.semAt_some

def ndAt (xs : List Int) (k : Nat) : Nd := ⟨nm (cut xs (k * 66) 2), cut xs (k * 66 + 2) 32, cut xs (k * 66 + 34) 32⟩
theorem ndAt_ok {xs : List Int} (hb : Byt xs) {k : Nat} (hk : k * 66 + 66 ≤ xs.length) : (ndAt xs k).Ok := ⟨cut_l32 hb (by omega), cut_l32 hb (by omega)⟩
theorem nm2 {xs : List Int} (hb : Byt xs) {k : Nat} (hk : k * 66 + 66 ≤ xs.length) : 0 ≤ (ndAt xs k).n ∧ (ndAt xs k).n ≤ 65535 := by
  have h1 : (cut xs (k * 66) 2).length = 2 := by simp [cut]; omega
  have h2 : Byt (cut xs (k * 66) 2) := (hb.drop _).take _
  have h3 := nm_plain _ h2 (by omega)
  have h4 := pv_lt _ h2
  have h5 := pv_nonneg _ h2
  rw [h1] at h4
  show 0 ≤ nm _ ∧ nm _ ≤ _
  rw [h3]
  have : ((256 : Int) ^ 2) = 65536 := by decide
  rw [this] at h4
  omega
def ndl (xs : List Int) : List Nd := (List.range (xs.length / 66)).map (ndAt xs)
def rnb (xs : List Int) : Bool := decide (xs.length % 66 = 0) && (ndl xs).all (fun x => decide (0 ≤ x.n ∧ x.n ≤ 256))
def rdn (xs : List Int) : List Nd := match rnb xs with | true => ndl xs | false => []
theorem rnb_lok {xs : List Int} (h0 : xs.length % 66 = 0) : rnb xs = true ↔ lok (ndl xs) := by
  unfold rnb lok
  rw [decide_eq_true h0, Bool.true_and, List.all_eq_true]
  exact ⟨fun h x hx => of_decide_eq_true (h x hx), fun h x hx => decide_eq_true (h x hx)⟩
theorem rdn_yes {xs : List Int} (h : rnb xs = true) : rdn xs = ndl xs := by unfold rdn; rw [h]
theorem rdn_no {xs : List Int} (h : rnb xs = false) : rdn xs = [] := by unfold rdn; rw [h]
theorem built_nd (n : Int) {p h : List Int} (hp : L32 p) (hh : L32 h) : Try.prog.built 94 [(0, .int .i64 n), (1, .agg (bv p).toArray), (2, .agg (bv h).toArray)] = some (nc ⟨n, p, h⟩).toArray := by
  obtain ⟨a0, a1, a2, a3, a4, a5, a6, a7, a8, a9, a10, a11, a12, a13, a14, a15, a16, a17, a18, a19, a20, a21, a22, a23, a24, a25, a26, a27, a28, a29, a30, a31, rfl⟩ := list32 hp.len
  obtain ⟨b0, b1, b2, b3, b4, b5, b6, b7, b8, b9, b10, b11, b12, b13, b14, b15, b16, b17, b18, b19, b20, b21, b22, b23, b24, b25, b26, b27, b28, b29, b30, b31, rfl⟩ := list32 hh.len
  kernel_rfl
theorem build_nd (n : Int) {p h : List Int} (hp : L32 p) (hh : L32 h) (w : World) : (Instr.build 94 #[(0, .int .i64 n), (1, .agg (bv p).toArray), (2, .agg (bv h).toArray)]).run Try.prog w = .ok (.agg (nc ⟨n, p, h⟩).toArray) w := run_build w _ _ _ (built_nd n hp hh)
def rkNodesf (v : Value) (b p : Nat) (x : Nd) : Nat → Value
  | 0 => v
  | 1 => .slice (some ⟨b, p, none⟩) 66 66
  | 2 => .slice (some ⟨b, p, none⟩) 2 66
  | 3 => .int .u64 x.n
  | 4 => .int .i64 x.n
  | 5 => .slice (some ⟨b, p + 2, none⟩) 64 64
  | 6 => .slice (some ⟨b, p + 2, none⟩) 32 64
  | 7 => .pointer (some ⟨b, p + 2, none⟩)
  | 8 => .agg (bv x.p).toArray
  | 9 => .slice (some ⟨b, p + 2, none⟩) 64 64
  | 10 => .slice (some ⟨b, p + 2 + 32, none⟩) 32 32
  | 11 => .pointer (some ⟨b, p + 2 + 32, none⟩)
  | 12 => .agg (bv x.h).toArray
  | 13 => .agg (nc x).toArray
  | 14 => undef
  | 15 => undef
  | 16 => undef
  | _ => undef
set_option maxHeartbeats 4000000 in
theorem readNodes_any (xs : List Int) (v : Value) (w : World) (hb : Byt xs) (hs : Sl w v xs) (hl : xs.length ≤ 1048576) :
    Calls Try.prog 44 #[v] w fun e w' => ∃ v', e = .returned (.tuple #[v', .bool (rnb xs)]) ∧ NO w.heap.size w' v' (rdn xs) ∧ Below w.heap.size w w' := by
  obtain ⟨ad, cap, rfl, hc, hx⟩ := hs
  refine (callsIn_wide (n := 9)).1 ?_
  refine callsIn_of_wp_marks Try.func44 rfl trivial ?_ rfl
  simp only [Try.ntmps44, List.size_toArray, List.length_cons, List.length_nil, Nat.reduceAdd, Nat.reduceSub, Array.replicate_succ, Array.replicate_zero, List.push_toArray, List.append_toArray, List.nil_append, List.cons_append]
  have HB : Hid (Byt xs) := hb
  by_cases h0 : xs.length % 66 = 0
  · obtain ⟨m, hm⟩ : ∃ m, xs.length = m * 66 := ⟨xs.length / 66, by omega⟩
    have HLL : Hid (ndl xs = (List.range m).map (ndAt xs)) := by show _ = _; unfold ndl; rw [show xs.length / 66 = m by omega]
    have HLK : Hid (rnb xs = true ↔ lok (ndl xs)) := rnb_lok h0
    obtain ⟨b, o, hxx⟩ := sl_lies (n := 0) hx
    have HXX : Hid (0 < xs.length → ad = some ⟨b, o, none⟩ ∧ b < w.heap.size ∧ ∀ i, i < xs.length → w.cell? ⟨b, o + i, none⟩ = some (.int .u8 (gi xs i))) := hxx
    obtain ⟨M, hM⟩ : ∃ M, m * 66 = M := ⟨_, rfl⟩
    have HM : Hid (xs.length = m * 66) := hm
    have HMM : Hid (m * 66 = M) := hM
    rw [hm, hM] at hc hl ⊢
    have h1 : Int.tmod (M : Int) 66 = 0 := by rw [Int.tmod_eq_emod_of_nonneg (by omega)]; omega
    have HC : Hid (M ≤ cap ∧ M ≤ 1048576) := ⟨hc, hl⟩
    clear hx hb hxx hm hM h0 hc hl
    gi_wp2
    refine ⟨trivial, (chunk_in _ _ _ _ 66 (by decide) _).mono ?_⟩
    rintro e w' ⟨rfl, rfl⟩
    clear h1
    gi_wp2
    obtain ⟨W0, hW0⟩ : ∃ W0, ((w.alloc (.cells #[.slice none 0 0] 29)).alloc (.cells #[.slice ad M cap] 34)).alloc (.cells #[.int .i64 66] 3) = W0 := ⟨_, rfl⟩
    rw [hW0]
    obtain ⟨s1, s2, s3, s4, s5⟩ := start3 w 29 (.slice ad M cap) 66 hW0
    clear hW0
    obtain ⟨Bx, hBx⟩ : ∃ Bx, w.heap.size = Bx := ⟨_, rfl⟩
    have HBX9 : Hid (w.heap.size = Bx) := hBx
    rw [hBx] at s1 s2 s3 s4 ⊢
    have hc1 := HC.out.1
    have hc2 := HC.out.2
    refine wpIn_rangeFunc_ownG rfl (by decide) (gf := 73) (lb := #[.pointer (some ⟨Bx + 1, 0, none⟩), .pointer (some ⟨Bx + 1 + 1, 0, none⟩)]) rfl trivial (enters_of Try.func73 (by kernel_rfl) rfl)
      (chunk_stops 8 (Bx + 1) (Bx + 1 + 1) b o 66 m cap ad (by decide) (by decide) (by rw [HMM.out]; exact hc2) (by rw [HMM.out]; exact hc1) (fun hm0 => (HXX.out (by rw [HM.out]; omega)).1) W0 (by omega) (by omega) (by rw [HMM.out]; exact s2.cell) s3.cell) (fun h k => h.trans k) (KC.put (by omega) (by omega)) (Below.refl _ _) (fun _ => rfl)
      (fun (pre : List (Ix m)) (W : World) => (∃ v, Boxed W Bx 29 v ∧ W.ownsRow Bx 94 65 v (pre.map (fun k => ndAt xs k.1)).length (ncs (pre.map (fun k => ndAt xs k.1))) ∧ True) ∧ ((Boxed W (Bx + 1) 34 (.slice ad M cap) ∧ Boxed W (Bx + 1 + 1) 3 (.int .i64 66)) ∧ Below w.heap.size w W))
      (fun (_ : Code) (_ : List (Ix m)) (_ : World) => False)
      (OwnFrom.and (Own.from (holdsRow_own Bx Bx 29 94 65 (fun (pre : List (Ix m)) => (pre.map (fun k : Ix m => ndAt xs k.1)).length) (fun (pre : List (Ix m)) => ncs (pre.map (fun k : Ix m => ndAt xs k.1))) (fun _ _ => True)) _) (OwnFrom.and (OwnFrom.and (Own.from (boxed_own _ _ _) _) (Own.from (boxed_own _ _ _) _)) (ownFrom_below (Nat.le_refl _) (by omega))))
      (fun _ _ _ _ _ hs _ _ => hs)
      ⟨⟨_, s1, World.ownsRow_nil _ _ _ _, trivial⟩, ⟨s2, s3⟩, s5⟩
      (fun (x : Ix m) => { tmps := #[.slice ad M cap, undef, .slice none 0 0, .bool false, .pointer (some ⟨Bx, 0, none⟩), chk b o 66 x.1, undef, .slice ad M cap, .int .i64 (M : Int), .int .i64 0, .bool false, .slice ad M cap, .func (.func 73) #[] #[.pointer (some ⟨Bx + 1, 0, none⟩), .pointer (some ⟨Bx + 1 + 1, 0, none⟩)], chk b o 66 x.1, undef, undef, undef, undef, undef, undef, undef, undef, undef, undef, undef, undef, undef, undef, undef, undef, undef, undef, undef, undef, undef, undef], defers := [] }) ?assign ?body ?done ?stop
    case assign =>
      intro l x W K hK
      gi_wp2
      exact hK
    case body =>
      rintro l pre ⟨k, hkm⟩ W ⟨⟨v, hv, hrow, -⟩, ⟨hb1, hb2⟩, hB⟩ hlen
      obtain ⟨ls, hls⟩ : ∃ ls, pre.map (fun k => ndAt xs k.1) = ls := ⟨_, rfl⟩
      have HLS : Hid (pre.map (fun k => ndAt xs k.1) = ls) := hls
      rw [hls] at hrow
      have hkc : k * 66 + 66 ≤ xs.length := by rw [HM.out]; omega
      have hxo := HXX.out (by omega)
      obtain ⟨x, hxe⟩ : ∃ x, ndAt xs k = x := ⟨_, rfl⟩
      have HXE : Hid (ndAt xs k = x) := hxe
      have HXK : Hid (x.Ok) := by rw [← hxe]; exact ndAt_ok HB.out hkc
      obtain ⟨p, hp⟩ : ∃ p, o + k * 66 = p := ⟨_, rfl⟩
      have HPE : Hid (o + k * 66 = p) := hp
      have hlok : ∀ y ∈ ls, y.Ok := fun y hy => by
        rw [← hls] at hy
        obtain ⟨z, hz, rfl⟩ := List.mem_map.1 hy
        exact ndAt_ok HB.out (by rw [HM.out]; have := z.2; omega)
      have hcw : ∀ i, i < xs.length → W.cell? ⟨b, o + i, none⟩ = some (.int .u8 (gi xs i)) := fun i hi => (hB.cell (p := ⟨b, o + i, none⟩) hxo.2.1).trans (hxo.2.2 i hi)
      simp only [chk]
      rw [hp]
      refine wpIn_block ?_
      obtain ⟨W2, hW2⟩ : ∃ W2, W.drew = W2 := ⟨_, rfl⟩
      have HV : Hid (Boxed W2 Bx 29 v) := by rw [← hW2]; exact hv
      have HRW : Hid (NO Bx W2 v ls) := by rw [← hW2]; exact ⟨hrow, hlok, Nat.le_of_lt (Boxed.lt (W := W) hv)⟩
      have HLN : Hid (ls.length + 1 ≤ 3000000000000) := by
        show _ ≤ _
        rw [← hls, List.length_map]
        have h9 := HMM.out
        omega
      have HBX : Hid (Bx ≤ Bx) := Nat.le_refl _
      have RP0 : W2.rangeAt b (p + 2) (bv x.p) := by
        rw [← HXE.out, ← HPE.out, ← hW2]
        have := cut_range (off := k * 66 + 2) (n := 32) hcw (by omega)
        exact this
      have RP1 : W2.rangeAt b (p + 2 + 32) (bv x.h) := by
        rw [← HXE.out, ← HPE.out, ← hW2]
        have := cut_range (off := k * 66 + 34) (n := 32) hcw (by omega)
        exact this
      obtain ⟨N2, hN2⟩ : ∃ N2, cut xs (k * 66) 2 = N2 := ⟨_, rfl⟩
      have HN2 : Hid (Byt N2 ∧ N2.length = 2 ∧ nm N2 = x.n) := by
        rw [← hN2]
        exact ⟨(HB.out.drop _).take _, by simp [cut]; omega, by rw [← hxe]; rfl⟩
      have SN2 : Sl W2 (.slice (some ⟨b, p, none⟩) 2 66) N2 := by
        rw [← hN2, ← HPE.out, ← hW2]
        refine ⟨_, 66, by simp [cut]; omega, by simp [cut]; omega, .inr ⟨b, o + k * 66, rfl, Nat.lt_of_lt_of_le hxo.2.1 hB.size, fun i hi => ?_⟩⟩
        exact cut_range (off := k * 66) (n := 2) hcw (by omega) i _ (bv_get _ hi)
      have HNX : Hid (0 ≤ x.n ∧ x.n ≤ 65535) := by rw [← hxe]; exact nm2 HB.out hkc
      gi_wp2
      have h4 : Act.eval ⟨#[.slice ad M cap, undef, .slice none 0 0, .bool false, .pointer (some ⟨Bx, 0, none⟩), .slice (some ⟨b, p, none⟩) 66 66, .slice (some ⟨b, p + 2, none⟩) 64 64, .slice ad M cap, .int .i64 (M : Int), .int .i64 0, .bool false, .slice ad M cap, .func (.func 73) #[] #[.pointer (some ⟨Bx + 1, 0, none⟩), .pointer (some ⟨Bx + 1 + 1, 0, none⟩)], .slice (some ⟨b, p, none⟩) 66 66, .slice (some ⟨b, p, none⟩) 66 66, .slice (some ⟨b, p + 2, none⟩) 64 64, undef, undef, undef, undef, undef, undef, undef, undef, undef, undef, undef, undef, undef, undef, undef, undef, undef, undef, undef, undef], []⟩ (.tmp 4) = .pointer (some ⟨Bx, 0, none⟩) := rfl
      have h5 : Act.eval ⟨#[.slice ad M cap, undef, .slice none 0 0, .bool false, .pointer (some ⟨Bx, 0, none⟩), .slice (some ⟨b, p, none⟩) 66 66, .slice (some ⟨b, p + 2, none⟩) 64 64, .slice ad M cap, .int .i64 (M : Int), .int .i64 0, .bool false, .slice ad M cap, .func (.func 73) #[] #[.pointer (some ⟨Bx + 1, 0, none⟩), .pointer (some ⟨Bx + 1 + 1, 0, none⟩)], .slice (some ⟨b, p, none⟩) 66 66, .slice (some ⟨b, p, none⟩) 66 66, .slice (some ⟨b, p + 2, none⟩) 64 64, undef, undef, undef, undef, undef, undef, undef, undef, undef, undef, undef, undef, undef, undef, undef, undef, undef, undef, undef, undef], []⟩ (.tmp 5) = .slice (some ⟨b, p, none⟩) 66 66 := rfl
      have h6 : Act.eval ⟨#[.slice ad M cap, undef, .slice none 0 0, .bool false, .pointer (some ⟨Bx, 0, none⟩), .slice (some ⟨b, p, none⟩) 66 66, .slice (some ⟨b, p + 2, none⟩) 64 64, .slice ad M cap, .int .i64 (M : Int), .int .i64 0, .bool false, .slice ad M cap, .func (.func 73) #[] #[.pointer (some ⟨Bx + 1, 0, none⟩), .pointer (some ⟨Bx + 1 + 1, 0, none⟩)], .slice (some ⟨b, p, none⟩) 66 66, .slice (some ⟨b, p, none⟩) 66 66, .slice (some ⟨b, p + 2, none⟩) 64 64, undef, undef, undef, undef, undef, undef, undef, undef, undef, undef, undef, undef, undef, undef, undef, undef, undef, undef, undef, undef], []⟩ (.tmp 6) = .slice (some ⟨b, p + 2, none⟩) 64 64 := rfl
      have HW2 : Hid (W.drew = W2) := hW2
      refine wpIn_mono (Q := fun e _ W9 => e = .normal ∧ ∃ v9 w1, (NO Bx w1 v9 (ls ++ [x]) ∧ (W2.alloc (.cells (nc x).toArray 94)).grownBy w1 v.ownBlock) ∧ W9 = w1.setCell ⟨Bx, 0, none⟩ v9) ?_ ?_
      · have hlo : ¬ LetsOut (fun (e : Exit) (_ : Act) (W9 : World) => e = .normal ∧ ∃ v9 w1, (NO Bx w1 v9 (ls ++ [x]) ∧ (W2.alloc (.cells (nc x).toArray 94)).grownBy w1 v.ownBlock) ∧ W9 = w1.setCell ⟨Bx, 0, none⟩ v9) := fun ⟨_, _, h, _⟩ => by cases h
        clear hW2
        refine RU.wpIn_rgn [14, 15, 16] (rkNodesf v b p x) (fun i => if i = 0 then 1 else 0) (rbΩ W2 (W2.alloc (.cells (nc x).toArray 94)) Bx (.slice (some ⟨W2.heap.size, 0, none⟩) 1 1) (apP (fun v9 w1 => NO Bx w1 v9 (ls ++ [x])) (W2.alloc (.cells (nc x).toArray 94)) v.ownBlock)) (by kernel_rfl) hlo (by kernel_rfl) (by kernel_rfl) HW2.out ?_ ?_
        · refine ⟨?_, ?_, ?_, ?_, ?_, ?_, ?_, ?_, ?_, ?_, ?_, ?_, ?_, ?_, ?_, ?_, ?_, trivial⟩
          · refine RU.ObT.silent rfl (fun a W k0 V hO hf hp hk => ?_)
            have hcl : W.cell? ⟨Bx, 0, none⟩ = some v := by
              match k0, hk, hO with
              | 0, _, hO => rw [show W = _ from hO]; exact HV.out.cell
              | 1, _, hO => rw [show W = _ from hO.2]; exact (HV.out.alloc _).cell
            refine RU.ob_val rfl (RU.wanted_none rfl) (fun ev he hc => ?_) ⟨rfl, hO⟩
            have q4 : ev (.tmp 4) = .pointer (some ⟨Bx, 0, none⟩) := (he (.tmp 4)).trans ((hf 4 rfl).trans h4)
            simp only [List.getElem_toArray, List.getElem_cons_succ, List.getElem_cons_zero, execOp]; rw [q4]
            first | (go_simp; done) | (go_simp; rfl) | rfl
          · refine RU.ObT.pure rfl rfl rfl (fun a V hf hp ev he hc W => ?_)
            have q5 : ev (.tmp 5) = .slice (some ⟨b, p, none⟩) 66 66 := (he (.tmp 5)).trans ((hf 5 rfl).trans h5)
            simp only [List.getElem_toArray, List.getElem_cons_succ, List.getElem_cons_zero, execOp, Option.map_some, Option.map_none]; rw [q5]
            first | (go_simp; done) | (go_simp; rfl) | rfl
          · refine RU.ObT.pure rfl rfl rfl (fun a V hf hp ev he hc W => ?_)
            have q17 : ev (.tmp 17) = .slice (some ⟨b, p, none⟩) 66 66 := (he (.tmp 17)).trans (hp 1 17 rfl)
            simp only [List.getElem_toArray, List.getElem_cons_succ, List.getElem_cons_zero, execOp, Option.map_some, Option.map_none]; rw [q17]
            try simp only [hc]
            first | (go_simp; done) | (go_simp; rfl) | rfl
          · refine RU.ObT.silent rfl (fun a W k0 V hO hf hp hk => ?_)
            have e18 : a.eval (.tmp 18) = .slice (some ⟨b, p, none⟩) 2 66 := hp 2 18 rfl
            refine RU.ob_call (g := 62) (args := #[.slice (some ⟨b, p, none⟩) 2 66]) rfl (RU.wanted_none rfl) (fun ev he hc => ?_) ((numberOf_any N2 _ W HN2.out.1 (by rw [show W = _ from (by obtain rfl := Nat.le_zero.1 hk; exact hO)]; exact SN2) (by have := HN2.out.2.1; omega)).mono ?_)
            · have h18 := (he (.tmp 18)).trans e18
              have hfn := he (.func 62)
              simp only [List.getElem_toArray, List.getElem_cons_succ, List.getElem_cons_zero, execOp, Option.map_some, Option.map_none]
              simp only [resolve, invoke, Sem.run_bind, Sem.run_pure, Result.andThen_ok, List.map_toArray, List.map_cons, List.map_nil, h18, hfn, Act.eval, hc]
              rfl
            · rintro e w6 ⟨rfl, rfl⟩
              exact ⟨_, rfl, by rw [HN2.out.2.2]; rfl, hO⟩
          · refine RU.ObT.pure rfl rfl rfl (fun a V hf hp ev he hc W => ?_)
            have q19 : ev (.tmp 19) = .int .u64 x.n := (he (.tmp 19)).trans (hp 3 19 rfl)
            simp only [List.getElem_toArray, List.getElem_cons_succ, List.getElem_cons_zero, execOp, Option.map_some, Option.map_none]; rw [q19]
            have hz9 := HNX.out.1
            have hz8 := HNX.out.2
            have hw9 : IntKind.i64.wrap x.n = x.n := by rw [IntKind.wrap_i64]; omega
            first | (go_simp; done) | (go_simp; rfl) | rfl
          · refine RU.ObT.pure rfl rfl rfl (fun a V hf hp ev he hc W => ?_)
            have q6 : ev (.tmp 6) = .slice (some ⟨b, p + 2, none⟩) 64 64 := (he (.tmp 6)).trans ((hf 6 rfl).trans h6)
            simp only [List.getElem_toArray, List.getElem_cons_succ, List.getElem_cons_zero, execOp, Option.map_some, Option.map_none]; rw [q6]
            first | (go_simp; done) | (go_simp; rfl) | rfl
          · refine RU.ObT.pure rfl rfl rfl (fun a V hf hp ev he hc W => ?_)
            have q21 : ev (.tmp 21) = .slice (some ⟨b, p + 2, none⟩) 64 64 := (he (.tmp 21)).trans (hp 5 21 rfl)
            simp only [List.getElem_toArray, List.getElem_cons_succ, List.getElem_cons_zero, execOp, Option.map_some, Option.map_none]; rw [q21]
            try simp only [hc]
            first | (go_simp; done) | (go_simp; rfl) | rfl
          · refine RU.ObT.pure rfl rfl rfl (fun a V hf hp ev he hc W => ?_)
            have q22 : ev (.tmp 22) = .slice (some ⟨b, p + 2, none⟩) 32 64 := (he (.tmp 22)).trans (hp 6 22 rfl)
            simp only [List.getElem_toArray, List.getElem_cons_succ, List.getElem_cons_zero, execOp, Option.map_some, Option.map_none]; rw [q22]
            rw [Sem.run_bind, arr32 b _ 64 W]; rfl
          · refine RU.ObT.silent rfl (fun a W k0 V hO hf hp hk => ?_)
            have q23 : a.eval (.tmp 23) = .pointer (some ⟨b, p + 2, none⟩) := hp 7 23 rfl
            exact RU.ob_op rfl (RU.wanted_none rfl) (wp_load_mid 23 (.tmp 23) rfl (b) (p + 2) q23 (bv x.p) _ ((by rw [show W = _ from (by obtain rfl := Nat.le_zero.1 hk; exact hO)]; exact RP0)) Try.underlying23 rfl (size_l32 HXK.out.p) ⟨rfl, hO⟩)
          · refine RU.ObT.pure rfl rfl rfl (fun a V hf hp ev he hc W => ?_)
            have q6 : ev (.tmp 6) = .slice (some ⟨b, p + 2, none⟩) 64 64 := (he (.tmp 6)).trans ((hf 6 rfl).trans h6)
            simp only [List.getElem_toArray, List.getElem_cons_succ, List.getElem_cons_zero, execOp, Option.map_some, Option.map_none]; rw [q6]
            first | (go_simp; done) | (go_simp; rfl) | rfl
          · refine RU.ObT.pure rfl rfl rfl (fun a V hf hp ev he hc W => ?_)
            have q25 : ev (.tmp 25) = .slice (some ⟨b, p + 2, none⟩) 64 64 := (he (.tmp 25)).trans (hp 9 25 rfl)
            simp only [List.getElem_toArray, List.getElem_cons_succ, List.getElem_cons_zero, execOp, Option.map_some, Option.map_none]; rw [q25]
            try simp only [hc]
            first | (go_simp; done) | (go_simp; rfl) | rfl
          · refine RU.ObT.pure rfl rfl rfl (fun a V hf hp ev he hc W => ?_)
            have q26 : ev (.tmp 26) = .slice (some ⟨b, p + 2 + 32, none⟩) 32 32 := (he (.tmp 26)).trans (hp 10 26 rfl)
            simp only [List.getElem_toArray, List.getElem_cons_succ, List.getElem_cons_zero, execOp, Option.map_some, Option.map_none]; rw [q26]
            rw [Sem.run_bind, arr32 b _ 32 W]; rfl
          · refine RU.ObT.silent rfl (fun a W k0 V hO hf hp hk => ?_)
            have q27 : a.eval (.tmp 27) = .pointer (some ⟨b, p + 2 + 32, none⟩) := hp 11 27 rfl
            exact RU.ob_op rfl (RU.wanted_none rfl) (wp_load_mid 23 (.tmp 27) rfl (b) (p + 2 + 32) q27 (bv x.h) _ ((by rw [show W = _ from (by obtain rfl := Nat.le_zero.1 hk; exact hO)]; exact RP1)) Try.underlying23 rfl (size_l32 HXK.out.h) ⟨rfl, hO⟩)
          · refine RU.ObT.pure rfl rfl rfl (fun a V hf hp ev he hc W => ?_)
            have q20 : ev (.tmp 20) = .int .i64 x.n := (he (.tmp 20)).trans (hp 4 20 rfl)
            have q24 : ev (.tmp 24) = .agg (bv x.p).toArray := (he (.tmp 24)).trans (hp 8 24 rfl)
            have q28 : ev (.tmp 28) = .agg (bv x.h).toArray := (he (.tmp 28)).trans (hp 12 28 rfl)
            simp only [List.getElem_toArray, List.getElem_cons_succ, List.getElem_cons_zero, execOp, List.map_toArray, List.map_cons, List.map_nil, q20, q24, q28, Sem.run_bind, build_nd x.n HXK.out.p HXK.out.h W, Result.andThen_ok, Sem.run_pure]
            rfl
          · refine RU.ObT.loud (j := 0) rfl (fun a W V hO hf hp => ?_)
            have q1 : a.eval (.tmp 29) = .agg (nc x).toArray := hp 13 29 rfl
            have hW : W = W2 := hO
            subst hW
            refine RU.ob_run (v := .slice (some ⟨W.heap.size, 0, none⟩) 1 1) (w' := W.alloc (.cells (nc x).toArray 94)) rfl (RU.wanted_none rfl) (fun ev he hc => ?_) ⟨_, rfl, rfl, rfl⟩
            have e1 := (he (.tmp 29)).trans q1
            simp only [List.getElem_toArray, List.getElem_cons_succ, List.getElem_cons_zero, execOp, List.map_toArray, List.map_cons, List.map_nil, e1, Sem.run_bind, run_onen W HXK.out, Result.andThen_ok, Sem.run_pure]
          · refine RU.ObT.loud (j := 1) rfl (fun a W V hO hf hp => ?_)
            have q1 : a.eval (.tmp 16) = v := hp 0 16 rfl
            have q2 : a.eval (.tmp 30) = .slice (some ⟨W2.heap.size, 0, none⟩) 1 1 := (hp 14 30 rfl).trans hO.1
            have hW : W = W2.alloc (.cells (nc x).toArray 94) := hO.2
            obtain ⟨v', w', hr, p1, p2, p3⟩ := app_own (HRW.out.alloc (.cells (nc x).toArray 94)) (m := [x]) (fun y hy => by rw [List.mem_singleton.1 hy]; exact HXK.out) (ns_one W2 x 94) (by have := HLN.out; simp only [List.length_cons, List.length_nil]; omega)
            refine RU.ob_run (v := v') (w' := w') rfl (RU.wanted_none rfl) (fun ev he hc => ?_) ⟨_, rfl, ⟨p1, p3⟩⟩
            have e1 := (he (.tmp 16)).trans q1
            have e2 := (he (.tmp 30)).trans q2
            rw [hW]
            simp only [List.getElem_toArray, List.getElem_cons_succ, List.getElem_cons_zero, execOp, resolve, invoke, builtin, Sem.run_bind, Sem.run_pure, Result.andThen_ok, List.map_toArray, List.map_cons, List.map_nil, e1, e2, hr]
          · refine RU.ObT.loud (j := 2) rfl (fun a W V hO hf hp => ?_)
            have q1 : a.eval (.tmp 4) = .pointer (some ⟨Bx, 0, none⟩) := (hf 4 rfl).trans h4
            have q2 : a.eval (.tmp 31) = V 1 := hp 15 31 rfl
            have hP : NO Bx W (V 1) (ls ++ [x]) ∧ (W2.alloc (.cells (nc x).toArray 94)).grownBy W v.ownBlock := hO
            obtain ⟨g9, c9, hv9⟩ : ∃ g cap, V 1 = .slice (some ⟨g, 0, none⟩) (ls.length + 1) cap := by
              have := hP.1.1
              rw [List.length_append] at this
              exact ownsRow_succ this
            have hb9 := (Boxed.appended HV.out (by decide) HRW.out.1 HRW.out.2.2 HBX.out hP.1.1 hP.2)
            have hc9 := hb9.1.cell
            have hf9 := hb9.1.frozen
            refine RU.ob_skip rfl (RU.wanted_none rfl) (w' := W.setCell ⟨Bx, 0, none⟩ (V 1)) (fun ev he hc => ?_) ⟨_, rfl, ⟨W, hP, rfl⟩⟩
            have e1 := (he (.tmp 4)).trans q1
            have e2 := (he (.tmp 31)).trans (q2.trans hv9)
            rw [hv9]
            simp only [List.getElem_toArray, List.getElem_cons_succ, List.getElem_cons_zero, execOp]; rw [e1, e2]
            first | (go_simp; done) | (go_simp; rfl) | rfl
        · intro a9 W9 U9 _ _ _ hO9 _
          obtain ⟨w1, hP9, hW9⟩ := hO9
          exact ⟨rfl, U9 1, w1, hP9, hW9⟩
      · rintro e9 a9 W9 ⟨rfl, v9, w1, hP9, rfl⟩
        have hap := Boxed.appended HV.out (by decide) HRW.out.1 HRW.out.2.2 HBX.out hP9.1.1 hP9.2
        have k1 : Boxed (w1.setCell ⟨Bx, 0, none⟩ v9) (Bx + 1) 34 (.slice ad M cap) := box_after (W2 := W2) (by rw [← hW2]; exact hb1) (by decide) HRW.out.1 hP9.2 (by omega)
        have k2 : Boxed (w1.setCell ⟨Bx, 0, none⟩ v9) (Bx + 1 + 1) 3 (.int .i64 66) := box_after (W2 := W2) (by rw [← hW2]; exact hb2) (by decide) HRW.out.1 hP9.2 (by omega)
        have k3 : KeepsOthers W W2 := by rw [← hW2]; exact KeepsOthers.drew W
        have k4 : Below w.heap.size w W2 := by rw [← hW2]; exact hB.drew
        refine ⟨(k3.trans hap.2.2.2.1).from _, ⟨?_, ?_⟩, ⟨⟨v9, hap.2.1, ?_, trivial⟩, ⟨k1, k2⟩, k4.trans (by rw [HBX9.out]; exact hap.2.2.2.2)⟩⟩
        · exact (show (w1.setCell ⟨Bx, 0, none⟩ v9).heap[Bx + 1]? = _ from k1).trans (show W.heap[Bx + 1]? = _ from hb1).symm
        · exact (show (w1.setCell ⟨Bx, 0, none⟩ v9).heap[Bx + 1 + 1]? = _ from k2).trans (show W.heap[Bx + 1 + 1]? = _ from hb2).symm
        · rw [List.map_append, hls]
          show (w1.setCell ⟨Bx, 0, none⟩ v9).ownsRow Bx 94 65 v9 (ls ++ [ndAt xs k]).length (ncs (ls ++ [ndAt xs k]))
          rw [hxe]
          exact hap.2.2.1
    case done =>
      rintro D ys W hD rfl ⟨⟨v9, hv9, hr9, -⟩, -, hB9⟩ hK
      have hcl := hv9.cell
      rw [upto_all m (ndAt xs), ← HLL.out] at hr9
      have HOK : Hid (∀ y ∈ ndl xs, y.Ok) := fun y hy => by
        rw [HLL.out] at hy
        obtain ⟨z, hz, rfl⟩ := List.mem_map.1 hy
        exact ndAt_ok HB.out (by rw [HM.out]; have := List.mem_range.1 hz; omega)
      have HNS : Hid (NS W v9 (ndl xs)) := ns_row HOK.out hr9
      have HLE : Hid ((ndl xs).length ≤ 140737488355328) := by
        show _ ≤ _
        rw [HLL.out, List.length_map, List.length_range]
        have h9 := HMM.out
        omega
      have HR9 : Hid (W.ownsRow Bx 94 65 v9 (ndl xs).length (ncs (ndl xs))) := hr9
      have HB9 : Hid (Below w.heap.size w W) := hB9
      have HK9 : Hid (W.heap[D]? = some (.deferred (some []))) := hK
      have HD9 : Hid (w.heap.size ≤ D ∧ D < W.heap.size) := ⟨by omega, (Array.getElem?_eq_some_iff.1 hK).1⟩
      clear hr9 hB9 hK hD
      gi_wp2
      refine ⟨trivial, callsIn_wide.2 ((lensHold_any (ndl xs) HOK.out HLE.out v9 W HNS.out).mono ?_)⟩
      rintro e w6 ⟨ok, rfl, h6, h7⟩
      have HL6 : Hid (ok = true ↔ lok (ndl xs)) := h6
      have HK6 : Hid (w6.heap[D]? = some (.deferred (some []))) := (h7.block D HD9.out.2).trans HK9.out
      have HB6 : Hid (Below w.heap.size w w6) := HB9.out.trans (h7.mono HB9.out.size)
      have HR6 : Hid (w6.ownsRow Bx 94 65 v9 (ndl xs).length (ncs (ndl xs))) := own_keep HR9.out h7
      have hcl6 : w6.cell? ⟨Bx, 0, none⟩ = some v9 := (h7.cell (p := ⟨Bx, 0, none⟩) hv9.lt).trans hv9.cell
      clear h6 h7 hcl hv9
      cases ok with
      | true =>
        have hrb : rnb xs = true := HLK.out.2 (HL6.out.1 rfl)
        gi_wp2
        refine ⟨by simp, .inl ⟨_, _, rfl, run_takeDeferred HK6.out, ?_⟩⟩
        rw [hrb, rdn_yes hrb]
        refine ⟨_, results_tmp2 rfl _ _ _, v9, rfl, ?_, HB6.out.trans (belowK_b (w := w) (Nat.le_refl _) w6 D _ _ HD9.out.1 HK6.out rfl rfl)⟩
        rw [HBX9.out]
        refine ⟨ownsRow_putObj HR6.out _ HK6.out rfl, HOK.out, ?_⟩
        have h9 := (belowK_b (w := w) (n₀ := w.heap.size) (Nat.le_refl _) w6 D _ (.deferred none) HD9.out.1 HK6.out rfl rfl).size
        have h8 := HB6.out.size
        omega
      | false =>
        have hrb : rnb xs = false := by
          cases hq : rnb xs with
          | false => rfl
          | true => exact absurd (HL6.out.2 (HLK.out.1 hq)) (by decide)
        gi_wp2
        refine ⟨by simp, .inl ⟨_, _, rfl, run_takeDeferred HK6.out, ?_⟩⟩
        rw [hrb, rdn_no hrb]
        refine ⟨_, results_tmp2 rfl _ _ _, _, rfl, NO.nil' ?_, HB6.out.trans (belowK_b (w := w) (Nat.le_refl _) w6 D _ _ HD9.out.1 HK6.out rfl rfl)⟩
        have h9 := (belowK_b (w := w) (n₀ := w.heap.size) (Nat.le_refl _) w6 D _ (.deferred none) HD9.out.1 HK6.out rfl rfl).size
        have h8 := HB6.out.size
        omega
    case stop =>
      rintro D c pre W _ _ h _
      exact h.elim
  · have e3 : rnb xs = false := by unfold rnb; rw [decide_eq_false h0, Bool.false_and]
    have e1 : rdn xs = [] := rdn_no e3
    rw [e1, e3]
    obtain ⟨M, hM⟩ : ∃ M, xs.length = M := ⟨_, rfl⟩
    rw [hM] at hc hl h0 ⊢
    have h1 : ¬ Int.tmod (M : Int) 66 = 0 := by rw [Int.tmod_eq_emod_of_nonneg (by omega)]; omega
    clear hx hb e1 e3 hM
    gi_wp2
    exact ⟨_, results_tmp2 rfl _ _ _, _, rfl, NO.nil' (Nat.le_refl _), Below.refl _ _⟩
end Go.Proofs.Ytfnmdeekenjlgaa
