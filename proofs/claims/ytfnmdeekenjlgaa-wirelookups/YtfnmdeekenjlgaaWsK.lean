/- Package wire: readLeaves, readLinks, readDevices, readNodes. -/
import Derived.Test.YtfnmdeekenjlgaaWsI
import Derived.Test.YtfnmdeekenjlgaaWsJ
import Derived.Test.YtfnmdeekenjlgaaWsF
import Derived.Test.YtfnmdeekenjlgaaWrtH
import Derived.Test.YtfnmdeekenjlgaaRgnV
import Derived.Maps.AppendAt
namespace Go.Proofs.Ytfnmdeekenjlgaa
open Go Go.RowKit Go.Shelf
set_option linter.unusedSimpArgs false
set_option linter.unusedVariables false
set_option maxRecDepth 100000
attribute [local go_sem] Oper.semAt_some

def cut (xs : List Int) (o n : Nat) : List Int := (xs.drop o).take n
theorem cut_l32 {xs : List Int} (hb : Byt xs) {o : Nat} (h : o + 32 ≤ xs.length) : L32 (cut xs o 32) := ⟨by simp [cut]; omega, (hb.drop _).take _⟩
theorem cut_range {w : World} {b o : Nat} {xs : List Int} (h : ∀ i, i < xs.length → w.cell? ⟨b, o + i, none⟩ = some (.int .u8 (gi xs i))) {off n : Nat} (hn : off + n ≤ xs.length) : w.rangeAt b (o + off) (bv (cut xs off n)) := fun j u hu => by
  have hj : j < n := by have := (List.getElem?_eq_some_iff.1 hu).1; simp [bv_length, cut] at this; omega
  rw [Nat.add_assoc, h (off + j) (by omega)]
  have e : (bv (cut xs off n))[j]? = some (.int .u8 (gi (cut xs off n) j)) := bv_get _ (by simp [cut]; omega)
  rw [e] at hu
  rw [← hu]
  unfold cut
  rw [gi_take hj, gi_drop]
theorem start3 (w : World) (t : TypeId) (v : Value) (c : Int) {W0 : World} (e : ((w.alloc (.cells #[.slice none 0 0] t)).alloc (.cells #[v] 34)).alloc (.cells #[.int .i64 c] 3) = W0) :
    Boxed W0 w.heap.size t (.slice none 0 0) ∧ Boxed W0 (w.heap.size + 1) 34 v ∧ Boxed W0 (w.heap.size + 1 + 1) 3 (.int .i64 c) ∧ W0.heap.size = w.heap.size + 3 ∧ Below w.heap.size w W0 := by
  subst e
  have b1 := Boxed.new (w.alloc (.cells #[.slice none 0 0] t)) 34 v
  have b2 := Boxed.new ((w.alloc (.cells #[.slice none 0 0] t)).alloc (.cells #[v] 34)) 3 (.int .i64 c)
  rw [World.size_alloc] at b1
  rw [World.size_alloc, World.size_alloc] at b2
  exact ⟨((Boxed.new w t _).alloc _).alloc _, b1.alloc _, b2, by simp, (((Below.refl _ w).alloc (Nat.le_refl _) _).alloc (by simp) _).alloc (by simp; omega) _⟩
theorem sl_lies {w : World} {ad : Option Addr} {n cap : Nat} {xs : List Int} (h : (xs = [] ∧ (ad = none → cap = 0)) ∨ ∃ b o, ad = some ⟨b, o, none⟩ ∧ b < w.heap.size ∧ ∀ i, i < xs.length → w.cell? ⟨b, o + i, none⟩ = some (.int .u8 (gi xs i))) :
    ∃ b o, 0 < xs.length → ad = some ⟨b, o, none⟩ ∧ b < w.heap.size ∧ ∀ i, i < xs.length → w.cell? ⟨b, o + i, none⟩ = some (.int .u8 (gi xs i)) := by
  rcases h with ⟨rfl, _⟩ | ⟨b, o, h1, h2, h3⟩
  · exact ⟨0, 0, fun h => by simp at h⟩
  · exact ⟨b, o, fun _ => ⟨h1, h2, h3⟩⟩
/-- What lies about the region that builds one thing and puts it behind the others. -/
def rbΩ (W0 W1 : World) (Bx : Nat) (sl : Value) (P2 : Value → World → Prop) : Nat → (Nat → Value) → World → Prop
  | 0, _, W => W = W0
  | 1, U, W => U 0 = sl ∧ W = W1
  | 2, U, W => P2 (U 1) W
  | _ + 3, U, W => ∃ w1, P2 (U 1) w1 ∧ W = w1.setCell ⟨Bx, 0, none⟩ (U 1)
theorem box_after {W2 w1 : World} {Bx B : Nat} {t e : TypeId} {u v v' : Value} {size base k : Nat} {xs : List Value} {tmp : Obj} (hb : Boxed W2 B t u) (hte : t ≠ e) (hrow : W2.ownsRow base e size v k xs) (hg : (W2.alloc tmp).grownBy w1 v.ownBlock) (hne : B ≠ Bx) : Boxed (w1.setCell ⟨Bx, 0, none⟩ v') B t u :=
  Boxed.other ((hb.alloc tmp).kept hg (hb.not_row hte hrow)) hne _
def apP (L : Value → World → Prop) (W1 : World) (ob : Option Nat) (v' : Value) (w1 : World) : Prop := L v' w1 ∧ W1.grownBy w1 ob
theorem upto_all {α : Type} (m : Nat) (g : Nat → α) : (upto m m).map (fun k => g k.1) = (List.range m).map g := by
  rw [← upto_map m m (Nat.le_refl _), List.map_map]; rfl
theorem arr32 (b o c : Nat) (W : World) : (Instr.arrayAt 23 (.slice (some ⟨b, o, none⟩) 32 c)).run Try.prog W = .ok (.pointer (some ⟨b, o, none⟩)) W := by kernel_rfl
def lfAt (xs : List Int) (k : Nat) : Lf := ⟨cut xs (k * 64) 32, cut xs (k * 64 + 32) 32⟩
theorem lfAt_ok {xs : List Int} (hb : Byt xs) {k : Nat} (hk : k * 64 + 64 ≤ xs.length) : (lfAt xs k).Ok := ⟨cut_l32 hb (by omega), cut_l32 hb (by omega)⟩
def lkAt (xs : List Int) (k : Nat) : Lk := ⟨cut xs (k * 96) 32, cut xs (k * 96 + 32) 32, cut xs (k * 96 + 64) 32⟩
theorem lkAt_ok {xs : List Int} (hb : Byt xs) {k : Nat} (hk : k * 96 + 96 ≤ xs.length) : (lkAt xs k).Ok := ⟨cut_l32 hb (by omega), cut_l32 hb (by omega), cut_l32 hb (by omega)⟩
def dvAt (xs : List Int) (k : Nat) : List Int := cut xs (k * 32) 32
theorem dvAt_ok {xs : List Int} (hb : Byt xs) {k : Nat} (hk : k * 32 + 32 ≤ xs.length) : L32 (dvAt xs k) := cut_l32 hb (by omega)
theorem built_lf {p q : List Int} (hp : L32 p) (hq : L32 q) : Try.prog.built 84 [(0, .agg (bv p).toArray), (1, .agg (bv q).toArray)] = some (lfc ⟨p, q⟩).toArray := by
  obtain ⟨p0, p1, p2, p3, p4, p5, p6, p7, p8, p9, p10, p11, p12, p13, p14, p15, p16, p17, p18, p19, p20, p21, p22, p23, p24, p25, p26, p27, p28, p29, p30, p31, rfl⟩ := list32 hp.len
  obtain ⟨q0, q1, q2, q3, q4, q5, q6, q7, q8, q9, q10, q11, q12, q13, q14, q15, q16, q17, q18, q19, q20, q21, q22, q23, q24, q25, q26, q27, q28, q29, q30, q31, rfl⟩ := list32 hq.len
  kernel_rfl
theorem built_lk {o n q : List Int} (ho : L32 o) (hn : L32 n) (hq : L32 q) : Try.prog.built 110 [(0, .agg (bv o).toArray), (1, .agg (bv n).toArray), (2, .agg (bv q).toArray)] = some (lkc ⟨o, n, q⟩).toArray := by
  obtain ⟨o0, o1, o2, o3, o4, o5, o6, o7, o8, o9, o10, o11, o12, o13, o14, o15, o16, o17, o18, o19, o20, o21, o22, o23, o24, o25, o26, o27, o28, o29, o30, o31, rfl⟩ := list32 ho.len
  obtain ⟨n0, n1, n2, n3, n4, n5, n6, n7, n8, n9, n10, n11, n12, n13, n14, n15, n16, n17, n18, n19, n20, n21, n22, n23, n24, n25, n26, n27, n28, n29, n30, n31, rfl⟩ := list32 hn.len
  obtain ⟨q0, q1, q2, q3, q4, q5, q6, q7, q8, q9, q10, q11, q12, q13, q14, q15, q16, q17, q18, q19, q20, q21, q22, q23, q24, q25, q26, q27, q28, q29, q30, q31, rfl⟩ := list32 hq.len
  kernel_rfl
theorem build_lf {x : Lf} (hx : x.Ok) (w : World) : (Instr.build 84 #[(0, .agg (bv x.p).toArray), (1, .agg (bv x.q).toArray)]).run Try.prog w = .ok (.agg (lfc x).toArray) w := run_build w _ _ _ (built_lf hx.p hx.q)
theorem build_lk {x : Lk} (hx : x.Ok) (w : World) : (Instr.build 110 #[(0, .agg (bv x.o).toArray), (1, .agg (bv x.n).toArray), (2, .agg (bv x.q).toArray)]).run Try.prog w = .ok (.agg (lkc x).toArray) w := run_build w _ _ _ (built_lk hx.o hx.n hx.q)
def rkLeavesf (v : Value) (b p : Nat) (x : Lf) : Nat → Value
  | 0 => v
  | 1 => .slice (some ⟨b, p, none⟩) 64 64
  | 2 => .slice (some ⟨b, p, none⟩) 32 64
  | 3 => .pointer (some ⟨b, p, none⟩)
  | 4 => .agg (bv x.p).toArray
  | 5 => .slice (some ⟨b, p, none⟩) 64 64
  | 6 => .slice (some ⟨b, p + 32, none⟩) 32 32
  | 7 => .pointer (some ⟨b, p + 32, none⟩)
  | 8 => .agg (bv x.q).toArray
  | 9 => .agg (lfc x).toArray
  | 10 => undef
  | 11 => undef
  | 12 => undef
  | _ => undef
def rdl (xs : List Int) : List Lf := if xs.length % 64 = 0 then (List.range (xs.length / 64)).map (lfAt xs) else []
set_option maxHeartbeats 4000000 in
theorem readLeaves_any (xs : List Int) (v : Value) (w : World) (hb : Byt xs) (hs : Sl w v xs) (hl : xs.length ≤ 1048576) :
    Calls Try.prog 45 #[v] w fun e w' => ∃ v', e = .returned (.tuple #[v', .bool (decide (xs.length % 64 = 0))]) ∧ LO w.heap.size w' v' (rdl xs) ∧ Below w.heap.size w w' := by
  obtain ⟨ad, cap, rfl, hc, hx⟩ := hs
  refine (callsIn_wide (n := 9)).1 ?_
  refine callsIn_of_wp_marks Try.func45 rfl trivial ?_ rfl
  simp only [Try.ntmps45, List.size_toArray, List.length_cons, List.length_nil, Nat.reduceAdd, Nat.reduceSub, Array.replicate_succ, Array.replicate_zero, List.push_toArray, List.append_toArray, List.nil_append, List.cons_append]
  have HB : Hid (Byt xs) := hb
  by_cases h0 : xs.length % 64 = 0
  · obtain ⟨m, hm⟩ : ∃ m, xs.length = m * 64 := ⟨xs.length / 64, by omega⟩
    have e1 : rdl xs = (List.range m).map (lfAt xs) := by unfold rdl; rw [if_pos h0, show xs.length / 64 = m by omega]
    have e2 : decide (xs.length % 64 = 0) = true := decide_eq_true h0
    rw [e1, e2]
    obtain ⟨b, o, hxx⟩ := sl_lies (n := 0) hx
    have HXX : Hid (0 < xs.length → ad = some ⟨b, o, none⟩ ∧ b < w.heap.size ∧ ∀ i, i < xs.length → w.cell? ⟨b, o + i, none⟩ = some (.int .u8 (gi xs i))) := hxx
    obtain ⟨M, hM⟩ : ∃ M, m * 64 = M := ⟨_, rfl⟩
    have HM : Hid (xs.length = m * 64) := hm
    have HMM : Hid (m * 64 = M) := hM
    rw [hm, hM] at hc hl ⊢
    have h1 : Int.tmod (M : Int) 64 = 0 := by rw [Int.tmod_eq_emod_of_nonneg (by omega)]; omega
    have HC : Hid (M ≤ cap ∧ M ≤ 1048576) := ⟨hc, hl⟩
    clear hx hb e1 e2 hxx hm hM h0 hc hl
    gi_wp2
    refine ⟨trivial, (chunk_in _ _ _ _ 64 (by decide) _).mono ?_⟩
    rintro e w' ⟨rfl, rfl⟩
    clear h1
    gi_wp2
    obtain ⟨W0, hW0⟩ : ∃ W0, ((w.alloc (.cells #[.slice none 0 0] 43)).alloc (.cells #[.slice ad M cap] 34)).alloc (.cells #[.int .i64 64] 3) = W0 := ⟨_, rfl⟩
    rw [hW0]
    obtain ⟨s1, s2, s3, s4, s5⟩ := start3 w 43 (.slice ad M cap) 64 hW0
    clear hW0
    obtain ⟨Bx, hBx⟩ : ∃ Bx, w.heap.size = Bx := ⟨_, rfl⟩
    have HBX9 : Hid (w.heap.size = Bx) := hBx
    rw [hBx] at s1 s2 s3 s4 ⊢
    have hc1 := HC.out.1
    have hc2 := HC.out.2
    refine wpIn_rangeFunc_ownG rfl (by decide) (gf := 73) (lb := #[.pointer (some ⟨Bx + 1, 0, none⟩), .pointer (some ⟨Bx + 1 + 1, 0, none⟩)]) rfl trivial (enters_of Try.func73 (by kernel_rfl) rfl)
      (chunk_stops 8 (Bx + 1) (Bx + 1 + 1) b o 64 m cap ad (by decide) (by decide) (by rw [HMM.out]; exact hc2) (by rw [HMM.out]; exact hc1) (fun hm0 => (HXX.out (by rw [HM.out]; omega)).1) W0 (by omega) (by omega) (by rw [HMM.out]; exact s2.cell) s3.cell) (fun h k => h.trans k) (KC.put (by omega) (by omega)) (Below.refl _ _) (fun _ => rfl)
      (fun (pre : List (Ix m)) (W : World) => (∃ v, Boxed W Bx 43 v ∧ W.ownsRow Bx 84 64 v (pre.map (fun k => lfAt xs k.1)).length (lcs (pre.map (fun k => lfAt xs k.1))) ∧ True) ∧ ((Boxed W (Bx + 1) 34 (.slice ad M cap) ∧ Boxed W (Bx + 1 + 1) 3 (.int .i64 64)) ∧ Below w.heap.size w W))
      (fun (_ : Code) (_ : List (Ix m)) (_ : World) => False)
      (OwnFrom.and (Own.from (holdsRow_own Bx Bx 43 84 64 (fun (pre : List (Ix m)) => (pre.map (fun k : Ix m => lfAt xs k.1)).length) (fun (pre : List (Ix m)) => lcs (pre.map (fun k : Ix m => lfAt xs k.1))) (fun _ _ => True)) _) (OwnFrom.and (OwnFrom.and (Own.from (boxed_own _ _ _) _) (Own.from (boxed_own _ _ _) _)) (ownFrom_below (Nat.le_refl _) (by omega))))
      (fun _ _ _ _ _ hs _ _ => hs)
      ⟨⟨_, s1, World.ownsRow_nil _ _ _ _, trivial⟩, ⟨s2, s3⟩, s5⟩
      (fun (x : Ix m) => { tmps := #[.slice ad M cap, undef, .slice none 0 0, .bool false, .pointer (some ⟨Bx, 0, none⟩), chk b o 64 x.1, .slice ad M cap, .int .i64 (M : Int), .int .i64 0, .bool false, .slice ad M cap, .func (.func 73) #[] #[.pointer (some ⟨Bx + 1, 0, none⟩), .pointer (some ⟨Bx + 1 + 1, 0, none⟩)], chk b o 64 x.1, undef, undef, undef, undef, undef, undef, undef, undef, undef, undef, undef, undef, undef], defers := [] }) ?assign ?body ?done ?stop
    case assign =>
      intro l x W K hK
      gi_wp2
      exact hK
    case body =>
      rintro l pre ⟨k, hkm⟩ W ⟨⟨v, hv, hrow, -⟩, ⟨hb1, hb2⟩, hB⟩ hlen
      obtain ⟨ls, hls⟩ : ∃ ls, pre.map (fun k => lfAt xs k.1) = ls := ⟨_, rfl⟩
      have HLS : Hid (pre.map (fun k => lfAt xs k.1) = ls) := hls
      rw [hls] at hrow
      have hkc : k * 64 + 64 ≤ xs.length := by rw [HM.out]; omega
      have hxo := HXX.out (by omega)
      obtain ⟨x, hxe⟩ : ∃ x, lfAt xs k = x := ⟨_, rfl⟩
      have HXE : Hid (lfAt xs k = x) := hxe
      have HXK : Hid (x.Ok) := by rw [← hxe]; exact lfAt_ok HB.out hkc
      obtain ⟨p, hp⟩ : ∃ p, o + k * 64 = p := ⟨_, rfl⟩
      have HPE : Hid (o + k * 64 = p) := hp
      have hlok : ∀ y ∈ ls, y.Ok := fun y hy => by
        rw [← hls] at hy
        obtain ⟨z, hz, rfl⟩ := List.mem_map.1 hy
        exact lfAt_ok HB.out (by rw [HM.out]; have := z.2; omega)
      have hcw : ∀ i, i < xs.length → W.cell? ⟨b, o + i, none⟩ = some (.int .u8 (gi xs i)) := fun i hi => (hB.cell (p := ⟨b, o + i, none⟩) hxo.2.1).trans (hxo.2.2 i hi)
      simp only [chk]
      rw [hp]
      refine wpIn_block ?_
      obtain ⟨W2, hW2⟩ : ∃ W2, W.drew = W2 := ⟨_, rfl⟩
      have HV : Hid (Boxed W2 Bx 43 v) := by rw [← hW2]; exact hv
      have HRW : Hid (LO Bx W2 v ls) := by rw [← hW2]; exact ⟨hrow, hlok, Nat.le_of_lt (Boxed.lt (W := W) hv)⟩
      have HLN : Hid (ls.length + 1 ≤ 3000000000000) := by
        show _ ≤ _
        rw [← hls, List.length_map]
        have h9 := HMM.out
        omega
      have HBX : Hid (Bx ≤ Bx) := Nat.le_refl _
      have RP0 : W2.rangeAt b (p) (bv x.p) := by
        rw [← HXE.out, ← HPE.out, ← hW2]
        have := cut_range (off := k * 64) (n := 32) hcw (by omega)
        exact this
      have RP1 : W2.rangeAt b (p + 32) (bv x.q) := by
        rw [← HXE.out, ← HPE.out, ← hW2]
        have := cut_range (off := k * 64 + 32) (n := 32) hcw (by omega)
        exact this
      have h4 : Act.eval ⟨#[.slice ad M cap, undef, .slice none 0 0, .bool false, .pointer (some ⟨Bx, 0, none⟩), .slice (some ⟨b, p, none⟩) 64 64, .slice ad M cap, .int .i64 (M : Int), .int .i64 0, .bool false, .slice ad M cap, .func (.func 73) #[] #[.pointer (some ⟨Bx + 1, 0, none⟩), .pointer (some ⟨Bx + 1 + 1, 0, none⟩)], .slice (some ⟨b, p, none⟩) 64 64, undef, undef, undef, undef, undef, undef, undef, undef, undef, undef, undef, undef, undef], []⟩ (.tmp 4) = .pointer (some ⟨Bx, 0, none⟩) := rfl
      have h5 : Act.eval ⟨#[.slice ad M cap, undef, .slice none 0 0, .bool false, .pointer (some ⟨Bx, 0, none⟩), .slice (some ⟨b, p, none⟩) 64 64, .slice ad M cap, .int .i64 (M : Int), .int .i64 0, .bool false, .slice ad M cap, .func (.func 73) #[] #[.pointer (some ⟨Bx + 1, 0, none⟩), .pointer (some ⟨Bx + 1 + 1, 0, none⟩)], .slice (some ⟨b, p, none⟩) 64 64, undef, undef, undef, undef, undef, undef, undef, undef, undef, undef, undef, undef, undef], []⟩ (.tmp 5) = .slice (some ⟨b, p, none⟩) 64 64 := rfl
      have HW2 : Hid (W.drew = W2) := hW2
      refine wpIn_mono (Q := fun e _ W9 => e = .normal ∧ ∃ v9 w1, (LO Bx w1 v9 (ls ++ [x]) ∧ (W2.alloc (.cells (lfc x).toArray 84)).grownBy w1 v.ownBlock) ∧ W9 = w1.setCell ⟨Bx, 0, none⟩ v9) ?_ ?_
      · have hlo : ¬ LetsOut (fun (e : Exit) (_ : Act) (W9 : World) => e = .normal ∧ ∃ v9 w1, (LO Bx w1 v9 (ls ++ [x]) ∧ (W2.alloc (.cells (lfc x).toArray 84)).grownBy w1 v.ownBlock) ∧ W9 = w1.setCell ⟨Bx, 0, none⟩ v9) := fun ⟨_, _, h, _⟩ => by cases h
        clear hW2
        refine RU.wpIn_rgn [10, 11, 12] (rkLeavesf v b p x) (fun i => if i = 0 then 1 else 0) (rbΩ W2 (W2.alloc (.cells (lfc x).toArray 84)) Bx (.slice (some ⟨W2.heap.size, 0, none⟩) 1 1) (apP (fun v9 w1 => LO Bx w1 v9 (ls ++ [x])) (W2.alloc (.cells (lfc x).toArray 84)) v.ownBlock)) (by kernel_rfl) hlo (by kernel_rfl) (by kernel_rfl) HW2.out ?_ ?_
        · refine ⟨?_, ?_, ?_, ?_, ?_, ?_, ?_, ?_, ?_, ?_, ?_, ?_, ?_, trivial⟩
          · refine RU.ObT.silent rfl (fun a W k0 V hO hf hp hk => ?_)
            have hcl : W.cell? ⟨Bx, 0, none⟩ = some v := by
              match k0, hk, hO with
              | 0, _, hO => rw [show W = _ from hO]; exact HV.out.cell
              | 1, _, hO => rw [show W = _ from hO.2]; exact (HV.out.alloc _).cell
            refine RU.ob_val rfl (RU.wanted_none rfl) (fun ev he hc => ?_) ⟨rfl, hO⟩
            have q4 : ev (.tmp 4) = .pointer (some ⟨Bx, 0, none⟩) := (he (.tmp 4)).trans ((hf 4 rfl).trans h4)
            simp only [List.getElem_toArray, List.getElem_cons_succ, List.getElem_cons_zero, execOp]; rw [q4]
            first | (go_simp; done) | (go_simp; rfl) | rfl
          · refine RU.ObT.pure rfl rfl rfl (fun a V hf hp ev he hc W => ?_)
            have q5 : ev (.tmp 5) = .slice (some ⟨b, p, none⟩) 64 64 := (he (.tmp 5)).trans ((hf 5 rfl).trans h5)
            simp only [List.getElem_toArray, List.getElem_cons_succ, List.getElem_cons_zero, execOp, Option.map_some, Option.map_none]; rw [q5]
            first | (go_simp; done) | (go_simp; rfl) | rfl
          · refine RU.ObT.pure rfl rfl rfl (fun a V hf hp ev he hc W => ?_)
            have q14 : ev (.tmp 14) = .slice (some ⟨b, p, none⟩) 64 64 := (he (.tmp 14)).trans (hp 1 14 rfl)
            simp only [List.getElem_toArray, List.getElem_cons_succ, List.getElem_cons_zero, execOp, Option.map_some, Option.map_none]; rw [q14]
            try simp only [hc]
            first | (go_simp; done) | (go_simp; rfl) | rfl
          · refine RU.ObT.pure rfl rfl rfl (fun a V hf hp ev he hc W => ?_)
            have q15 : ev (.tmp 15) = .slice (some ⟨b, p, none⟩) 32 64 := (he (.tmp 15)).trans (hp 2 15 rfl)
            simp only [List.getElem_toArray, List.getElem_cons_succ, List.getElem_cons_zero, execOp, Option.map_some, Option.map_none]; rw [q15]
            rw [Sem.run_bind, arr32 b _ 64 W]; rfl
          · refine RU.ObT.silent rfl (fun a W k0 V hO hf hp hk => ?_)
            have q16 : a.eval (.tmp 16) = .pointer (some ⟨b, p, none⟩) := hp 3 16 rfl
            exact RU.ob_op rfl (RU.wanted_none rfl) (wp_load_mid 23 (.tmp 16) rfl (b) (p) q16 (bv x.p) _ ((by rw [show W = _ from (by obtain rfl := Nat.le_zero.1 hk; exact hO)]; exact RP0)) Try.underlying23 rfl (size_l32 HXK.out.p) ⟨rfl, hO⟩)
          · refine RU.ObT.pure rfl rfl rfl (fun a V hf hp ev he hc W => ?_)
            have q5 : ev (.tmp 5) = .slice (some ⟨b, p, none⟩) 64 64 := (he (.tmp 5)).trans ((hf 5 rfl).trans h5)
            simp only [List.getElem_toArray, List.getElem_cons_succ, List.getElem_cons_zero, execOp, Option.map_some, Option.map_none]; rw [q5]
            first | (go_simp; done) | (go_simp; rfl) | rfl
          · refine RU.ObT.pure rfl rfl rfl (fun a V hf hp ev he hc W => ?_)
            have q18 : ev (.tmp 18) = .slice (some ⟨b, p, none⟩) 64 64 := (he (.tmp 18)).trans (hp 5 18 rfl)
            simp only [List.getElem_toArray, List.getElem_cons_succ, List.getElem_cons_zero, execOp, Option.map_some, Option.map_none]; rw [q18]
            try simp only [hc]
            first | (go_simp; done) | (go_simp; rfl) | rfl
          · refine RU.ObT.pure rfl rfl rfl (fun a V hf hp ev he hc W => ?_)
            have q19 : ev (.tmp 19) = .slice (some ⟨b, p + 32, none⟩) 32 32 := (he (.tmp 19)).trans (hp 6 19 rfl)
            simp only [List.getElem_toArray, List.getElem_cons_succ, List.getElem_cons_zero, execOp, Option.map_some, Option.map_none]; rw [q19]
            rw [Sem.run_bind, arr32 b _ 32 W]; rfl
          · refine RU.ObT.silent rfl (fun a W k0 V hO hf hp hk => ?_)
            have q20 : a.eval (.tmp 20) = .pointer (some ⟨b, p + 32, none⟩) := hp 7 20 rfl
            exact RU.ob_op rfl (RU.wanted_none rfl) (wp_load_mid 23 (.tmp 20) rfl (b) (p + 32) q20 (bv x.q) _ ((by rw [show W = _ from (by obtain rfl := Nat.le_zero.1 hk; exact hO)]; exact RP1)) Try.underlying23 rfl (size_l32 HXK.out.q) ⟨rfl, hO⟩)
          · refine RU.ObT.pure rfl rfl rfl (fun a V hf hp ev he hc W => ?_)
            have q17 : ev (.tmp 17) = .agg (bv x.p).toArray := (he (.tmp 17)).trans (hp 4 17 rfl)
            have q21 : ev (.tmp 21) = .agg (bv x.q).toArray := (he (.tmp 21)).trans (hp 8 21 rfl)
            simp only [List.getElem_toArray, List.getElem_cons_succ, List.getElem_cons_zero, execOp, List.map_toArray, List.map_cons, List.map_nil, q17, q21, Sem.run_bind, build_lf HXK.out W, Result.andThen_ok, Sem.run_pure]
            rfl
          · refine RU.ObT.loud (j := 0) rfl (fun a W V hO hf hp => ?_)
            have q1 : a.eval (.tmp 22) = .agg (lfc x).toArray := hp 9 22 rfl
            have hW : W = W2 := hO
            subst hW
            refine RU.ob_run (v := .slice (some ⟨W.heap.size, 0, none⟩) 1 1) (w' := W.alloc (.cells (lfc x).toArray 84)) rfl (RU.wanted_none rfl) (fun ev he hc => ?_) ⟨_, rfl, rfl, rfl⟩
            have e1 := (he (.tmp 22)).trans q1
            simp only [List.getElem_toArray, List.getElem_cons_succ, List.getElem_cons_zero, execOp, List.map_toArray, List.map_cons, List.map_nil, e1, Sem.run_bind, run_onel W HXK.out, Result.andThen_ok, Sem.run_pure]
          · refine RU.ObT.loud (j := 1) rfl (fun a W V hO hf hp => ?_)
            have q1 : a.eval (.tmp 13) = v := hp 0 13 rfl
            have q2 : a.eval (.tmp 23) = .slice (some ⟨W2.heap.size, 0, none⟩) 1 1 := (hp 10 23 rfl).trans hO.1
            have hW : W = W2.alloc (.cells (lfc x).toArray 84) := hO.2
            obtain ⟨v', w', hr, p1, p2, p3⟩ := app_lown (HRW.out.alloc (.cells (lfc x).toArray 84)) (m := [x]) (fun y hy => by rw [List.mem_singleton.1 hy]; exact HXK.out) (ls_one W2 x 84) (by have := HLN.out; simp only [List.length_cons, List.length_nil]; omega)
            refine RU.ob_run (v := v') (w' := w') rfl (RU.wanted_none rfl) (fun ev he hc => ?_) ⟨_, rfl, ⟨p1, p3⟩⟩
            have e1 := (he (.tmp 13)).trans q1
            have e2 := (he (.tmp 23)).trans q2
            rw [hW]
            simp only [List.getElem_toArray, List.getElem_cons_succ, List.getElem_cons_zero, execOp, resolve, invoke, builtin, Sem.run_bind, Sem.run_pure, Result.andThen_ok, List.map_toArray, List.map_cons, List.map_nil, e1, e2, hr]
          · refine RU.ObT.loud (j := 2) rfl (fun a W V hO hf hp => ?_)
            have q1 : a.eval (.tmp 4) = .pointer (some ⟨Bx, 0, none⟩) := (hf 4 rfl).trans h4
            have q2 : a.eval (.tmp 24) = V 1 := hp 11 24 rfl
            have hP : LO Bx W (V 1) (ls ++ [x]) ∧ (W2.alloc (.cells (lfc x).toArray 84)).grownBy W v.ownBlock := hO
            obtain ⟨g9, c9, hv9⟩ : ∃ g cap, V 1 = .slice (some ⟨g, 0, none⟩) (ls.length + 1) cap := by
              have := hP.1.1
              rw [List.length_append] at this
              exact ownsRow_succ this
            have hb9 := (Boxed.appended HV.out (by decide) HRW.out.1 HRW.out.2.2 HBX.out hP.1.1 hP.2)
            have hc9 := hb9.1.cell
            have hf9 := hb9.1.frozen
            refine RU.ob_skip rfl (RU.wanted_none rfl) (w' := W.setCell ⟨Bx, 0, none⟩ (V 1)) (fun ev he hc => ?_) ⟨_, rfl, ⟨W, hP, rfl⟩⟩
            have e1 := (he (.tmp 4)).trans q1
            have e2 := (he (.tmp 24)).trans (q2.trans hv9)
            rw [hv9]
            simp only [List.getElem_toArray, List.getElem_cons_succ, List.getElem_cons_zero, execOp]; rw [e1, e2]
            first | (go_simp; done) | (go_simp; rfl) | rfl
        · intro a9 W9 U9 _ _ _ hO9 _
          obtain ⟨w1, hP9, hW9⟩ := hO9
          exact ⟨rfl, U9 1, w1, hP9, hW9⟩
      · rintro e9 a9 W9 ⟨rfl, v9, w1, hP9, rfl⟩
        have hap := Boxed.appended HV.out (by decide) HRW.out.1 HRW.out.2.2 HBX.out hP9.1.1 hP9.2
        have k1 : Boxed (w1.setCell ⟨Bx, 0, none⟩ v9) (Bx + 1) 34 (.slice ad M cap) := box_after (W2 := W2) (by rw [← hW2]; exact hb1) (by decide) HRW.out.1 hP9.2 (by omega)
        have k2 : Boxed (w1.setCell ⟨Bx, 0, none⟩ v9) (Bx + 1 + 1) 3 (.int .i64 64) := box_after (W2 := W2) (by rw [← hW2]; exact hb2) (by decide) HRW.out.1 hP9.2 (by omega)
        have k3 : KeepsOthers W W2 := by rw [← hW2]; exact KeepsOthers.drew W
        have k4 : Below w.heap.size w W2 := by rw [← hW2]; exact hB.drew
        refine ⟨(k3.trans hap.2.2.2.1).from _, ⟨?_, ?_⟩, ⟨⟨v9, hap.2.1, ?_, trivial⟩, ⟨k1, k2⟩, k4.trans (by rw [HBX9.out]; exact hap.2.2.2.2)⟩⟩
        · exact (show (w1.setCell ⟨Bx, 0, none⟩ v9).heap[Bx + 1]? = _ from k1).trans (show W.heap[Bx + 1]? = _ from hb1).symm
        · exact (show (w1.setCell ⟨Bx, 0, none⟩ v9).heap[Bx + 1 + 1]? = _ from k2).trans (show W.heap[Bx + 1 + 1]? = _ from hb2).symm
        · rw [List.map_append, hls]
          show (w1.setCell ⟨Bx, 0, none⟩ v9).ownsRow Bx 84 64 v9 (ls ++ [lfAt xs k]).length (lcs (ls ++ [lfAt xs k]))
          rw [hxe]
          exact hap.2.2.1
    case done =>
      rintro D ys W hD rfl ⟨⟨v9, hv9, hr9, -⟩, -, hB9⟩ hK
      have hcl := hv9.cell
      gi_wp2
      refine ⟨by simp, .inl ⟨_, _, rfl, run_takeDeferred hK, ?_⟩⟩
      rw [upto_all m (lfAt xs)] at hr9
      refine ⟨_, results_tmp2 rfl _ _ _, v9, rfl, ?_, hB9.trans (belowK_b (w := w) (Nat.le_refl _) W D _ _ (by omega) hK rfl rfl)⟩
      rw [HBX9.out]
      refine ⟨ownsRow_putObj hr9 _ hK rfl, fun y hy => ?_, ?_⟩
      · obtain ⟨z, hz, rfl⟩ := List.mem_map.1 hy
        exact lfAt_ok HB.out (by rw [HM.out]; have := List.mem_range.1 hz; omega)
      · have h9 := (belowK_b (w := w) (n₀ := w.heap.size) (Nat.le_refl _) W D _ (.deferred none) (by omega) hK rfl rfl).size
        have h8 := hB9.size
        omega
    case stop =>
      rintro D c pre W _ _ h _
      exact h.elim
  · have e1 : rdl xs = [] := by unfold rdl; rw [if_neg h0]
    have e2 : decide (xs.length % 64 = 0) = false := decide_eq_false h0
    rw [e1, e2]
    obtain ⟨M, hM⟩ : ∃ M, xs.length = M := ⟨_, rfl⟩
    rw [hM] at hc hl h0 ⊢
    have h1 : ¬ Int.tmod (M : Int) 64 = 0 := by rw [Int.tmod_eq_emod_of_nonneg (by omega)]; omega
    clear hx hb e1 e2 hM
    gi_wp2
    exact ⟨_, results_tmp2 rfl _ _ _, _, rfl, LO.nil' (Nat.le_refl _), Below.refl _ _⟩
def rkLinksf (v : Value) (b p : Nat) (x : Lk) : Nat → Value
  | 0 => v
  | 1 => .slice (some ⟨b, p, none⟩) 96 96
  | 2 => .slice (some ⟨b, p, none⟩) 32 96
  | 3 => .pointer (some ⟨b, p, none⟩)
  | 4 => .agg (bv x.o).toArray
  | 5 => .slice (some ⟨b, p, none⟩) 96 96
  | 6 => .slice (some ⟨b, p + 32, none⟩) 32 64
  | 7 => .pointer (some ⟨b, p + 32, none⟩)
  | 8 => .agg (bv x.n).toArray
  | 9 => .slice (some ⟨b, p, none⟩) 96 96
  | 10 => .slice (some ⟨b, p + 64, none⟩) 32 32
  | 11 => .pointer (some ⟨b, p + 64, none⟩)
  | 12 => .agg (bv x.q).toArray
  | 13 => .agg (lkc x).toArray
  | 14 => undef
  | 15 => undef
  | 16 => undef
  | _ => undef
def rdk (xs : List Int) : List Lk := if xs.length % 96 = 0 then (List.range (xs.length / 96)).map (lkAt xs) else []
set_option maxHeartbeats 4000000 in
theorem readLinks_any (xs : List Int) (v : Value) (w : World) (hb : Byt xs) (hs : Sl w v xs) (hl : xs.length ≤ 1048576) :
    Calls Try.prog 46 #[v] w fun e w' => ∃ v', e = .returned (.tuple #[v', .bool (decide (xs.length % 96 = 0))]) ∧ KO w.heap.size w' v' (rdk xs) ∧ Below w.heap.size w w' := by
  obtain ⟨ad, cap, rfl, hc, hx⟩ := hs
  refine (callsIn_wide (n := 9)).1 ?_
  refine callsIn_of_wp_marks Try.func46 rfl trivial ?_ rfl
  simp only [Try.ntmps46, List.size_toArray, List.length_cons, List.length_nil, Nat.reduceAdd, Nat.reduceSub, Array.replicate_succ, Array.replicate_zero, List.push_toArray, List.append_toArray, List.nil_append, List.cons_append]
  have HB : Hid (Byt xs) := hb
  by_cases h0 : xs.length % 96 = 0
  · obtain ⟨m, hm⟩ : ∃ m, xs.length = m * 96 := ⟨xs.length / 96, by omega⟩
    have e1 : rdk xs = (List.range m).map (lkAt xs) := by unfold rdk; rw [if_pos h0, show xs.length / 96 = m by omega]
    have e2 : decide (xs.length % 96 = 0) = true := decide_eq_true h0
    rw [e1, e2]
    obtain ⟨b, o, hxx⟩ := sl_lies (n := 0) hx
    have HXX : Hid (0 < xs.length → ad = some ⟨b, o, none⟩ ∧ b < w.heap.size ∧ ∀ i, i < xs.length → w.cell? ⟨b, o + i, none⟩ = some (.int .u8 (gi xs i))) := hxx
    obtain ⟨M, hM⟩ : ∃ M, m * 96 = M := ⟨_, rfl⟩
    have HM : Hid (xs.length = m * 96) := hm
    have HMM : Hid (m * 96 = M) := hM
    rw [hm, hM] at hc hl ⊢
    have h1 : Int.tmod (M : Int) 96 = 0 := by rw [Int.tmod_eq_emod_of_nonneg (by omega)]; omega
    have HC : Hid (M ≤ cap ∧ M ≤ 1048576) := ⟨hc, hl⟩
    clear hx hb e1 e2 hxx hm hM h0 hc hl
    gi_wp2
    refine ⟨trivial, (chunk_in _ _ _ _ 96 (by decide) _).mono ?_⟩
    rintro e w' ⟨rfl, rfl⟩
    clear h1
    gi_wp2
    obtain ⟨W0, hW0⟩ : ∃ W0, ((w.alloc (.cells #[.slice none 0 0] 44)).alloc (.cells #[.slice ad M cap] 34)).alloc (.cells #[.int .i64 96] 3) = W0 := ⟨_, rfl⟩
    rw [hW0]
    obtain ⟨s1, s2, s3, s4, s5⟩ := start3 w 44 (.slice ad M cap) 96 hW0
    clear hW0
    obtain ⟨Bx, hBx⟩ : ∃ Bx, w.heap.size = Bx := ⟨_, rfl⟩
    have HBX9 : Hid (w.heap.size = Bx) := hBx
    rw [hBx] at s1 s2 s3 s4 ⊢
    have hc1 := HC.out.1
    have hc2 := HC.out.2
    refine wpIn_rangeFunc_ownG rfl (by decide) (gf := 73) (lb := #[.pointer (some ⟨Bx + 1, 0, none⟩), .pointer (some ⟨Bx + 1 + 1, 0, none⟩)]) rfl trivial (enters_of Try.func73 (by kernel_rfl) rfl)
      (chunk_stops 8 (Bx + 1) (Bx + 1 + 1) b o 96 m cap ad (by decide) (by decide) (by rw [HMM.out]; exact hc2) (by rw [HMM.out]; exact hc1) (fun hm0 => (HXX.out (by rw [HM.out]; omega)).1) W0 (by omega) (by omega) (by rw [HMM.out]; exact s2.cell) s3.cell) (fun h k => h.trans k) (KC.put (by omega) (by omega)) (Below.refl _ _) (fun _ => rfl)
      (fun (pre : List (Ix m)) (W : World) => (∃ v, Boxed W Bx 44 v ∧ W.ownsRow Bx 110 96 v (pre.map (fun k => lkAt xs k.1)).length (kcs (pre.map (fun k => lkAt xs k.1))) ∧ True) ∧ ((Boxed W (Bx + 1) 34 (.slice ad M cap) ∧ Boxed W (Bx + 1 + 1) 3 (.int .i64 96)) ∧ Below w.heap.size w W))
      (fun (_ : Code) (_ : List (Ix m)) (_ : World) => False)
      (OwnFrom.and (Own.from (holdsRow_own Bx Bx 44 110 96 (fun (pre : List (Ix m)) => (pre.map (fun k : Ix m => lkAt xs k.1)).length) (fun (pre : List (Ix m)) => kcs (pre.map (fun k : Ix m => lkAt xs k.1))) (fun _ _ => True)) _) (OwnFrom.and (OwnFrom.and (Own.from (boxed_own _ _ _) _) (Own.from (boxed_own _ _ _) _)) (ownFrom_below (Nat.le_refl _) (by omega))))
      (fun _ _ _ _ _ hs _ _ => hs)
      ⟨⟨_, s1, World.ownsRow_nil _ _ _ _, trivial⟩, ⟨s2, s3⟩, s5⟩
      (fun (x : Ix m) => { tmps := #[.slice ad M cap, undef, .slice none 0 0, .bool false, .pointer (some ⟨Bx, 0, none⟩), chk b o 96 x.1, .slice ad M cap, .int .i64 (M : Int), .int .i64 0, .bool false, .slice ad M cap, .func (.func 73) #[] #[.pointer (some ⟨Bx + 1, 0, none⟩), .pointer (some ⟨Bx + 1 + 1, 0, none⟩)], chk b o 96 x.1, undef, undef, undef, undef, undef, undef, undef, undef, undef, undef, undef, undef, undef, undef, undef, undef, undef], defers := [] }) ?assign ?body ?done ?stop
    case assign =>
      intro l x W K hK
      gi_wp2
      exact hK
    case body =>
      rintro l pre ⟨k, hkm⟩ W ⟨⟨v, hv, hrow, -⟩, ⟨hb1, hb2⟩, hB⟩ hlen
      obtain ⟨ls, hls⟩ : ∃ ls, pre.map (fun k => lkAt xs k.1) = ls := ⟨_, rfl⟩
      have HLS : Hid (pre.map (fun k => lkAt xs k.1) = ls) := hls
      rw [hls] at hrow
      have hkc : k * 96 + 96 ≤ xs.length := by rw [HM.out]; omega
      have hxo := HXX.out (by omega)
      obtain ⟨x, hxe⟩ : ∃ x, lkAt xs k = x := ⟨_, rfl⟩
      have HXE : Hid (lkAt xs k = x) := hxe
      have HXK : Hid (x.Ok) := by rw [← hxe]; exact lkAt_ok HB.out hkc
      obtain ⟨p, hp⟩ : ∃ p, o + k * 96 = p := ⟨_, rfl⟩
      have HPE : Hid (o + k * 96 = p) := hp
      have hlok : ∀ y ∈ ls, y.Ok := fun y hy => by
        rw [← hls] at hy
        obtain ⟨z, hz, rfl⟩ := List.mem_map.1 hy
        exact lkAt_ok HB.out (by rw [HM.out]; have := z.2; omega)
      have hcw : ∀ i, i < xs.length → W.cell? ⟨b, o + i, none⟩ = some (.int .u8 (gi xs i)) := fun i hi => (hB.cell (p := ⟨b, o + i, none⟩) hxo.2.1).trans (hxo.2.2 i hi)
      simp only [chk]
      rw [hp]
      refine wpIn_block ?_
      obtain ⟨W2, hW2⟩ : ∃ W2, W.drew = W2 := ⟨_, rfl⟩
      have HV : Hid (Boxed W2 Bx 44 v) := by rw [← hW2]; exact hv
      have HRW : Hid (KO Bx W2 v ls) := by rw [← hW2]; exact ⟨hrow, hlok, Nat.le_of_lt (Boxed.lt (W := W) hv)⟩
      have HLN : Hid (ls.length + 1 ≤ 1460000000000) := by
        show _ ≤ _
        rw [← hls, List.length_map]
        have h9 := HMM.out
        omega
      have HBX : Hid (Bx ≤ Bx) := Nat.le_refl _
      have RP0 : W2.rangeAt b (p) (bv x.o) := by
        rw [← HXE.out, ← HPE.out, ← hW2]
        have := cut_range (off := k * 96) (n := 32) hcw (by omega)
        exact this
      have RP1 : W2.rangeAt b (p + 32) (bv x.n) := by
        rw [← HXE.out, ← HPE.out, ← hW2]
        have := cut_range (off := k * 96 + 32) (n := 32) hcw (by omega)
        exact this
      have RP2 : W2.rangeAt b (p + 64) (bv x.q) := by
        rw [← HXE.out, ← HPE.out, ← hW2]
        have := cut_range (off := k * 96 + 64) (n := 32) hcw (by omega)
        exact this
      have h4 : Act.eval ⟨#[.slice ad M cap, undef, .slice none 0 0, .bool false, .pointer (some ⟨Bx, 0, none⟩), .slice (some ⟨b, p, none⟩) 96 96, .slice ad M cap, .int .i64 (M : Int), .int .i64 0, .bool false, .slice ad M cap, .func (.func 73) #[] #[.pointer (some ⟨Bx + 1, 0, none⟩), .pointer (some ⟨Bx + 1 + 1, 0, none⟩)], .slice (some ⟨b, p, none⟩) 96 96, undef, undef, undef, undef, undef, undef, undef, undef, undef, undef, undef, undef, undef, undef, undef, undef, undef], []⟩ (.tmp 4) = .pointer (some ⟨Bx, 0, none⟩) := rfl
      have h5 : Act.eval ⟨#[.slice ad M cap, undef, .slice none 0 0, .bool false, .pointer (some ⟨Bx, 0, none⟩), .slice (some ⟨b, p, none⟩) 96 96, .slice ad M cap, .int .i64 (M : Int), .int .i64 0, .bool false, .slice ad M cap, .func (.func 73) #[] #[.pointer (some ⟨Bx + 1, 0, none⟩), .pointer (some ⟨Bx + 1 + 1, 0, none⟩)], .slice (some ⟨b, p, none⟩) 96 96, undef, undef, undef, undef, undef, undef, undef, undef, undef, undef, undef, undef, undef, undef, undef, undef, undef], []⟩ (.tmp 5) = .slice (some ⟨b, p, none⟩) 96 96 := rfl
      have HW2 : Hid (W.drew = W2) := hW2
      refine wpIn_mono (Q := fun e _ W9 => e = .normal ∧ ∃ v9 w1, (KO Bx w1 v9 (ls ++ [x]) ∧ (W2.alloc (.cells (lkc x).toArray 110)).grownBy w1 v.ownBlock) ∧ W9 = w1.setCell ⟨Bx, 0, none⟩ v9) ?_ ?_
      · have hlo : ¬ LetsOut (fun (e : Exit) (_ : Act) (W9 : World) => e = .normal ∧ ∃ v9 w1, (KO Bx w1 v9 (ls ++ [x]) ∧ (W2.alloc (.cells (lkc x).toArray 110)).grownBy w1 v.ownBlock) ∧ W9 = w1.setCell ⟨Bx, 0, none⟩ v9) := fun ⟨_, _, h, _⟩ => by cases h
        clear hW2
        refine RU.wpIn_rgn [14, 15, 16] (rkLinksf v b p x) (fun i => if i = 0 then 1 else 0) (rbΩ W2 (W2.alloc (.cells (lkc x).toArray 110)) Bx (.slice (some ⟨W2.heap.size, 0, none⟩) 1 1) (apP (fun v9 w1 => KO Bx w1 v9 (ls ++ [x])) (W2.alloc (.cells (lkc x).toArray 110)) v.ownBlock)) (by kernel_rfl) hlo (by kernel_rfl) (by kernel_rfl) HW2.out ?_ ?_
        · refine ⟨?_, ?_, ?_, ?_, ?_, ?_, ?_, ?_, ?_, ?_, ?_, ?_, ?_, ?_, ?_, ?_, ?_, trivial⟩
          · refine RU.ObT.silent rfl (fun a W k0 V hO hf hp hk => ?_)
            have hcl : W.cell? ⟨Bx, 0, none⟩ = some v := by
              match k0, hk, hO with
              | 0, _, hO => rw [show W = _ from hO]; exact HV.out.cell
              | 1, _, hO => rw [show W = _ from hO.2]; exact (HV.out.alloc _).cell
            refine RU.ob_val rfl (RU.wanted_none rfl) (fun ev he hc => ?_) ⟨rfl, hO⟩
            have q4 : ev (.tmp 4) = .pointer (some ⟨Bx, 0, none⟩) := (he (.tmp 4)).trans ((hf 4 rfl).trans h4)
            simp only [List.getElem_toArray, List.getElem_cons_succ, List.getElem_cons_zero, execOp]; rw [q4]
            first | (go_simp; done) | (go_simp; rfl) | rfl
          · refine RU.ObT.pure rfl rfl rfl (fun a V hf hp ev he hc W => ?_)
            have q5 : ev (.tmp 5) = .slice (some ⟨b, p, none⟩) 96 96 := (he (.tmp 5)).trans ((hf 5 rfl).trans h5)
            simp only [List.getElem_toArray, List.getElem_cons_succ, List.getElem_cons_zero, execOp, Option.map_some, Option.map_none]; rw [q5]
            first | (go_simp; done) | (go_simp; rfl) | rfl
          · refine RU.ObT.pure rfl rfl rfl (fun a V hf hp ev he hc W => ?_)
            have q14 : ev (.tmp 14) = .slice (some ⟨b, p, none⟩) 96 96 := (he (.tmp 14)).trans (hp 1 14 rfl)
            simp only [List.getElem_toArray, List.getElem_cons_succ, List.getElem_cons_zero, execOp, Option.map_some, Option.map_none]; rw [q14]
            try simp only [hc]
            first | (go_simp; done) | (go_simp; rfl) | rfl
          · refine RU.ObT.pure rfl rfl rfl (fun a V hf hp ev he hc W => ?_)
            have q15 : ev (.tmp 15) = .slice (some ⟨b, p, none⟩) 32 96 := (he (.tmp 15)).trans (hp 2 15 rfl)
            simp only [List.getElem_toArray, List.getElem_cons_succ, List.getElem_cons_zero, execOp, Option.map_some, Option.map_none]; rw [q15]
            rw [Sem.run_bind, arr32 b _ 96 W]; rfl
          · refine RU.ObT.silent rfl (fun a W k0 V hO hf hp hk => ?_)
            have q16 : a.eval (.tmp 16) = .pointer (some ⟨b, p, none⟩) := hp 3 16 rfl
            exact RU.ob_op rfl (RU.wanted_none rfl) (wp_load_mid 23 (.tmp 16) rfl (b) (p) q16 (bv x.o) _ ((by rw [show W = _ from (by obtain rfl := Nat.le_zero.1 hk; exact hO)]; exact RP0)) Try.underlying23 rfl (size_l32 HXK.out.o) ⟨rfl, hO⟩)
          · refine RU.ObT.pure rfl rfl rfl (fun a V hf hp ev he hc W => ?_)
            have q5 : ev (.tmp 5) = .slice (some ⟨b, p, none⟩) 96 96 := (he (.tmp 5)).trans ((hf 5 rfl).trans h5)
            simp only [List.getElem_toArray, List.getElem_cons_succ, List.getElem_cons_zero, execOp, Option.map_some, Option.map_none]; rw [q5]
            first | (go_simp; done) | (go_simp; rfl) | rfl
          · refine RU.ObT.pure rfl rfl rfl (fun a V hf hp ev he hc W => ?_)
            have q18 : ev (.tmp 18) = .slice (some ⟨b, p, none⟩) 96 96 := (he (.tmp 18)).trans (hp 5 18 rfl)
            simp only [List.getElem_toArray, List.getElem_cons_succ, List.getElem_cons_zero, execOp, Option.map_some, Option.map_none]; rw [q18]
            try simp only [hc]
            first | (go_simp; done) | (go_simp; rfl) | rfl
          · refine RU.ObT.pure rfl rfl rfl (fun a V hf hp ev he hc W => ?_)
            have q19 : ev (.tmp 19) = .slice (some ⟨b, p + 32, none⟩) 32 64 := (he (.tmp 19)).trans (hp 6 19 rfl)
            simp only [List.getElem_toArray, List.getElem_cons_succ, List.getElem_cons_zero, execOp, Option.map_some, Option.map_none]; rw [q19]
            rw [Sem.run_bind, arr32 b _ 64 W]; rfl
          · refine RU.ObT.silent rfl (fun a W k0 V hO hf hp hk => ?_)
            have q20 : a.eval (.tmp 20) = .pointer (some ⟨b, p + 32, none⟩) := hp 7 20 rfl
            exact RU.ob_op rfl (RU.wanted_none rfl) (wp_load_mid 23 (.tmp 20) rfl (b) (p + 32) q20 (bv x.n) _ ((by rw [show W = _ from (by obtain rfl := Nat.le_zero.1 hk; exact hO)]; exact RP1)) Try.underlying23 rfl (size_l32 HXK.out.n) ⟨rfl, hO⟩)
          · refine RU.ObT.pure rfl rfl rfl (fun a V hf hp ev he hc W => ?_)
            have q5 : ev (.tmp 5) = .slice (some ⟨b, p, none⟩) 96 96 := (he (.tmp 5)).trans ((hf 5 rfl).trans h5)
            simp only [List.getElem_toArray, List.getElem_cons_succ, List.getElem_cons_zero, execOp, Option.map_some, Option.map_none]; rw [q5]
            first | (go_simp; done) | (go_simp; rfl) | rfl
          · refine RU.ObT.pure rfl rfl rfl (fun a V hf hp ev he hc W => ?_)
            have q22 : ev (.tmp 22) = .slice (some ⟨b, p, none⟩) 96 96 := (he (.tmp 22)).trans (hp 9 22 rfl)
            simp only [List.getElem_toArray, List.getElem_cons_succ, List.getElem_cons_zero, execOp, Option.map_some, Option.map_none]; rw [q22]
            try simp only [hc]
            first | (go_simp; done) | (go_simp; rfl) | rfl
          · refine RU.ObT.pure rfl rfl rfl (fun a V hf hp ev he hc W => ?_)
            have q23 : ev (.tmp 23) = .slice (some ⟨b, p + 64, none⟩) 32 32 := (he (.tmp 23)).trans (hp 10 23 rfl)
            simp only [List.getElem_toArray, List.getElem_cons_succ, List.getElem_cons_zero, execOp, Option.map_some, Option.map_none]; rw [q23]
            rw [Sem.run_bind, arr32 b _ 32 W]; rfl
          · refine RU.ObT.silent rfl (fun a W k0 V hO hf hp hk => ?_)
            have q24 : a.eval (.tmp 24) = .pointer (some ⟨b, p + 64, none⟩) := hp 11 24 rfl
            exact RU.ob_op rfl (RU.wanted_none rfl) (wp_load_mid 23 (.tmp 24) rfl (b) (p + 64) q24 (bv x.q) _ ((by rw [show W = _ from (by obtain rfl := Nat.le_zero.1 hk; exact hO)]; exact RP2)) Try.underlying23 rfl (size_l32 HXK.out.q) ⟨rfl, hO⟩)
          · refine RU.ObT.pure rfl rfl rfl (fun a V hf hp ev he hc W => ?_)
            have q17 : ev (.tmp 17) = .agg (bv x.o).toArray := (he (.tmp 17)).trans (hp 4 17 rfl)
            have q21 : ev (.tmp 21) = .agg (bv x.n).toArray := (he (.tmp 21)).trans (hp 8 21 rfl)
            have q25 : ev (.tmp 25) = .agg (bv x.q).toArray := (he (.tmp 25)).trans (hp 12 25 rfl)
            simp only [List.getElem_toArray, List.getElem_cons_succ, List.getElem_cons_zero, execOp, List.map_toArray, List.map_cons, List.map_nil, q17, q21, q25, Sem.run_bind, build_lk HXK.out W, Result.andThen_ok, Sem.run_pure]
            rfl
          · refine RU.ObT.loud (j := 0) rfl (fun a W V hO hf hp => ?_)
            have q1 : a.eval (.tmp 26) = .agg (lkc x).toArray := hp 13 26 rfl
            have hW : W = W2 := hO
            subst hW
            refine RU.ob_run (v := .slice (some ⟨W.heap.size, 0, none⟩) 1 1) (w' := W.alloc (.cells (lkc x).toArray 110)) rfl (RU.wanted_none rfl) (fun ev he hc => ?_) ⟨_, rfl, rfl, rfl⟩
            have e1 := (he (.tmp 26)).trans q1
            simp only [List.getElem_toArray, List.getElem_cons_succ, List.getElem_cons_zero, execOp, List.map_toArray, List.map_cons, List.map_nil, e1, Sem.run_bind, run_onek W HXK.out, Result.andThen_ok, Sem.run_pure]
          · refine RU.ObT.loud (j := 1) rfl (fun a W V hO hf hp => ?_)
            have q1 : a.eval (.tmp 13) = v := hp 0 13 rfl
            have q2 : a.eval (.tmp 27) = .slice (some ⟨W2.heap.size, 0, none⟩) 1 1 := (hp 14 27 rfl).trans hO.1
            have hW : W = W2.alloc (.cells (lkc x).toArray 110) := hO.2
            obtain ⟨v', w', hr, p1, p2, p3⟩ := app_kown (HRW.out.alloc (.cells (lkc x).toArray 110)) (m := [x]) (fun y hy => by rw [List.mem_singleton.1 hy]; exact HXK.out) (ks_one W2 x 110) (by have := HLN.out; simp only [List.length_cons, List.length_nil]; omega)
            refine RU.ob_run (v := v') (w' := w') rfl (RU.wanted_none rfl) (fun ev he hc => ?_) ⟨_, rfl, ⟨p1, p3⟩⟩
            have e1 := (he (.tmp 13)).trans q1
            have e2 := (he (.tmp 27)).trans q2
            rw [hW]
            simp only [List.getElem_toArray, List.getElem_cons_succ, List.getElem_cons_zero, execOp, resolve, invoke, builtin, Sem.run_bind, Sem.run_pure, Result.andThen_ok, List.map_toArray, List.map_cons, List.map_nil, e1, e2, hr]
          · refine RU.ObT.loud (j := 2) rfl (fun a W V hO hf hp => ?_)
            have q1 : a.eval (.tmp 4) = .pointer (some ⟨Bx, 0, none⟩) := (hf 4 rfl).trans h4
            have q2 : a.eval (.tmp 28) = V 1 := hp 15 28 rfl
            have hP : KO Bx W (V 1) (ls ++ [x]) ∧ (W2.alloc (.cells (lkc x).toArray 110)).grownBy W v.ownBlock := hO
            obtain ⟨g9, c9, hv9⟩ : ∃ g cap, V 1 = .slice (some ⟨g, 0, none⟩) (ls.length + 1) cap := by
              have := hP.1.1
              rw [List.length_append] at this
              exact ownsRow_succ this
            have hb9 := (Boxed.appended HV.out (by decide) HRW.out.1 HRW.out.2.2 HBX.out hP.1.1 hP.2)
            have hc9 := hb9.1.cell
            have hf9 := hb9.1.frozen
            refine RU.ob_skip rfl (RU.wanted_none rfl) (w' := W.setCell ⟨Bx, 0, none⟩ (V 1)) (fun ev he hc => ?_) ⟨_, rfl, ⟨W, hP, rfl⟩⟩
            have e1 := (he (.tmp 4)).trans q1
            have e2 := (he (.tmp 28)).trans (q2.trans hv9)
            rw [hv9]
            simp only [List.getElem_toArray, List.getElem_cons_succ, List.getElem_cons_zero, execOp]; rw [e1, e2]
            first | (go_simp; done) | (go_simp; rfl) | rfl
        · intro a9 W9 U9 _ _ _ hO9 _
          obtain ⟨w1, hP9, hW9⟩ := hO9
          exact ⟨rfl, U9 1, w1, hP9, hW9⟩
      · rintro e9 a9 W9 ⟨rfl, v9, w1, hP9, rfl⟩
        have hap := Boxed.appended HV.out (by decide) HRW.out.1 HRW.out.2.2 HBX.out hP9.1.1 hP9.2
        have k1 : Boxed (w1.setCell ⟨Bx, 0, none⟩ v9) (Bx + 1) 34 (.slice ad M cap) := box_after (W2 := W2) (by rw [← hW2]; exact hb1) (by decide) HRW.out.1 hP9.2 (by omega)
        have k2 : Boxed (w1.setCell ⟨Bx, 0, none⟩ v9) (Bx + 1 + 1) 3 (.int .i64 96) := box_after (W2 := W2) (by rw [← hW2]; exact hb2) (by decide) HRW.out.1 hP9.2 (by omega)
        have k3 : KeepsOthers W W2 := by rw [← hW2]; exact KeepsOthers.drew W
        have k4 : Below w.heap.size w W2 := by rw [← hW2]; exact hB.drew
        refine ⟨(k3.trans hap.2.2.2.1).from _, ⟨?_, ?_⟩, ⟨⟨v9, hap.2.1, ?_, trivial⟩, ⟨k1, k2⟩, k4.trans (by rw [HBX9.out]; exact hap.2.2.2.2)⟩⟩
        · exact (show (w1.setCell ⟨Bx, 0, none⟩ v9).heap[Bx + 1]? = _ from k1).trans (show W.heap[Bx + 1]? = _ from hb1).symm
        · exact (show (w1.setCell ⟨Bx, 0, none⟩ v9).heap[Bx + 1 + 1]? = _ from k2).trans (show W.heap[Bx + 1 + 1]? = _ from hb2).symm
        · rw [List.map_append, hls]
          show (w1.setCell ⟨Bx, 0, none⟩ v9).ownsRow Bx 110 96 v9 (ls ++ [lkAt xs k]).length (kcs (ls ++ [lkAt xs k]))
          rw [hxe]
          exact hap.2.2.1
    case done =>
      rintro D ys W hD rfl ⟨⟨v9, hv9, hr9, -⟩, -, hB9⟩ hK
      have hcl := hv9.cell
      gi_wp2
      refine ⟨by simp, .inl ⟨_, _, rfl, run_takeDeferred hK, ?_⟩⟩
      rw [upto_all m (lkAt xs)] at hr9
      refine ⟨_, results_tmp2 rfl _ _ _, v9, rfl, ?_, hB9.trans (belowK_b (w := w) (Nat.le_refl _) W D _ _ (by omega) hK rfl rfl)⟩
      rw [HBX9.out]
      refine ⟨ownsRow_putObj hr9 _ hK rfl, fun y hy => ?_, ?_⟩
      · obtain ⟨z, hz, rfl⟩ := List.mem_map.1 hy
        exact lkAt_ok HB.out (by rw [HM.out]; have := List.mem_range.1 hz; omega)
      · have h9 := (belowK_b (w := w) (n₀ := w.heap.size) (Nat.le_refl _) W D _ (.deferred none) (by omega) hK rfl rfl).size
        have h8 := hB9.size
        omega
    case stop =>
      rintro D c pre W _ _ h _
      exact h.elim
  · have e1 : rdk xs = [] := by unfold rdk; rw [if_neg h0]
    have e2 : decide (xs.length % 96 = 0) = false := decide_eq_false h0
    rw [e1, e2]
    obtain ⟨M, hM⟩ : ∃ M, xs.length = M := ⟨_, rfl⟩
    rw [hM] at hc hl h0 ⊢
    have h1 : ¬ Int.tmod (M : Int) 96 = 0 := by rw [Int.tmod_eq_emod_of_nonneg (by omega)]; omega
    clear hx hb e1 e2 hM
    gi_wp2
    exact ⟨_, results_tmp2 rfl _ _ _, _, rfl, KO.nil' (Nat.le_refl _), Below.refl _ _⟩
def rkDevicesf (v : Value) (b p : Nat) (x : (List Int)) : Nat → Value
  | 0 => v
  | 1 => .slice (some ⟨b, p, none⟩) 32 32
  | 2 => .pointer (some ⟨b, p, none⟩)
  | 3 => .agg (bv x).toArray
  | 4 => undef
  | 5 => undef
  | 6 => undef
  | _ => undef
def rdy (xs : List Int) : List (List Int) := if xs.length % 32 = 0 then (List.range (xs.length / 32)).map (dvAt xs) else []
set_option maxHeartbeats 4000000 in
theorem readDevices_any (xs : List Int) (v : Value) (w : World) (hb : Byt xs) (hs : Sl w v xs) (hl : xs.length ≤ 1048576) :
    Calls Try.prog 31 #[v] w fun e w' => ∃ v', e = .returned (.tuple #[v', .bool (decide (xs.length % 32 = 0))]) ∧ YO w.heap.size w' v' (rdy xs) ∧ Below w.heap.size w w' := by
  obtain ⟨ad, cap, rfl, hc, hx⟩ := hs
  refine (callsIn_wide (n := 9)).1 ?_
  refine callsIn_of_wp_marks Try.func31 rfl trivial ?_ rfl
  simp only [Try.ntmps31, List.size_toArray, List.length_cons, List.length_nil, Nat.reduceAdd, Nat.reduceSub, Array.replicate_succ, Array.replicate_zero, List.push_toArray, List.append_toArray, List.nil_append, List.cons_append]
  have HB : Hid (Byt xs) := hb
  by_cases h0 : xs.length % 32 = 0
  · obtain ⟨m, hm⟩ : ∃ m, xs.length = m * 32 := ⟨xs.length / 32, by omega⟩
    have e1 : rdy xs = (List.range m).map (dvAt xs) := by unfold rdy; rw [if_pos h0, show xs.length / 32 = m by omega]
    have e2 : decide (xs.length % 32 = 0) = true := decide_eq_true h0
    rw [e1, e2]
    obtain ⟨b, o, hxx⟩ := sl_lies (n := 0) hx
    have HXX : Hid (0 < xs.length → ad = some ⟨b, o, none⟩ ∧ b < w.heap.size ∧ ∀ i, i < xs.length → w.cell? ⟨b, o + i, none⟩ = some (.int .u8 (gi xs i))) := hxx
    obtain ⟨M, hM⟩ : ∃ M, m * 32 = M := ⟨_, rfl⟩
    have HM : Hid (xs.length = m * 32) := hm
    have HMM : Hid (m * 32 = M) := hM
    rw [hm, hM] at hc hl ⊢
    have h1 : Int.tmod (M : Int) 32 = 0 := by rw [Int.tmod_eq_emod_of_nonneg (by omega)]; omega
    have HC : Hid (M ≤ cap ∧ M ≤ 1048576) := ⟨hc, hl⟩
    clear hx hb e1 e2 hxx hm hM h0 hc hl
    gi_wp2
    refine ⟨trivial, (chunk_in _ _ _ _ 32 (by decide) _).mono ?_⟩
    rintro e w' ⟨rfl, rfl⟩
    clear h1
    gi_wp2
    obtain ⟨W0, hW0⟩ : ∃ W0, ((w.alloc (.cells #[.slice none 0 0] 27)).alloc (.cells #[.slice ad M cap] 34)).alloc (.cells #[.int .i64 32] 3) = W0 := ⟨_, rfl⟩
    rw [hW0]
    obtain ⟨s1, s2, s3, s4, s5⟩ := start3 w 27 (.slice ad M cap) 32 hW0
    clear hW0
    obtain ⟨Bx, hBx⟩ : ∃ Bx, w.heap.size = Bx := ⟨_, rfl⟩
    have HBX9 : Hid (w.heap.size = Bx) := hBx
    rw [hBx] at s1 s2 s3 s4 ⊢
    have hc1 := HC.out.1
    have hc2 := HC.out.2
    refine wpIn_rangeFunc_ownG rfl (by decide) (gf := 73) (lb := #[.pointer (some ⟨Bx + 1, 0, none⟩), .pointer (some ⟨Bx + 1 + 1, 0, none⟩)]) rfl trivial (enters_of Try.func73 (by kernel_rfl) rfl)
      (chunk_stops 8 (Bx + 1) (Bx + 1 + 1) b o 32 m cap ad (by decide) (by decide) (by rw [HMM.out]; exact hc2) (by rw [HMM.out]; exact hc1) (fun hm0 => (HXX.out (by rw [HM.out]; omega)).1) W0 (by omega) (by omega) (by rw [HMM.out]; exact s2.cell) s3.cell) (fun h k => h.trans k) (KC.put (by omega) (by omega)) (Below.refl _ _) (fun _ => rfl)
      (fun (pre : List (Ix m)) (W : World) => (∃ v, Boxed W Bx 27 v ∧ W.ownsRow Bx 23 32 v (pre.map (fun k => dvAt xs k.1)).length (ycs (pre.map (fun k => dvAt xs k.1))) ∧ True) ∧ ((Boxed W (Bx + 1) 34 (.slice ad M cap) ∧ Boxed W (Bx + 1 + 1) 3 (.int .i64 32)) ∧ Below w.heap.size w W))
      (fun (_ : Code) (_ : List (Ix m)) (_ : World) => False)
      (OwnFrom.and (Own.from (holdsRow_own Bx Bx 27 23 32 (fun (pre : List (Ix m)) => (pre.map (fun k : Ix m => dvAt xs k.1)).length) (fun (pre : List (Ix m)) => ycs (pre.map (fun k : Ix m => dvAt xs k.1))) (fun _ _ => True)) _) (OwnFrom.and (OwnFrom.and (Own.from (boxed_own _ _ _) _) (Own.from (boxed_own _ _ _) _)) (ownFrom_below (Nat.le_refl _) (by omega))))
      (fun _ _ _ _ _ hs _ _ => hs)
      ⟨⟨_, s1, World.ownsRow_nil _ _ _ _, trivial⟩, ⟨s2, s3⟩, s5⟩
      (fun (x : Ix m) => { tmps := #[.slice ad M cap, undef, .slice none 0 0, .bool false, .pointer (some ⟨Bx, 0, none⟩), chk b o 32 x.1, .slice ad M cap, .int .i64 (M : Int), .int .i64 0, .bool false, .slice ad M cap, .func (.func 73) #[] #[.pointer (some ⟨Bx + 1, 0, none⟩), .pointer (some ⟨Bx + 1 + 1, 0, none⟩)], chk b o 32 x.1, undef, undef, undef, undef, undef, undef, undef], defers := [] }) ?assign ?body ?done ?stop
    case assign =>
      intro l x W K hK
      gi_wp2
      exact hK
    case body =>
      rintro l pre ⟨k, hkm⟩ W ⟨⟨v, hv, hrow, -⟩, ⟨hb1, hb2⟩, hB⟩ hlen
      obtain ⟨ls, hls⟩ : ∃ ls, pre.map (fun k => dvAt xs k.1) = ls := ⟨_, rfl⟩
      have HLS : Hid (pre.map (fun k => dvAt xs k.1) = ls) := hls
      rw [hls] at hrow
      have hkc : k * 32 + 32 ≤ xs.length := by rw [HM.out]; omega
      have hxo := HXX.out (by omega)
      obtain ⟨x, hxe⟩ : ∃ x, dvAt xs k = x := ⟨_, rfl⟩
      have HXE : Hid (dvAt xs k = x) := hxe
      have HXK : Hid (L32 x) := by rw [← hxe]; exact dvAt_ok HB.out hkc
      obtain ⟨p, hp⟩ : ∃ p, o + k * 32 = p := ⟨_, rfl⟩
      have HPE : Hid (o + k * 32 = p) := hp
      have hlok : ∀ y ∈ ls, L32 y := fun y hy => by
        rw [← hls] at hy
        obtain ⟨z, hz, rfl⟩ := List.mem_map.1 hy
        exact dvAt_ok HB.out (by rw [HM.out]; have := z.2; omega)
      have hcw : ∀ i, i < xs.length → W.cell? ⟨b, o + i, none⟩ = some (.int .u8 (gi xs i)) := fun i hi => (hB.cell (p := ⟨b, o + i, none⟩) hxo.2.1).trans (hxo.2.2 i hi)
      simp only [chk]
      rw [hp]
      refine wpIn_block ?_
      obtain ⟨W2, hW2⟩ : ∃ W2, W.drew = W2 := ⟨_, rfl⟩
      have HV : Hid (Boxed W2 Bx 27 v) := by rw [← hW2]; exact hv
      have HRW : Hid (YO Bx W2 v ls) := by rw [← hW2]; exact ⟨hrow, hlok, Nat.le_of_lt (Boxed.lt (W := W) hv)⟩
      have HLN : Hid (ls.length + 1 ≤ 4400000000000) := by
        show _ ≤ _
        rw [← hls, List.length_map]
        have h9 := HMM.out
        omega
      have HBX : Hid (Bx ≤ Bx) := Nat.le_refl _
      have RP0 : W2.rangeAt b (p) (bv x) := by
        rw [← HXE.out, ← HPE.out, ← hW2]
        have := cut_range (off := k * 32) (n := 32) hcw (by omega)
        exact this
      have h4 : Act.eval ⟨#[.slice ad M cap, undef, .slice none 0 0, .bool false, .pointer (some ⟨Bx, 0, none⟩), .slice (some ⟨b, p, none⟩) 32 32, .slice ad M cap, .int .i64 (M : Int), .int .i64 0, .bool false, .slice ad M cap, .func (.func 73) #[] #[.pointer (some ⟨Bx + 1, 0, none⟩), .pointer (some ⟨Bx + 1 + 1, 0, none⟩)], .slice (some ⟨b, p, none⟩) 32 32, undef, undef, undef, undef, undef, undef, undef], []⟩ (.tmp 4) = .pointer (some ⟨Bx, 0, none⟩) := rfl
      have h5 : Act.eval ⟨#[.slice ad M cap, undef, .slice none 0 0, .bool false, .pointer (some ⟨Bx, 0, none⟩), .slice (some ⟨b, p, none⟩) 32 32, .slice ad M cap, .int .i64 (M : Int), .int .i64 0, .bool false, .slice ad M cap, .func (.func 73) #[] #[.pointer (some ⟨Bx + 1, 0, none⟩), .pointer (some ⟨Bx + 1 + 1, 0, none⟩)], .slice (some ⟨b, p, none⟩) 32 32, undef, undef, undef, undef, undef, undef, undef], []⟩ (.tmp 5) = .slice (some ⟨b, p, none⟩) 32 32 := rfl
      have HW2 : Hid (W.drew = W2) := hW2
      refine wpIn_mono (Q := fun e _ W9 => e = .normal ∧ ∃ v9 w1, (YO Bx w1 v9 (ls ++ [x]) ∧ (W2.alloc (.cells (bv x).toArray 23)).grownBy w1 v.ownBlock) ∧ W9 = w1.setCell ⟨Bx, 0, none⟩ v9) ?_ ?_
      · have hlo : ¬ LetsOut (fun (e : Exit) (_ : Act) (W9 : World) => e = .normal ∧ ∃ v9 w1, (YO Bx w1 v9 (ls ++ [x]) ∧ (W2.alloc (.cells (bv x).toArray 23)).grownBy w1 v.ownBlock) ∧ W9 = w1.setCell ⟨Bx, 0, none⟩ v9) := fun ⟨_, _, h, _⟩ => by cases h
        clear hW2
        refine RU.wpIn_rgn [4, 5, 6] (rkDevicesf v b p x) (fun i => if i = 0 then 1 else 0) (rbΩ W2 (W2.alloc (.cells (bv x).toArray 23)) Bx (.slice (some ⟨W2.heap.size, 0, none⟩) 1 1) (apP (fun v9 w1 => YO Bx w1 v9 (ls ++ [x])) (W2.alloc (.cells (bv x).toArray 23)) v.ownBlock)) (by kernel_rfl) hlo (by kernel_rfl) (by kernel_rfl) HW2.out ?_ ?_
        · refine ⟨?_, ?_, ?_, ?_, ?_, ?_, ?_, trivial⟩
          · refine RU.ObT.silent rfl (fun a W k0 V hO hf hp hk => ?_)
            have hcl : W.cell? ⟨Bx, 0, none⟩ = some v := by
              match k0, hk, hO with
              | 0, _, hO => rw [show W = _ from hO]; exact HV.out.cell
              | 1, _, hO => rw [show W = _ from hO.2]; exact (HV.out.alloc _).cell
            refine RU.ob_val rfl (RU.wanted_none rfl) (fun ev he hc => ?_) ⟨rfl, hO⟩
            have q4 : ev (.tmp 4) = .pointer (some ⟨Bx, 0, none⟩) := (he (.tmp 4)).trans ((hf 4 rfl).trans h4)
            simp only [List.getElem_toArray, List.getElem_cons_succ, List.getElem_cons_zero, execOp]; rw [q4]
            first | (go_simp; done) | (go_simp; rfl) | rfl
          · refine RU.ObT.pure rfl rfl rfl (fun a V hf hp ev he hc W => ?_)
            have q5 : ev (.tmp 5) = .slice (some ⟨b, p, none⟩) 32 32 := (he (.tmp 5)).trans ((hf 5 rfl).trans h5)
            simp only [List.getElem_toArray, List.getElem_cons_succ, List.getElem_cons_zero, execOp, Option.map_some, Option.map_none]; rw [q5]
            first | (go_simp; done) | (go_simp; rfl) | rfl
          · refine RU.ObT.pure rfl rfl rfl (fun a V hf hp ev he hc W => ?_)
            have q14 : ev (.tmp 14) = .slice (some ⟨b, p, none⟩) 32 32 := (he (.tmp 14)).trans (hp 1 14 rfl)
            simp only [List.getElem_toArray, List.getElem_cons_succ, List.getElem_cons_zero, execOp, Option.map_some, Option.map_none]; rw [q14]
            rw [Sem.run_bind, arr32 b _ 32 W]; rfl
          · refine RU.ObT.silent rfl (fun a W k0 V hO hf hp hk => ?_)
            have q15 : a.eval (.tmp 15) = .pointer (some ⟨b, p, none⟩) := hp 2 15 rfl
            exact RU.ob_op rfl (RU.wanted_none rfl) (wp_load_mid 23 (.tmp 15) rfl (b) (p) q15 (bv x) _ ((by rw [show W = _ from (by obtain rfl := Nat.le_zero.1 hk; exact hO)]; exact RP0)) Try.underlying23 rfl (size_l32 HXK.out) ⟨rfl, hO⟩)
          · refine RU.ObT.loud (j := 0) rfl (fun a W V hO hf hp => ?_)
            have q1 : a.eval (.tmp 16) = .agg (bv x).toArray := hp 3 16 rfl
            have hW : W = W2 := hO
            subst hW
            refine RU.ob_run (v := .slice (some ⟨W.heap.size, 0, none⟩) 1 1) (w' := W.alloc (.cells (bv x).toArray 23)) rfl (RU.wanted_none rfl) (fun ev he hc => ?_) ⟨_, rfl, rfl, rfl⟩
            have e1 := (he (.tmp 16)).trans q1
            simp only [List.getElem_toArray, List.getElem_cons_succ, List.getElem_cons_zero, execOp, List.map_toArray, List.map_cons, List.map_nil, e1, Sem.run_bind, run_oney W HXK.out, Result.andThen_ok, Sem.run_pure]
          · refine RU.ObT.loud (j := 1) rfl (fun a W V hO hf hp => ?_)
            have q1 : a.eval (.tmp 13) = v := hp 0 13 rfl
            have q2 : a.eval (.tmp 17) = .slice (some ⟨W2.heap.size, 0, none⟩) 1 1 := (hp 4 17 rfl).trans hO.1
            have hW : W = W2.alloc (.cells (bv x).toArray 23) := hO.2
            obtain ⟨v', w', hr, p1, p2, p3⟩ := app_yown (HRW.out.alloc (.cells (bv x).toArray 23)) (m := [x]) (fun y hy => by rw [List.mem_singleton.1 hy]; exact HXK.out) (ys_one W2 x 23) (by have := HLN.out; simp only [List.length_cons, List.length_nil]; omega)
            refine RU.ob_run (v := v') (w' := w') rfl (RU.wanted_none rfl) (fun ev he hc => ?_) ⟨_, rfl, ⟨p1, p3⟩⟩
            have e1 := (he (.tmp 13)).trans q1
            have e2 := (he (.tmp 17)).trans q2
            rw [hW]
            simp only [List.getElem_toArray, List.getElem_cons_succ, List.getElem_cons_zero, execOp, resolve, invoke, builtin, Sem.run_bind, Sem.run_pure, Result.andThen_ok, List.map_toArray, List.map_cons, List.map_nil, e1, e2, hr]
          · refine RU.ObT.loud (j := 2) rfl (fun a W V hO hf hp => ?_)
            have q1 : a.eval (.tmp 4) = .pointer (some ⟨Bx, 0, none⟩) := (hf 4 rfl).trans h4
            have q2 : a.eval (.tmp 18) = V 1 := hp 5 18 rfl
            have hP : YO Bx W (V 1) (ls ++ [x]) ∧ (W2.alloc (.cells (bv x).toArray 23)).grownBy W v.ownBlock := hO
            obtain ⟨g9, c9, hv9⟩ : ∃ g cap, V 1 = .slice (some ⟨g, 0, none⟩) (ls.length + 1) cap := by
              have := hP.1.1
              rw [List.length_append] at this
              exact ownsRow_succ this
            have hb9 := (Boxed.appended HV.out (by decide) HRW.out.1 HRW.out.2.2 HBX.out hP.1.1 hP.2)
            have hc9 := hb9.1.cell
            have hf9 := hb9.1.frozen
            refine RU.ob_skip rfl (RU.wanted_none rfl) (w' := W.setCell ⟨Bx, 0, none⟩ (V 1)) (fun ev he hc => ?_) ⟨_, rfl, ⟨W, hP, rfl⟩⟩
            have e1 := (he (.tmp 4)).trans q1
            have e2 := (he (.tmp 18)).trans (q2.trans hv9)
            rw [hv9]
            simp only [List.getElem_toArray, List.getElem_cons_succ, List.getElem_cons_zero, execOp]; rw [e1, e2]
            first | (go_simp; done) | (go_simp; rfl) | rfl
        · intro a9 W9 U9 _ _ _ hO9 _
          obtain ⟨w1, hP9, hW9⟩ := hO9
          exact ⟨rfl, U9 1, w1, hP9, hW9⟩
      · rintro e9 a9 W9 ⟨rfl, v9, w1, hP9, rfl⟩
        have hap := Boxed.appended HV.out (by decide) HRW.out.1 HRW.out.2.2 HBX.out hP9.1.1 hP9.2
        have k1 : Boxed (w1.setCell ⟨Bx, 0, none⟩ v9) (Bx + 1) 34 (.slice ad M cap) := box_after (W2 := W2) (by rw [← hW2]; exact hb1) (by decide) HRW.out.1 hP9.2 (by omega)
        have k2 : Boxed (w1.setCell ⟨Bx, 0, none⟩ v9) (Bx + 1 + 1) 3 (.int .i64 32) := box_after (W2 := W2) (by rw [← hW2]; exact hb2) (by decide) HRW.out.1 hP9.2 (by omega)
        have k3 : KeepsOthers W W2 := by rw [← hW2]; exact KeepsOthers.drew W
        have k4 : Below w.heap.size w W2 := by rw [← hW2]; exact hB.drew
        refine ⟨(k3.trans hap.2.2.2.1).from _, ⟨?_, ?_⟩, ⟨⟨v9, hap.2.1, ?_, trivial⟩, ⟨k1, k2⟩, k4.trans (by rw [HBX9.out]; exact hap.2.2.2.2)⟩⟩
        · exact (show (w1.setCell ⟨Bx, 0, none⟩ v9).heap[Bx + 1]? = _ from k1).trans (show W.heap[Bx + 1]? = _ from hb1).symm
        · exact (show (w1.setCell ⟨Bx, 0, none⟩ v9).heap[Bx + 1 + 1]? = _ from k2).trans (show W.heap[Bx + 1 + 1]? = _ from hb2).symm
        · rw [List.map_append, hls]
          show (w1.setCell ⟨Bx, 0, none⟩ v9).ownsRow Bx 23 32 v9 (ls ++ [dvAt xs k]).length (ycs (ls ++ [dvAt xs k]))
          rw [hxe]
          exact hap.2.2.1
    case done =>
      rintro D ys W hD rfl ⟨⟨v9, hv9, hr9, -⟩, -, hB9⟩ hK
      have hcl := hv9.cell
      gi_wp2
      refine ⟨by simp, .inl ⟨_, _, rfl, run_takeDeferred hK, ?_⟩⟩
      rw [upto_all m (dvAt xs)] at hr9
      refine ⟨_, results_tmp2 rfl _ _ _, v9, rfl, ?_, hB9.trans (belowK_b (w := w) (Nat.le_refl _) W D _ _ (by omega) hK rfl rfl)⟩
      rw [HBX9.out]
      refine ⟨ownsRow_putObj hr9 _ hK rfl, fun y hy => ?_, ?_⟩
      · obtain ⟨z, hz, rfl⟩ := List.mem_map.1 hy
        exact dvAt_ok HB.out (by rw [HM.out]; have := List.mem_range.1 hz; omega)
      · have h9 := (belowK_b (w := w) (n₀ := w.heap.size) (Nat.le_refl _) W D _ (.deferred none) (by omega) hK rfl rfl).size
        have h8 := hB9.size
        omega
    case stop =>
      rintro D c pre W _ _ h _
      exact h.elim
  · have e1 : rdy xs = [] := by unfold rdy; rw [if_neg h0]
    have e2 : decide (xs.length % 32 = 0) = false := decide_eq_false h0
    rw [e1, e2]
    obtain ⟨M, hM⟩ : ∃ M, xs.length = M := ⟨_, rfl⟩
    rw [hM] at hc hl h0 ⊢
    have h1 : ¬ Int.tmod (M : Int) 32 = 0 := by rw [Int.tmod_eq_emod_of_nonneg (by omega)]; omega
    clear hx hb e1 e2 hM
    gi_wp2
    exact ⟨_, results_tmp2 rfl _ _ _, _, rfl, YO.nil' (Nat.le_refl _), Below.refl _ _⟩
end Go.Proofs.Ytfnmdeekenjlgaa
