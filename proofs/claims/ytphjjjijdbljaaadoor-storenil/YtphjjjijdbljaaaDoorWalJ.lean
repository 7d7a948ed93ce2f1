/- takeFrame. -/
import Derived.Test.YtphjjjijdbljaaaDoorWalI
import Derived.Test.YtphjjjijdbljaaaDoorRgnU
namespace Go.Proofs.YtphjjjijdbljaaaDoor
open Go Go.RowKit
set_option linter.unusedSimpArgs false
set_option linter.unusedVariables false
set_option maxRecDepth 100000

/-- What is answered beside whether there is one. -/
def TkR (B : Nat) (w : World) (v : Value) : Option (List Int) → Prop
  | none => v = .slice none 0 0
  | some P => Ow B w v P
/-- A payload's row while it is filled, and the head beside it. -/
structure TQ (w0 W : World) (b8 bp : Nat) (x ys : List Int) : Prop where
  below : Below w0.heap.size w0 W
  head : W.rangeAt b8 0 (bv x)
  row : W.heap[bp]? = some (.cells (bv ys).toArray 5 (0, 0))
  lo : w0.heap.size ≤ b8
  hi : b8 < bp
theorem TQ.lt {w0 W : World} {b8 bp : Nat} {x ys : List Int} (h : TQ w0 W b8 bp x ys) : bp < W.heap.size := (Array.getElem?_eq_some_iff.1 h.row).1
theorem TQ.more {w0 W W' : World} {b8 bp : Nat} {x ys : List Int} (h : TQ w0 W b8 bp x ys) (hb : Below W.heap.size W W') : TQ w0 W' b8 bp x ys :=
  ⟨h.below.trans (hb.mono h.below.size), fun j u hu => (hb.cell (p := ⟨b8, 0 + j, none⟩) (Nat.lt_trans h.hi h.lt)).trans (h.head j u hu), (hb.block _ h.lt).trans h.row, h.lo, h.hi⟩
theorem TQ.put {w0 W W' : World} {b8 bp : Nat} {x ys ys' : List Int} (h : TQ w0 W b8 bp x ys) (hg : W.grownBy W' (some bp)) (hh : W'.heap[bp]? = some (.cells (bv ys').toArray 5 (0, 0))) : TQ w0 W' b8 bp x ys' := by
  have h1 := h.hi
  have h2 := h.lo
  have h3 := h.lt
  refine ⟨h.below.grown hg h.below.size (fun b e => by cases e; omega), fun j u hu => ?_, hh, h.lo, h.hi⟩
  rw [World.cell?_of_block (w := W) (a := ⟨b8, 0 + j, none⟩) (hg.block _ (by show b8 < _; omega) (fun e => by have h1 : b8 = bp := Option.some.inj e; omega))]; exact h.head j u hu
theorem Ow.row {B g n : Nat} {w : World} {xs : List Int} (h : Ow B w (.slice (some ⟨g, 0, none⟩) n n) xs) : w.heap[g]? = some (.cells (bv xs).toArray 5 (0, 0)) := by
  rcases h.2 with ⟨h1, _⟩ | ⟨g', cap, cur, hv, hb, hg, hc, _, hs, ht⟩
  · cases h1
  · simp only [Value.slice.injEq, Option.some.injEq, Addr.mk.injEq, and_true] at hv
    obtain ⟨rfl, rfl, rfl⟩ := hv
    rw [List.take_of_length_le (by rw [Array.length_toList, hs]; omega)] at ht
    rw [hg, ← ht]
theorem TQ.ow {w0 W : World} {b8 bp : Nat} {x ys : List Int} (h : TQ w0 W b8 bp x ys) (hl : ys.length ≤ 140737488355328) : Ow w0.heap.size W (.slice (some ⟨bp, 0, none⟩) ys.length ys.length) ys := by
  have h1 := h.hi
  have h2 := h.lo
  refine ⟨by rw [bv_length]; omega, .inr ⟨bp, ys.length, _, rfl, by omega, h.row, Nat.le_refl _, by unfold maxLen; omega, by rw [List.size_toArray, bv_length]; omega, ?_⟩⟩
  rw [List.toList_toArray, List.take_of_length_le (by rw [bv_length]; omega)]
/-- A part of a sector, as a slice. -/
theorem sl_part {W : World} {b : Nat} {x : List Int} (h : W.rangeAt b 0 (bv x)) (hx : x.length = 64) (hb : b < W.heap.size) : Sl W (.slice (some ⟨b, 32, none⟩) 8 32) ((x.drop 32).take 8) := by
  have hl : ((x.drop 32).take 8).length = 8 := by rw [List.length_take, List.length_drop, hx]; rfl
  refine ⟨_, 32, by rw [hl], by omega, .inr ⟨b, 32, rfl, hb, fun i hi => ?_⟩⟩
  rw [hl] at hi
  have := h (32 + i) _ (bv_get x (i := 32 + i) (by omega))
  rw [Nat.zero_add] at this
  rw [this, gi_take hi, gi_drop]
/-- While a sector is copied. -/
structure TS (w0 W : World) (b8 bp bs : Nat) (x ys z : List Int) : Prop where
  q : TQ w0 W b8 bp x ys
  sec : W.rangeAt bs 0 (bv z)
  gt : bp < bs
def tΩ (w0 : World) (b8 bp bs : Nat) (x ys z ys' : List Int) (n : Nat) : Nat → (Nat → Value) → World → Prop
  | 0, _, W => TS w0 W b8 bp bs x ys z
  | _, U, W => TQ w0 W b8 bp x ys' ∧ U 0 = .int .i64 (n : Int)
def tf (bp bs N d n : Nat) : Nat → Value
  | 0 => .int .i64 (d : Int)
  | 1 => .slice (some ⟨bp, 0, none⟩) N N
  | 2 => .int .i64 (d : Int)
  | 3 => .slice (some ⟨bp, d, none⟩) (N - d) (N - d)
  | 4 => .slice (some ⟨bs, 0, none⟩) 64 64
  | 6 => .int .i64 ((d + n : Nat) : Int)
  | 7 => .int .i64 ((d + n : Nat) : Int)
  | _ => undef
def tK : Nat → Nat := fun i => if i = 0 then 1 else if i < 6 then 0 else 1
def uΩ (w0 : World) (b8 bp : Nat) (x P : List Int) : Nat → (Nat → Value) → World → Prop := fun _ _ W => TQ w0 W b8 bp x P
def uf (bp N : Nat) (x P : List Int) : Nat → Value
  | 0 => .slice (some ⟨bp, 0, none⟩) N N
  | 1 => .agg (bv (hd P)).toArray
  | 2 => .agg (bv x).toArray
  | 3 => .bool (!decide (hd P = x))
  | _ => undef
theorem TQ.drew {w0 W : World} {b8 bp : Nat} {x ys : List Int} (h : TQ w0 W b8 bp x ys) : TQ w0 { W with drawn := W.drawn + 1 } b8 bp x ys := ⟨h.below.drew, h.head, h.row, h.lo, h.hi⟩
theorem TS.drew {w0 W : World} {b8 bp bs : Nat} {x ys z : List Int} (h : TS w0 W b8 bp bs x ys z) : TS w0 { W with drawn := W.drawn + 1 } b8 bp bs x ys z := ⟨h.q.drew, h.sec, h.gt⟩
theorem tk_at {s : Dk} {a t N D : Nat} (h0 : ¬ t ≤ a) (hD : t - a - 1 = D) (hN : tkn s a = N) (hb : ¬ D * 64 < N) {x : List Int} (hx : x = rdV s (a : Int)) {k : Nat} (hk : k = 0 ∨ 64 * (k - 1) < N) (he : N ≤ 64 * k) :
    tkp s a = pk s a N k ∧ (hd (pk s a N k) = x → tk s a t = some (pk s a N k)) ∧ (hd (pk s a N k) ≠ x → tk s a t = none) := by
  have e : tkp s a = pk s a N k := by
    unfold tkp; rw [hN, show nsec N = k by unfold nsec; omega]
  refine ⟨e, fun h => ?_, fun h => ?_⟩
  · unfold tk; rw [if_neg h0, hD, hN, if_neg hb, e, ← hx, if_pos h]
  · unfold tk; rw [if_neg h0, hD, hN, if_neg hb, e, ← hx, if_neg h]
theorem cut_at (W : World) (bp N d : Nat) (h : d < N) : (if N = d then (some ⟨bp, 0, none⟩ : Option Addr) else some ⟨bp, 0 + d, none⟩) = some ⟨bp, d, none⟩ := by
  rw [if_neg (by omega), Nat.zero_add]
theorem add_at (d n : Nat) (h : d + n ≤ 67108864) : IntKind.i64.wrap ((d : Int) + (n : Int)) = ((d + n : Nat) : Int) := by
  rw [IntKind.wrap_i64]; omega
set_option maxHeartbeats 2000000 in
theorem takeFrame_any {F : Nat → Prop} {w : World} {g : Nat} {s : Dk} (h : PD F w g s) (hS : Sby s) (hT : Tb w) (a0 t : Nat) (ha : a0 ≤ 1048576) (ht : t ≤ 1048576) :
    Calls Tryd.prog 41 #[.pointer (some ⟨g, 0, none⟩), .int .i64 (a0 : Int), .int .i64 (t : Int)] w fun e w' => ∃ v', e = .returned (.tuple #[v', .bool (tk s a0 t).isSome]) ∧ TkR w.heap.size w' v' (tk s a0 t) ∧ Below w.heap.size w w' := by
  have HP : Hid (PD F w g s) := h
  have HS : Hid (Sby s) := hS
  have HT : Hid (Tb w) := hT
  clear h hS hT
  by_cases h0 : t ≤ a0
  · have E : Hid (tk s a0 t = none) := by show tk s a0 t = none; unfold tk; rw [if_pos h0]
    have g0 : (t : Int) ≤ (a0 : Int) := by omega
    go_enter Tryd.func41, Tryd.ntmps41
    go_wp2_with fail
    go_ret2
    rw [E.out]
    exact ⟨_, rfl, rfl, Below.refl _ _⟩
  have g0 : ¬ ((t : Int) ≤ (a0 : Int)) := by omega
  have hz := zero_sct
  obtain ⟨x, hx⟩ : ∃ x, x = rdV s (a0 : Int) := ⟨_, rfl⟩
  have HX : Hid (x = rdV s (a0 : Int)) := hx
  have HL : Hid (x.length = 64) := by rw [hx]; exact (HS.out _).2
  have HXB : Hid (Byt x) := by rw [hx]; exact (HS.out _).1
  have hnm := tkn_nm HS.out a0
  rw [← hx] at hnm
  obtain ⟨N, hN⟩ : ∃ N, tkn s a0 = N := ⟨_, rfl⟩
  have HN : Hid (tkn s a0 = N) := hN
  rw [hN] at hnm
  have HV : Hid (rnVal ((x.drop 32).take 8) = (N : Int)) := by
    show rnVal _ = _
    unfold rnVal
    rw [if_pos (by rw [List.length_take, List.length_drop, HL.out]; rfl)]; exact hnm.1
  have hN2 : N < 18446744073709551616 := hnm.2
  clear hx hN hnm
  obtain ⟨D, hD⟩ : ∃ D, t - a0 - 1 = D := ⟨_, rfl⟩
  have hD1 : (t : Int) - (a0 : Int) - 1 = (D : Int) := by omega
  have hD2 : D ≤ 1048576 := by omega
  have HD : Hid (t - a0 - 1 = D) := hD
  clear hD
  have H0 : Hid (¬ t ≤ a0) := h0
  clear h0
  go_enter Tryd.func41, Tryd.ntmps41
  go_wp2_with fail
  refine (wread_any HP.out (a0 : Int)).mono ?_
  rintro e w1 ⟨rfl, hb1⟩
  have B1 : Hid (Below w.heap.size w w1) := hb1
  clear hb1
  rw [← HX.out]
  have HTH : Hid ((w1.alloc (.cells (bv z64).toArray 67)).there w1.heap.size 0 (bv x).toArray.size) := sec_there w1 _ HL.out z64_length
  go_wp2_with (refine Sh.wpList_store_midL rfl 67 _ _ rfl w1.heap.size 0 (bv x).toArray rfl rfl HTH.out (sct_size HL.out) (bv_one' _) ?_; intro w2 hw2; have N2 : Hid (Below w1.heap.size w1 w2 ∧ w2.rangeAt w1.heap.size 0 (bv x) ∧ w1.heap.size < w2.heap.size) := sec_new HL.out z64_length hw2; clear hw2)
  have B2 : Hid (Below w.heap.size w w2) := B1.out.trans (N2.out.1.mono B1.out.size)
  have HR8 : Hid (w2.rangeAt w1.heap.size 0 (bv x)) := N2.out.2.1
  have Z8 : Hid (w.heap.size ≤ w1.heap.size ∧ w1.heap.size < w2.heap.size) := ⟨B1.out.size, N2.out.2.2⟩
  obtain ⟨b8, hb8⟩ : ∃ b, b = w1.heap.size := ⟨_, rfl⟩
  rw [← hb8] at HR8 Z8
  rw [← hb8]
  clear hb8 N2 B1 HTH
  have sl0 : ∀ w1 : World, (Instr.sliceAt 67 (.pointer (some ⟨b8, 0, none⟩)) (some (.int .i64 32)) (some (.int .i64 40)) none).run Tryd.prog w1 = .ok (.slice (some ⟨b8, 32, none⟩) 8 32) w1 :=
    fun w1 => by rw [Sh.sliceAt_lh w1 67 5 64 b8 0 32 40 32 40 rfl rfl Tryd.underlying67 size_u8' (by omega) (by omega) (by omega), Nat.zero_add]
  by_cases hbig : D * 64 < N
  · have E : Hid (tk s a0 t = none) := by show tk s a0 t = none; unfold tk; rw [if_neg H0.out, HD.out, HN.out, if_pos hbig]
    have g1 : (D : Int) * 64 < (N : Int) := by omega
    go_wp2_with (go_at_call 57; refine (readNum_any ((x.drop 32).take 8) _ w2 ((HXB.out.drop 32).take 8) (sl_part HR8.out HL.out Z8.out.2) (by rw [List.length_take]; omega)).mono ?_; rintro e w' ⟨rfl, rfl⟩; rw [HV.out])
    go_ret2
    rw [E.out]
    exact ⟨_, rfl, rfl, B2.out⟩
  have g1 : ¬ ((D : Int) * 64 < (N : Int)) := by omega
  have hNb : N ≤ 67108864 := by omega
  go_wp2_with (first
    | (go_at_call 57; refine (readNum_any ((x.drop 32).take 8) _ w2 ((HXB.out.drop 32).take 8) (sl_part HR8.out HL.out Z8.out.2) (by rw [List.length_take]; omega)).mono ?_; rintro e w' ⟨rfl, rfl⟩; rw [HV.out])
    | (at_make; refine make_full w' rfl _ _ rfl .u64 .u64 (N : Int) (N : Int) N rfl rfl rfl rfl (by omega) ?_; intro w3 h1 h2; have O3 : Hid (Ow w'.heap.size w3 (.slice (some ⟨w'.heap.size, 0, none⟩) N N) (List.replicate N 0)) := h1; have B3 : Hid (Below w'.heap.size w' w3) := h2; clear h1 h2))
  obtain ⟨bp, hbp⟩ : ∃ b, b = w'.heap.size := ⟨_, rfl⟩
  have Q3 : Hid (TQ w w3 b8 bp x (pk s a0 N 0)) := by
    rw [pk_zero, hbp]
    exact ⟨B2.out.trans (B3.out.mono B2.out.size), fun j u hu => (B3.out.cell (p := ⟨b8, 0 + j, none⟩) Z8.out.2).trans (HR8.out j u hu), O3.out.row, Z8.out.1, Z8.out.2⟩
  rw [← hbp]
  clear hbp O3 B3 B2 HR8 Z8 sl0 hD1 hD2
  have HBG : Hid (¬ D * 64 < N) := hbig
  clear hbig g1
  go_loopw [1, 12] (fun av dv wr => ∃ k : Nat, av = .int .i64 ((a0 + k : Nat) : Int) ∧ dv = .int .i64 ((Nat.min (64 * k) N : Nat) : Int) ∧ (k = 0 ∨ 64 * (k - 1) < N) ∧ TQ w wr b8 bp x (pk s a0 N k)) (fun _ dv _ => N - (intOf dv).toNat)
  case atStart => exact ⟨0, rfl, by first | rfl | simp, .inl rfl, Q3.out⟩
  case round =>
    obtain ⟨k, rfl, rfl, hk, hq⟩ := hrel
    have HQ : Hid (TQ w wr b8 bp x (pk s a0 N k)) := hq
    have HK : Hid (k = 0 ∨ 64 * (k - 1) < N) := hk
    clear hq Q3
    obtain ⟨d, hde⟩ : ∃ d, Nat.min (64 * k) N = d := ⟨_, rfl⟩
    have hd' : min (64 * k) N = d := hde
    have HDD : Hid (Nat.min (64 * k) N = d) := hde
    rw [hde]
    obtain ⟨A, hA⟩ : ∃ A, a0 + k = A := ⟨_, rfl⟩
    have HA : Hid (a0 + k = A) := hA
    rw [hA]
    have hAb : A ≤ 68157440 := by omega
    by_cases hlt : d < N
    · have hdk : d = 64 * k := by omega
      have gd : (d : Int) < (N : Int) := by omega
      have HDK : Hid (d = 64 * k) := hdk
      obtain ⟨z, hz2⟩ : ∃ z, z = rdV s ((A : Int) + 1) := ⟨_, rfl⟩
      have HZ : Hid (z = rdV s ((A : Int) + 1)) := hz2
      have HZL : Hid (z.length = 64) := by rw [hz2]; exact (HS.out _).2
      have HST : Hid ((pk s a0 N k).take d ++ (z.take (N - d) ++ (pk s a0 N k).drop (d + (z.take (N - d)).length)) = pk s a0 N (k + 1)) := by
        show _ = _
        rw [hdk]
        exact pk_step HS.out (by omega) (by rw [hz2, ← hA]; congr 1 <;> omega)
      obtain ⟨n, hn⟩ : ∃ n, (z.take (N - d)).length = n := ⟨_, rfl⟩
      have hn1 : n = min (N - d) 64 := by rw [← hn, List.length_take, HZL.out]
      have HNN : Hid ((z.take (N - d)).length = n) := hn
      have HNM : Hid (n = Nat.min 64 (N - d)) := by show n = min 64 (N - d); omega
      have hnb : n ≤ 64 := by omega
      have HPK : Hid ((pk s a0 N k).length = N) := pk_length HS.out a0 N k
      have HD1 : Hid (Nat.min (64 * (k + 1)) N = d + n) := by show min (64 * (k + 1)) N = d + n; omega
      have hdn : d + n ≤ N := by omega
      have HLT : Hid (64 * k < N) := by show 64 * k < N; omega
      have HLE : Hid (d < N) := hlt
      have hsum : d + n ≤ 67108864 := by omega
      have hn0 : 0 < n := by omega
      clear hde hd' hdk hA hz2 hn hn1 hk
      go_wp2_with fail
      refine (wread_any (HP.out.below HQ.out.below) ((A : Int) + 1)).mono ?_
      rintro e w4 ⟨rfl, hb4⟩
      have Q4 : Hid (TQ w w4 b8 bp x (pk s a0 N k)) := HQ.out.more hb4
      clear hb4
      rw [← HZ.out]
      have HTH : Hid ((w4.alloc (.cells (bv z64).toArray 67)).there w4.heap.size 0 (bv z).toArray.size) := sec_there w4 _ HZL.out z64_length
      go_wp2_with (refine Sh.wpList_store_midL rfl 67 _ _ rfl w4.heap.size 0 (bv z).toArray rfl rfl HTH.out (sct_size HZL.out) (bv_one' _) ?_; intro w5 hw5; have N5 : Hid (Below w4.heap.size w4 w5 ∧ w5.rangeAt w4.heap.size 0 (bv z) ∧ w4.heap.size < w5.heap.size) := sec_new HZL.out z64_length hw5; clear hw5)
      have S5 : Hid (TS w w5 b8 bp w4.heap.size x (pk s a0 N k) z) := ⟨Q4.out.more N5.out.1, N5.out.2.1, Q4.out.lt⟩
      obtain ⟨bs, hbs⟩ : ∃ b, b = w4.heap.size := ⟨_, rfl⟩
      rw [← hbs] at S5
      rw [← hbs]
      clear hbs N5 HTH Q4
      have sl1 := fun w1 => Sh.sliceAt_all w1 67 5 64 bs 0 Tryd.underlying67 size_u8'
      refine RU.wp_rgn' [5] (tf bp bs N d n) tK (tΩ w b8 bp bs x (pk s a0 N k) z (pk s a0 N (k + 1)) n) (by kernel_rfl) (by kernel_rfl) S5.out.drew ?_ ?_
      · refine ⟨?_, ?_, ?_, ?_, ?_, ?_, ?_, ?_, trivial⟩
        · refine RU.ObT.pure rfl rfl rfl (fun a V hf hp ev he hc W => ?_)
          have q12 : ev (.tmp 12) = .int .i64 (d : Int) := (he (.tmp 12)).trans (hf 12 rfl)
          simp only [List.getElem_toArray, List.getElem_cons_succ, List.getElem_cons_zero, execOp, Option.map_some, Option.map_none]; rw [q12]
          first | (go_simp; done) | (go_simp; rfl)
        · refine RU.ObT.pure rfl rfl rfl (fun a V hf hp ev he hc W => ?_)
          have q11 : ev (.tmp 11) = .slice (some ⟨bp, 0, none⟩) N N := (he (.tmp 11)).trans (hf 11 rfl)
          simp only [List.getElem_toArray, List.getElem_cons_succ, List.getElem_cons_zero, execOp, Option.map_some, Option.map_none]; rw [q11]
          first | (go_simp; done) | (go_simp; rfl)
        · refine RU.ObT.pure rfl rfl rfl (fun a V hf hp ev he hc W => ?_)
          have q12 : ev (.tmp 12) = .int .i64 (d : Int) := (he (.tmp 12)).trans (hf 12 rfl)
          simp only [List.getElem_toArray, List.getElem_cons_succ, List.getElem_cons_zero, execOp, Option.map_some, Option.map_none]; rw [q12]
          first | (go_simp; done) | (go_simp; rfl)
        · refine RU.ObT.pure rfl rfl rfl (fun a V hf hp ev he hc W => ?_)
          have q45 : ev (.tmp 45) = .slice (some ⟨bp, 0, none⟩) N N := (he (.tmp 45)).trans (hp 1 45 rfl)
          have q46 : ev (.tmp 46) = .int .i64 (d : Int) := (he (.tmp 46)).trans (hp 2 46 rfl)
          simp only [List.getElem_toArray, List.getElem_cons_succ, List.getElem_cons_zero, execOp, Option.map_some, Option.map_none]; rw [q45, q46]
          have hq1 : d ≤ N := Nat.le_of_lt HLE.out; have hq2 : ¬ N = d := Nat.ne_of_gt HLE.out
          first | (go_simp; done) | (go_simp; rfl)
        · refine RU.ObT.pure rfl rfl rfl (fun a V hf hp ev he hc W => ?_)
          have q13 : ev (.tmp 13) = .pointer (some ⟨bs, 0, none⟩) := (he (.tmp 13)).trans (hf 13 rfl)
          simp only [List.getElem_toArray, List.getElem_cons_succ, List.getElem_cons_zero, execOp, Option.map_some, Option.map_none]; rw [q13]
          have := sl1 W
          first | (go_simp; done) | (go_simp; rfl)
        · refine RU.ObT.loud (j := 0) rfl (fun a W V hO hf hp => ?_)
          have hO : TS w W b8 bp bs x (pk s a0 N k) z := hO
          have e1 : a.eval (.tmp 47) = .slice (some ⟨bp, d, none⟩) (N - d) (N - d) := hp 3 47 rfl
          have e2 : a.eval (.tmp 48) = .slice (some ⟨bs, 0, none⟩) 64 64 := hp 4 48 rfl
          refine RU.ob_op rfl (RU.wanted_none rfl) (wp_copy_bv (.tmp 47) (.tmp 48) rfl bp d (N - d) (N - d) bs 0 64 64 e1 e2 (pk s a0 N k) _ hO.q.row (z.take (N - d)) (HNN.out.trans HNM.out) (fun i hi => ?_) (by rw [HNN.out, HPK.out]; exact hdn) (fun W' g1 g2 g3 => ⟨_, rfl, hO.q.put g1 (by rw [HST.out] at g3; exact g3), ?_⟩))
          · rw [HNN.out] at hi
            have h1 := hO.sec i _ (bv_get z (by rw [HZL.out]; omega))
            rw [gi_take (by have := HNM.out; have h2 : Nat.min 64 (N - d) ≤ N - d := Nat.min_le_right _ _; omega)]
            exact h1
          · show RU.updU V 0 _ 0 = _; rw [HNN.out]; rfl
        · refine RU.ObT.silent' rfl (fun a V k0 U hO hf hp hl hk => ?_)
          have hj := hl 0 rfl
          obtain ⟨k1, rfl⟩ : ∃ m, k0 = m + 1 := ⟨k0 - 1, by omega⟩
          refine RU.ob_val rfl (RU.wanted_none rfl) (fun ev he hc => ?_) ⟨rfl, hO⟩
          have q1 : ev (.tmp 44) = .int .i64 (d : Int) := (he (.tmp 44)).trans (hp 0 44 rfl)
          have q2 : ev (.tmp 49) = .int .i64 (n : Int) := ((he (.tmp 49)).trans (hp 5 49 rfl)).trans hO.2
          simp only [List.getElem_toArray, List.getElem_cons_succ, List.getElem_cons_zero, execOp]; rw [q1, q2]
          have hw := add_at d n hsum
          first | (go_simp; done) | (go_simp; rfl)
        · refine RU.ObT.silent rfl (fun a W k0 V hO hf hp hk => ?_)
          refine RU.ob_val rfl (RU.wanted_none rfl) (fun ev he hc => ?_) ⟨rfl, hO⟩
          have q1 : ev (.tmp 50) = .int .i64 ((d + n : Nat) : Int) := (he (.tmp 50)).trans (hp 6 50 rfl)
          simp only [List.getElem_toArray, List.getElem_cons_succ, List.getElem_cons_zero, execOp]; rw [q1]
          first | (go_simp; done) | (go_simp; rfl)
      · intro w6 V6 hO6
        have Q6 : Hid (TQ w w6 b8 bp x (pk s a0 N (k + 1))) := hO6.1
        have hV6 : V6 0 = .int .i64 (n : Int) := hO6.2
        simp only [RU.lay, RU.val, RU.at', tf, Act.put, hV6]
        simp only [List.setIfInBounds_toArray, List.set_cons_succ, List.set_cons_zero]
        clear hO6 hV6 S5 sl1
        go_wp2_with fail
        go_roundw
        case rel => exact ⟨k + 1, by have h := HA.out; congr 1; omega, by rw [HD1.out]; rfl, .inr (by show 64 * (k + 1 - 1) < N; have := HLT.out; omega), Q6.out⟩
        case measure => have h := HLE.out; simp [intOf]; omega
    · have hdN : d = N := by omega
      have hE : N ≤ 64 * k := by omega
      have TK : Hid (tkp s a0 = pk s a0 N k ∧ (hd (pk s a0 N k) = x → tk s a0 t = some (pk s a0 N k)) ∧ (hd (pk s a0 N k) ≠ x → tk s a0 t = none)) := tk_at H0.out HD.out HN.out HBG.out HX.out HK.out hE
      have HPB : Hid (Byt (pk s a0 N k)) := by rw [← TK.out.1]; exact tkp_byt HS.out a0
      have HPL : Hid ((pk s a0 N k).length = N) := pk_length HS.out a0 N k
      clear hde hd' hk hE hA
      obtain ⟨P, hP⟩ : ∃ P, pk s a0 N k = P := ⟨_, rfl⟩
      rw [hP] at TK HPB HPL HQ
      clear hP HDD hlt
      subst hdN
      go_wp2_with fail
      refine RU.wp_rgn' [] (uf bp d x P) hK0 (uΩ w b8 bp x P) (by kernel_rfl) (by kernel_rfl) HQ.out.drew ?_ ?_
      · refine ⟨?_, ?_, ?_, ?_, trivial⟩
        · refine RU.ObT.pure rfl rfl rfl (fun a V hf hp ev he hc W => ?_)
          have q11 : ev (.tmp 11) = .slice (some ⟨bp, 0, none⟩) d d := (he (.tmp 11)).trans (hf 11 rfl)
          simp only [List.getElem_toArray, List.getElem_cons_succ, List.getElem_cons_zero, execOp, Option.map_some, Option.map_none]; rw [q11]
          first | (go_simp; done) | (go_simp; rfl)
        · refine RU.ObT.silent rfl (fun a W k0 V hO hf hp hk => ?_)
          have hO : TQ w W b8 bp x P := hO
          have e1 : a.eval (.tmp 51) = .slice (some ⟨bp, 0, none⟩) d d := hp 0 51 rfl
          have how : Ow w.heap.size W (.slice (some ⟨bp, 0, none⟩) P.length P.length) P := hO.ow (by rw [HPL.out]; omega)
          have hcall := headOf_any P (some ⟨bp, 0, none⟩) P.length W (by rw [HPL.out]; omega) (HT.out.below hO.below) HPB.out how.sq
          rw [HPL.out] at hcall
          refine RU.ob_call (g := 58) (args := #[.slice (some ⟨bp, 0, none⟩) d d]) rfl (RU.wanted_none rfl) (fun ev he hc => ?_) (hcall.mono ?_)
          · have h1 := (he (.tmp 51)).trans e1
            have hfn := he (.func 58)
            simp only [List.getElem_toArray, List.getElem_cons_succ, List.getElem_cons_zero, execOp]
            simp only [resolve, invoke, Sem.run_bind, Sem.run_pure, Result.andThen_ok, List.map_toArray, List.map_cons, List.map_nil, h1, hfn, Act.eval]
            rfl
          · rintro e W' ⟨rfl, hb⟩
            exact ⟨_, rfl, rfl, hO.more hb⟩
        · refine RU.ObT.silent rfl (fun a W k0 V hO hf hp hk => ?_)
          have hO : TQ w W b8 bp x P := hO
          exact RU.ob_op rfl (RU.wanted_none rfl) (wp_load_mid 67 (.tmp 8) rfl b8 0 (hf 8 rfl) (bv x) _ hO.head Tryd.underlying67 rfl (by rw [bv_length, HL.out]; exact size_sct) ⟨rfl, hO⟩)
        · refine RU.ObT.silent rfl (fun a W k0 V hO hf hp hk => ?_)
          refine RU.ob_val rfl (RU.wanted_none rfl) (fun ev he hc => ?_) ⟨rfl, hO⟩
          have q1 : ev (.tmp 52) = .agg (bv (hd P)).toArray := (he (.tmp 52)).trans (hp 1 52 rfl)
          have q2 : ev (.tmp 53) = .agg (bv x).toArray := (he (.tmp 53)).trans (hp 2 53 rfl)
          have hn := eq_sct (hd P) x (hd_length P) HL.out W
          simp only [List.getElem_toArray, List.getElem_cons_succ, List.getElem_cons_zero, execOp]; rw [q1, q2]
          first | (go_simp; done) | (go_simp; rfl)
      · intro w6 V6 hO6
        have Q6 : Hid (TQ w w6 b8 bp x P) := hO6
        simp only [RU.lay, RU.val, RU.at', uf, Act.put]
        simp only [List.setIfInBounds_toArray, List.set_cons_succ, List.set_cons_zero]
        clear hO6 HQ
        by_cases hh : hd P = x
        · have E : Hid (tk s a0 t = some P) := TK.out.2.1 hh
          have hb : (!decide (hd P = x)) = false := by simp [hh]
          rw [hb]
          clear hb hh TK
          go_wp2_with fail
          go_ret2
          rw [E.out]
          refine ⟨_, rfl, ?_, Q6.out.below⟩
          have how := Q6.out.ow (by rw [HPL.out]; omega)
          rw [HPL.out] at how
          exact how
        · have E : Hid (tk s a0 t = none) := TK.out.2.2 hh
          have hb : (!decide (hd P = x)) = true := by simp [hh]
          rw [hb]
          clear hb hh TK
          go_wp2_with fail
          go_ret2
          rw [E.out]
          exact ⟨_, rfl, rfl, Q6.out.below⟩
end Go.Proofs.YtphjjjijdbljaaaDoor
