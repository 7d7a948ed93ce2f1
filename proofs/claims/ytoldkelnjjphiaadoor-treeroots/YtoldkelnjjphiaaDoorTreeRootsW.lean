/- The walk of TreeRoots. -/
import Derived.Test.YtoldkelnjjphiaaDoorTrlA
namespace Go.Proofs.YtoldkelnjjphiaaDoor
open Go Go.RowKit
set_option linter.unusedSimpArgs false
set_option linter.unusedVariables false
set_option maxRecDepth 100000

def swΩ (U : World) (g k : Nat) (xa xb : List Value) : Nat → (Nat → Value) → World → Prop
  | 0, _, W => Below U.heap.size U W
  | 1, _, W => ∃ W0, Below U.heap.size U W0 ∧ W = W0.setCells g 0 xb
  | _ + 2, _, W => ∃ W0, Below U.heap.size U W0 ∧ W = (W0.setCells g 0 xb).setCells g (k * 64) xa
def tr13f (g n cq k : Nat) (xk x0 : Lf) : Nat → Value
  | 0 => .slice (some ⟨g, 0, none⟩) n cq
  | 1 => .slice (some ⟨g, 0, none⟩) n cq
  | 2 => .int .i64 (k : Int)
  | 3 => .slice (some ⟨g, 0, none⟩) n cq
  | 4 => .int .i64 (k : Int)
  | 5 => .pointer (some ⟨g, k * 64, none⟩)
  | 6 => .agg (lfc xk).toArray
  | 7 => .slice (some ⟨g, 0, none⟩) n cq
  | 8 => .pointer (some ⟨g, 0, none⟩)
  | 9 => .agg (lfc x0).toArray
  | 10 => .pointer (some ⟨g, 0, none⟩)
  | 11 => undef
  | 12 => .pointer (some ⟨g, k * 64, none⟩)
  | 13 => undef
  | _ => undef
def tr18f (lb lo n cap k : Nat) (x : Lf) (y : Nd) : Nat → Value
  | 0 => .slice (some ⟨lb, lo, none⟩) n cap
  | 1 => .int .i64 (k : Int)
  | 2 => .pointer (some ⟨lb, lo + k * 64, none⟩)
  | 3 => .agg (lfc x).toArray
  | 4 => .agg (nc y).toArray
  | 5 => .slice (some ⟨lb, lo, none⟩) n cap
  | 6 => .int .i64 (k : Int)
  | 7 => .pointer (some ⟨lb, lo + k * 64, none⟩)
  | 8 => .agg (lfc x).toArray
  | 9 => .agg (nc y).toArray
  | 10 => .bool false
  | _ => undef
set_option maxHeartbeats 32000000 in
theorem roots_any (ls : List Lf) (hk : ∀ x ∈ ls, x.Ok) (hlen : ls.length ≤ 2500000000000) (t : Int) (htr : -9223372036854775808 ≤ t ∧ t ≤ 9223372036854775807) (v : Value) (w : World) (hv : LS w v ls) (hT : Tb w) :
    Calls Tryd.prog 4 #[v, .int .i64 t] w fun e w' => e = .returned (.bool true) ∧ Below w.heap.size w w' := by
  have hz := zero_32
  rw [show List.replicate 32 (0 : Int) = z32 from rfl] at hz
  obtain ⟨Z, hZ⟩ : ∃ Z, (bv z32).toArray = Z := ⟨_, rfl⟩
  have HZS : Hid (Z.size = 32) := by show Z.size = 32; rw [← hZ]; simp [bv, z32]
  rw [hZ] at hz
  obtain ⟨R, er, hR, hRL⟩ := ro_some ls
  have HRO : Hid (RO ls R er) := hR
  have HRL : Hid (L32 R) := hRL
  have HK : Hid (∀ x ∈ ls, x.Ok) := hk
  have TW : Hid (Tb w) := hT
  have VW : Hid (LS w v ls) := hv
  have HAW : Hid (Calls Tryd.prog 9 #[] w fun e w' => e = .returned (.bool true) ∧ Below w.heap.size w w') := awake_any w hT
  have HR1 : Hid (∀ W : World, Below w.heap.size w W → Calls Tryd.prog 21 #[v] W fun e w' => e = .returned (.tuple #[.agg (bv R).toArray, .int .i64 er]) ∧ Below W.heap.size W w') := fun W q => rRootOf_any ls hk hlen R er hR v W (VW.out.below q)
  have HR2 : Hid (∀ (v' : Value) (W : World), LS W v' ls → Below w.heap.size w W → Calls Tryd.prog 22 #[v'] W fun e w' => e = .returned (.tuple #[.agg (bv R).toArray, .int .i64 er]) ∧ Below W.heap.size W w') := fun v' W n1 q => RootOf_any ls hk hlen R er hR v' W n1 (TW.out.below q)
  have HCP : Hid (∀ W : World, Below w.heap.size w W → Calls Tryd.prog 23 #[v] W fun e w' => ∃ v', e = .returned v' ∧ LO W.heap.size w' v' ls ∧ Below W.heap.size W w') := fun W q => copyLeaves_own ls hk (by omega) v W (VW.out.below q)
  obtain ⟨adl, cap, rfl, hc, hx⟩ := hv
  have HXX : Hid (ls = [] ∧ (adl = none → cap = 0) ∨ ∃ b o, adl = some ⟨b, o, none⟩ ∧ b < w.heap.size ∧ ∀ (i : Nat) (x : Lf), ls[i]? = some x → w.rangeAt b (o + i * 64) (lfc x)) := hx
  obtain ⟨n, hn⟩ : ∃ n, ls.length = n := ⟨_, rfl⟩
  have HLN : Hid (ls.length = n) := hn
  rw [hn] at hlen HR1 HCP VW ⊢
  clear hx hk hc hn hR hRL hT hZ
  go_enter Tryd.func4, Tryd.ntmps4
  go_upto_region 4 with (first
    | (refine wpList_store_mid rfl 23 (.tmp 5) (.tmp 20) rfl w1.heap.size 0 (bv R).toArray rfl rfl (there_new w1 (by rw [List.size_toArray, bv_length, HRL.out.len, HZS.out])) (by rw [List.size_toArray]; exact size_l32 HRL.out) (bv_one' _) ?_; simp only [List.toList_toArray])
    | (go_at_call 9; refine HAW.out.mono ?_; rintro e w0 ⟨rfl, g1⟩; have Cw0 : Hid (Below w.heap.size w w0) := g1; clear g1)
    | (go_at_call 21; refine (HR1.out w0 Cw0.out).mono ?_; rintro e w1 ⟨rfl, g1⟩; have Cw1 : Hid (Below w.heap.size w w1) := Below.tr' Cw0.out g1; clear g1))
  obtain ⟨w2, hw2⟩ : ∃ a9, (w1.alloc (.cells Z 23)).setCells w1.heap.size 0 (bv R) = a9 := ⟨_, rfl⟩
  rw [hw2]
  obtain ⟨r1, r2, r3⟩ := laid_row (by rw [bv_length, HRL.out.len, HZS.out]) (by rw [bv_length, HRL.out.len]; omega) hw2
  obtain ⟨b5, hBb5⟩ : ∃ q, w1.heap.size = q := ⟨_, rfl⟩
  rw [hBb5] at r1 r3 ⊢
  have Rb5 : Hid (w2.rangeAt b5 0 (bv R)) := r1
  have Gw2 : Hid (Below w1.heap.size w1 w2) := r2
  have Cw2 : Hid (Below w.heap.size w w2) := Below.tr' Cw1.out r2
  have Lb5 : Hid (b5 < w2.heap.size) := r3
  clear r1 r2 r3 hw2 hBb5
  go_upto_region 5 with (first
    | (refine wpList_store_mid rfl 23 (.tmp 7) (.tmp 26) rfl w3.heap.size 0 (bv R).toArray rfl rfl (there_new w3 (by rw [List.size_toArray, bv_length, HRL.out.len, HZS.out])) (by rw [List.size_toArray]; exact size_l32 HRL.out) (bv_one' _) ?_; simp only [List.toList_toArray])
    | (go_at_call 22; refine (HR2.out v1 a1 N1.out Ca1.out).mono ?_; rintro e w3 ⟨rfl, g1⟩; have Gw3 : Hid (Below w2.heap.size w2 w3) := Below.tr' Ga1.out g1; have Cw3 : Hid (Below w.heap.size w w3) := Below.tr' Ca1.out g1; clear g1)
    | (go_at_call 23; refine (HCP.out w2 Cw2.out).mono ?_; rintro e a1 ⟨v1, rfl, g1, g2⟩; have N1 : Hid (LS a1 v1 ls) := g1.ls; have Ga1 : Hid (Below w2.heap.size w2 a1) := g2; have Ca1 : Hid (Below w.heap.size w a1) := Below.tr' Cw2.out g2; clear g1 g2))
  obtain ⟨w4, hw4⟩ : ∃ a9, (w3.alloc (.cells Z 23)).setCells w3.heap.size 0 (bv R) = a9 := ⟨_, rfl⟩
  rw [hw4]
  obtain ⟨r1, r2, r3⟩ := laid_row (by rw [bv_length, HRL.out.len, HZS.out]) (by rw [bv_length, HRL.out.len]; omega) hw4
  obtain ⟨b7, hBb7⟩ : ∃ q, w3.heap.size = q := ⟨_, rfl⟩
  rw [hBb7] at r1 r3 ⊢
  have Rb7 : Hid (w4.rangeAt b7 0 (bv R)) := r1
  have Gw4 : Hid (Below w3.heap.size w3 w4) := r2
  have Cw4 : Hid (Below w.heap.size w w4) := Below.tr' Cw3.out r2
  have Lb7 : Hid (b7 < w4.heap.size) := r3
  clear r1 r2 r3 hw4 hBb7
  go_upto_region 6 with (go_at_call 23; refine (HCP.out w4 Cw4.out).mono ?_; rintro e a5 ⟨v9, rfl, g1, g2⟩; have O5 : Hid (LO w4.heap.size a5 v9 ls) := g1; have Ga5 : Hid (Below w4.heap.size w4 a5) := g2; have Ca5 : Hid (Below w.heap.size w a5) := Below.tr' Cw4.out g2; clear g1 g2)
  have R54 : Hid (w4.rangeAt b5 0 (bv R)) := range_below Rb5.out (Below.tr' Gw3.out Gw4.out) Lb5.out
  have L54 : Hid (b5 < w4.heap.size) := Nat.lt_of_lt_of_le Lb5.out (Nat.le_trans Gw3.out.size Gw4.out.size)
  obtain ⟨ad9, cp9, hv9, hc9, -⟩ := O5.out.ls
  rw [HLN.out] at hv9
  subst hv9
  go_wp2_with fail
  go_loopw [32] (fun i wr => ∃ k : Nat, k ≤ n ∧ i = .int .i64 (k : Int) ∧ LO w4.heap.size wr (.slice ad9 n cp9) (trn ls k) ∧ Below w4.heap.size w4 wr) (fun i _ => n - (intOf i).toNat)
  case atStart => exact ⟨0, Nat.zero_le _, rfl, by have := O5.out; unfold trn; simpa using this, Ga5.out⟩
  case round =>
    obtain ⟨k, hkl, rfl, hlo, h6⟩ := hrel
    have H6 : Hid (Below w4.heap.size w4 wr) := h6
    have O6 : Hid (LO w4.heap.size wr (.slice ad9 n cp9) (trn ls k)) := hlo
    have C6 : Hid (Below w.heap.size w wr) := Below.tr' Cw4.out H6.out
    clear h6 hlo
    by_cases hlt : k < n
    · rcases HXX.out with ⟨h0, _⟩ | ⟨lb, lo, rfl, hlb, hm⟩
      · have := HLN.out; rw [h0] at this; simp at this; omega
      obtain ⟨g, cq, hsl, hcq⟩ := O6.out.sl (fun e => by have := trn_len ls (k := k) (by have := HLN.out; omega); rw [e] at this; simp at this; have := HLN.out; omega)
      rw [trn_len ls (by have := HLN.out; omega), HLN.out] at hsl hcq
      simp only [Value.slice.injEq] at hsl
      obtain ⟨rfl, -, rfl⟩ := hsl
      obtain ⟨j, hj⟩ : ∃ j, j = n - 1 - k := ⟨_, rfl⟩
      obtain ⟨n1, hn1⟩ : ∃ n1, n1 = n - 1 := ⟨_, rfl⟩
      obtain ⟨x, hx⟩ : ∃ x, ls[j]? = some x := ⟨ls[j]'(by have := HLN.out; omega), List.getElem?_eq_getElem _⟩
      have HX : Hid x.Ok := HK.out x (List.mem_of_getElem? hx)
      have RXW : Hid (wr.rangeAt lb (lo + (n - 1 - k) * 64) (lfc x)) := by rw [← hj]; exact range_below (hm j x hx) C6.out hlb
      have HTH : Hid (wr.there g (k * 64) 64) := LO.there O6.out (by rw [trn_len ls (by have := HLN.out; omega), HLN.out]; exact hlt)
      have HST : Hid (LO w4.heap.size (wr.setCells g (k * 64) (lfc x)) (.slice (some ⟨g, 0, none⟩) n cp9) (trn ls (k + 1))) := by
        have := O6.out.set (m := [x]) (i := k) (fun z hz => by simp at hz; subst hz; exact HX.out) (by rw [trn_len ls (by have := HLN.out; omega), HLN.out]; simp; omega)
        rw [show lcs [x] = lfc x by simp [lcs], trn_step (by have := HLN.out; omega) (by rw [HLN.out, ← hj]; exact hx)] at this
        exact this
      have HGB : Hid (w4.heap.size ≤ g) := (O6.out.1.lt g rfl).1
      have hk9 : (k : Int) < (n : Int) := by omega
      clear hm hlb hx hj hn1
      go_wp2_with (first
        | (refine ld 41 (.tmp 43) rfl rfl lb (lo + (n - 1 - k) * 64) rfl (lfc x) _ RXW.out Tryd.underlying41 rfl (size_lfc HX.out) ?_)
        | (refine wpList_store_mid rfl 41 (.tmp 45) (.tmp 44) rfl g (k * 64) (lfc x).toArray rfl rfl (by rw [List.size_toArray, lfc_length HX.out]; exact HTH.out) (by rw [List.size_toArray]; exact size_lfc HX.out) (lfc_one _) ?_; simp only [List.toList_toArray]))
      exact ⟨⟨k + 1, by omega, by go_num, HST.out, below_setCells HGB.out _ _ H6.out⟩, by simp [intOf]; omega⟩
    · obtain rfl : k = n := by omega
      have OR : Hid (LO w4.heap.size wr (.slice ad9 k cp9) ls.reverse) := by have := O6.out; rw [← HLN.out, trn_all, HLN.out] at this; exact this
      have R56 : Hid (wr.rangeAt b5 0 (bv R)) := range_below R54.out H6.out L54.out
      have L56 : Hid (b5 < wr.heap.size) := Nat.lt_of_lt_of_le L54.out H6.out.size
      have R76 : Hid (wr.rangeAt b7 0 (bv R)) := range_below Rb7.out H6.out Lb7.out
      have L76 : Hid (b7 < wr.heap.size) := Nat.lt_of_lt_of_le Lb7.out H6.out.size
      obtain ⟨n, hnk⟩ : ∃ n, k = n := ⟨_, rfl⟩
      subst hnk
      by_cases h1n : 1 < k
      · obtain ⟨g, cq, hsl, hcq⟩ := OR.out.sl (fun e => by have := congrArg List.length e; rw [List.length_reverse, HLN.out] at this; simp at this; omega)
        rw [List.length_reverse, HLN.out] at hsl hcq
        simp only [Value.slice.injEq] at hsl
        obtain ⟨rfl, -, rfl⟩ := hsl
        obtain ⟨i, hwi, him⟩ : ∃ i : Nat, wrap64 ((IntKind.u64.wrap t).tmod (k : Int)) = (i : Int) ∧ i < k := by
          have h0 : 0 ≤ IntKind.u64.wrap t := by simp [IntKind.wrap, IntKind.bits, IntKind.signed]; omega
          have h1 := Int.tmod_nonneg (k : Int) h0
          have h2 := Int.tmod_lt_of_pos (IntKind.u64.wrap t) (show (0 : Int) < (k : Int) by omega)
          refine ⟨((IntKind.u64.wrap t).tmod (k : Int)).toNat, ?_, by omega⟩
          unfold wrap64; omega
        have hrl : ls.reverse.length = k := by rw [List.length_reverse]; exact HLN.out
        obtain ⟨l1, hl1⟩ : ∃ l1, ls.reverse = l1 := ⟨_, rfl⟩
        have HLP : Hid (l1.Perm ls) := by rw [← hl1]; exact List.reverse_perm ls
        rw [hl1] at OR hrl
        obtain ⟨xk, hxk⟩ : ∃ x, l1[i]? = some x := ⟨l1[i]'(by omega), List.getElem?_eq_getElem _⟩
        obtain ⟨x0, hx0⟩ : ∃ x, l1[0]? = some x := ⟨l1[0]'(by omega), List.getElem?_eq_getElem _⟩
        have HKxk : Hid xk.Ok := OR.out.2.1 xk (List.mem_of_getElem? hxk)
        have HKx0 : Hid x0.Ok := OR.out.2.1 x0 (List.mem_of_getElem? hx0)
        have hgl := OR.out.1.lt g rfl
        have LG5 : Hid (g < wr.heap.size) := hgl.2
        have HGB : Hid (w4.heap.size ≤ g) := hgl.1
        have HRG : Hid (∀ (j : Nat) (x : Lf), l1[j]? = some x → wr.rangeAt g (j * 64) (lfc x)) := fun j x hj => by
          obtain ⟨ad', cp', he, -, hx⟩ := OR.out.ls
          simp only [Value.slice.injEq] at he
          obtain ⟨rfl, -, rfl⟩ := he
          rcases hx with ⟨h0, _⟩ | ⟨b', o', e, -, hm'⟩
          · rw [h0] at hj; simp at hj
          · simp only [Option.some.injEq, Addr.mk.injEq, and_true] at e
            obtain ⟨rfl, rfl⟩ := e
            have := hm' j x hj
            rwa [Nat.zero_add] at this
        have RK5 : Hid (wr.rangeAt g (i * 64) (lfc xk)) := HRG.out i xk hxk
        have R05 : Hid (wr.rangeAt g 0 (lfc x0)) := by have := HRG.out 0 x0 hx0; rw [Nat.zero_mul] at this; exact this
        have HT0 : Hid (∀ W : World, Below wr.heap.size wr W → W.there g 0 64) := fun W q => by have := LO.there (OR.out.below q) (i := 0) (by omega); rw [Nat.zero_mul] at this; exact this
        have HTK : Hid (∀ W : World, Below wr.heap.size wr W → W.there g (i * 64) 64) := fun W q => LO.there (OR.out.below q) (by omega)
        have HSW : Hid (∀ W : World, Below wr.heap.size wr W → LO w4.heap.size ((W.setCells g 0 (lfc xk)).setCells g (i * 64) (lfc x0)) (.slice (some ⟨g, 0, none⟩) k cp9) ((l1.set 0 xk).set i x0)) := fun W q => by
          have a1 := (OR.out.below q).set (m := [xk]) (i := 0) (fun z hz => by simp at hz; subst hz; exact HKxk.out) (by simp; omega)
          rw [show lcs [xk] = lfc xk by simp [lcs], Nat.zero_mul, set_take (by omega)] at a1
          have a2 := a1.set (m := [x0]) (i := i) (fun z hz => by simp at hz; subst hz; exact HKx0.out) (by simp; omega)
          rw [show lcs [x0] = lfc x0 by simp [lcs], set_take (by simp; omega)] at a2
          exact a2
        have HSP : Hid (((l1.set 0 xk).set i x0).Perm ls) := (swap_perm hx0 hxk).trans HLP.out
        have hi9 : (i : Int) < (k : Int) := by omega
        clear hxk hx0 hl1 hrl hgl hcq
        go_upto_region 13 with (fail)
        try simp only [hwi]
        clear hwi
        refine RU.wp_rgn' [11, 13] (tr13f g k cp9 i xk x0) (fun q => if q = 12 then 1 else if q = 2 then 1 else if q = 1 then 1 else 0) (swΩ wr g i (lfc x0) (lfc xk)) (by kernel_rfl) (by kernel_rfl) (show Below wr.heap.size wr _ from (Below.refl _ _).drew) ?_ ?_
        · refine ⟨?_, ?_, ?_, ?_, ?_, ?_, ?_, ?_, ?_, ?_, ?_, ?_, ?_, ?_, trivial⟩
          · refine RU.ObT.pure rfl rfl rfl (fun a V hf hp ev he hc W => ?_)
            have q9 : ev (.tmp 9) = .slice (some ⟨g, 0, none⟩) k cp9 := (he (.tmp 9)).trans (hf 9 rfl)
            simp only [List.getElem_toArray, List.getElem_cons_succ, List.getElem_cons_zero, execOp, Option.map_some, Option.map_none]; rw [q9]
            first | (go_simp; done) | (go_simp; rfl) | rfl
          · refine RU.ObT.pure rfl rfl rfl (fun a V hf hp ev he hc W => ?_)
            have q9 : ev (.tmp 9) = .slice (some ⟨g, 0, none⟩) k cp9 := (he (.tmp 9)).trans (hf 9 rfl)
            simp only [List.getElem_toArray, List.getElem_cons_succ, List.getElem_cons_zero, execOp, Option.map_some, Option.map_none]; rw [q9]
            first | (go_simp; done) | (go_simp; rfl) | rfl
          · refine RU.ObT.pure rfl rfl rfl (fun a V hf hp ev he hc W => ?_)
            have q11 : ev (.tmp 11) = .int .i64 (i : Int) := (he (.tmp 11)).trans (hf 11 rfl)
            simp only [List.getElem_toArray, List.getElem_cons_succ, List.getElem_cons_zero, execOp, Option.map_some, Option.map_none]; rw [q11]
            first | (go_simp; done) | (go_simp; rfl) | rfl
          · refine RU.ObT.pure rfl rfl rfl (fun a V hf hp ev he hc W => ?_)
            have q9 : ev (.tmp 9) = .slice (some ⟨g, 0, none⟩) k cp9 := (he (.tmp 9)).trans (hf 9 rfl)
            simp only [List.getElem_toArray, List.getElem_cons_succ, List.getElem_cons_zero, execOp, Option.map_some, Option.map_none]; rw [q9]
            first | (go_simp; done) | (go_simp; rfl) | rfl
          · refine RU.ObT.pure rfl rfl rfl (fun a V hf hp ev he hc W => ?_)
            have q11 : ev (.tmp 11) = .int .i64 (i : Int) := (he (.tmp 11)).trans (hf 11 rfl)
            simp only [List.getElem_toArray, List.getElem_cons_succ, List.getElem_cons_zero, execOp, Option.map_some, Option.map_none]; rw [q11]
            first | (go_simp; done) | (go_simp; rfl) | rfl
          · refine RU.ObT.pure rfl rfl rfl (fun a V hf hp ev he hc W => ?_)
            have q60 : ev (.tmp 60) = .slice (some ⟨g, 0, none⟩) k cp9 := (he (.tmp 60)).trans (hp 3 60 rfl)
            have q61 : ev (.tmp 61) = .int .i64 (i : Int) := (he (.tmp 61)).trans (hp 4 61 rfl)
            simp only [List.getElem_toArray, List.getElem_cons_succ, List.getElem_cons_zero, execOp, Option.map_some, Option.map_none]; rw [q60, q61]
            have hk9 : (i : Int) < (k : Int) := by omega
            have hk8 : i < k := by omega
            first | (go_simp; done) | (go_simp; rfl) | rfl
          · refine RU.ObT.silent rfl (fun a W k0 V hO hf hp hk => ?_)
            obtain rfl : k0 = 0 := Nat.le_zero.1 hk; have hO' : Below wr.heap.size wr W := hO
            have q62 : a.eval (.tmp 62) = .pointer (some ⟨g, i * 64, none⟩) := hp 5 62 rfl
            exact RU.ob_op rfl (RU.wanted_none rfl) (wp_load_mid 41 (.tmp 62) rfl (g) (i * 64) q62 (lfc xk) _ (range_below RK5.out hO' LG5.out) Tryd.underlying41 rfl (size_lfc HKxk.out) ⟨rfl, hO⟩)
          · refine RU.ObT.pure rfl rfl rfl (fun a V hf hp ev he hc W => ?_)
            have q9 : ev (.tmp 9) = .slice (some ⟨g, 0, none⟩) k cp9 := (he (.tmp 9)).trans (hf 9 rfl)
            simp only [List.getElem_toArray, List.getElem_cons_succ, List.getElem_cons_zero, execOp, Option.map_some, Option.map_none]; rw [q9]
            first | (go_simp; done) | (go_simp; rfl) | rfl
          · refine RU.ObT.pure rfl rfl rfl (fun a V hf hp ev he hc W => ?_)
            have q64 : ev (.tmp 64) = .slice (some ⟨g, 0, none⟩) k cp9 := (he (.tmp 64)).trans (hp 7 64 rfl)
            simp only [List.getElem_toArray, List.getElem_cons_succ, List.getElem_cons_zero, execOp, Option.map_some, Option.map_none]; rw [q64]
            try simp only [hc]
            have h09 : (0 : Int) < (k : Int) := by omega
            have h08 : 0 < k := by omega
            first | (go_simp; done) | (go_simp; rfl) | rfl
          · refine RU.ObT.silent rfl (fun a W k0 V hO hf hp hk => ?_)
            obtain rfl : k0 = 0 := Nat.le_zero.1 hk; have hO' : Below wr.heap.size wr W := hO
            have q65 : a.eval (.tmp 65) = .pointer (some ⟨g, 0, none⟩) := hp 8 65 rfl
            exact RU.ob_op rfl (RU.wanted_none rfl) (wp_load_mid 41 (.tmp 65) rfl (g) (0) q65 (lfc x0) _ (range_below R05.out hO' LG5.out) Tryd.underlying41 rfl (size_lfc HKx0.out) ⟨rfl, hO⟩)
          · refine RU.ObT.pure rfl rfl rfl (fun a V hf hp ev he hc W => ?_)
            have q57 : ev (.tmp 57) = .slice (some ⟨g, 0, none⟩) k cp9 := (he (.tmp 57)).trans (hp 0 57 rfl)
            simp only [List.getElem_toArray, List.getElem_cons_succ, List.getElem_cons_zero, execOp, Option.map_some, Option.map_none]; rw [q57]
            try simp only [hc]
            have h09 : (0 : Int) < (k : Int) := by omega
            have h08 : 0 < k := by omega
            first | (go_simp; done) | (go_simp; rfl) | rfl
          · refine RU.ObT.loud (j := 0) rfl (fun a W V hO hf hp => ?_)
            have hO' : Below wr.heap.size wr W := hO
            have q1 : a.eval (.tmp 67) = .pointer (some ⟨g, 0, none⟩) := hp 10 67 rfl
            have q2 : a.eval (.tmp 63) = .agg (lfc xk).toArray := hp 6 63 rfl
            exact RU.ob_op rfl (RU.wanted_none rfl) (wp_store_mid 41 (.tmp 67) (.tmp 63) rfl g (0) (lfc xk).toArray q1 q2 (by rw [List.size_toArray, lfc_length HKxk.out]; exact HT0.out W hO') (by rw [List.size_toArray]; exact size_lfc HKxk.out) (lfc_one _) ⟨_, rfl, by simp only [List.toList_toArray]; exact ⟨W, hO', rfl⟩⟩)
          · refine RU.ObT.pure rfl rfl rfl (fun a V hf hp ev he hc W => ?_)
            have q58 : ev (.tmp 58) = .slice (some ⟨g, 0, none⟩) k cp9 := (he (.tmp 58)).trans (hp 1 58 rfl)
            have q59 : ev (.tmp 59) = .int .i64 (i : Int) := (he (.tmp 59)).trans (hp 2 59 rfl)
            simp only [List.getElem_toArray, List.getElem_cons_succ, List.getElem_cons_zero, execOp, Option.map_some, Option.map_none]; rw [q58, q59]
            have hk9 : (i : Int) < (k : Int) := by omega
            have hk8 : i < k := by omega
            first | (go_simp; done) | (go_simp; rfl) | rfl
          · refine RU.ObT.loud (j := 1) rfl (fun a W V hO hf hp => ?_)
            obtain ⟨W0, hO', rfl⟩ := hO
            have q1 : a.eval (.tmp 68) = .pointer (some ⟨g, i * 64, none⟩) := hp 12 68 rfl
            have q2 : a.eval (.tmp 66) = .agg (lfc x0).toArray := hp 9 66 rfl
            exact RU.ob_op rfl (RU.wanted_none rfl) (wp_store_mid 41 (.tmp 68) (.tmp 66) rfl g (i * 64) (lfc x0).toArray q1 q2 (by rw [List.size_toArray, lfc_length HKx0.out]; exact World.there_setCells (HTK.out W0 hO') _ _ _) (by rw [List.size_toArray]; exact size_lfc HKx0.out) (lfc_one _) ⟨_, rfl, by simp only [List.toList_toArray]; exact ⟨W0, hO', rfl⟩⟩)
        intro W6 VW6 hOW6
        obtain ⟨W0, hW0, hWW⟩ := hOW6
        subst hWW
        have B0 : Hid (Below wr.heap.size wr W0) := hW0
        clear hW0
        simp only [RU.lay, RU.val, RU.at', tr13f, Act.put]
        simp only [List.setIfInBounds_toArray, List.set_cons_succ, List.set_cons_zero]
        obtain ⟨ms, hms⟩ : ∃ ms, (l1.set 0 xk).set i x0 = ms := ⟨_, rfl⟩
        have HMS : Hid (ms.Perm ls) := by rw [← hms]; exact HSP.out
        have O7 := HSW.out W0 B0.out
        rw [hms] at O7
        have hge : ∀ b, b < w4.heap.size → b ≠ g := fun b hb => by have := HGB.out; omega
        have C7 : Below w.heap.size w ((W0.setCells g 0 (lfc xk)).setCells g (i * 64) (lfc x0)) := below_setCells (by have h1 := Cw4.out.size; have h2 := HGB.out; omega) _ _ (below_setCells (by have h1 := Cw4.out.size; have h2 := HGB.out; omega) _ _ (C6.out.trans (B0.out.mono C6.out.size)))
        have q5 : ((W0.setCells g 0 (lfc xk)).setCells g (i * 64) (lfc x0)).rangeAt b5 0 (bv R) := World.rangeAt_setCells_apart (World.rangeAt_setCells_apart (range_below R56.out B0.out L56.out) _ _ _ (.inl (hge _ L54.out))) _ _ _ (.inl (hge _ L54.out))
        have q7 : ((W0.setCells g 0 (lfc xk)).setCells g (i * 64) (lfc x0)).rangeAt b7 0 (bv R) := World.rangeAt_setCells_apart (World.rangeAt_setCells_apart (range_below R76.out B0.out L76.out) _ _ _ (.inl (hge _ Lb7.out))) _ _ _ (.inl (hge _ Lb7.out))
        have l5 : b5 < ((W0.setCells g 0 (lfc xk)).setCells g (i * 64) (lfc x0)).heap.size := by rw [size_setC, size_setC]; exact Nat.lt_of_lt_of_le L56.out B0.out.size
        have l7 : b7 < ((W0.setCells g 0 (lfc xk)).setCells g (i * 64) (lfc x0)).heap.size := by rw [size_setC, size_setC]; exact Nat.lt_of_lt_of_le L76.out B0.out.size
        obtain ⟨w7, hw7⟩ : ∃ w7, (W0.setCells g 0 (lfc xk)).setCells g (i * 64) (lfc x0) = w7 := ⟨_, rfl⟩
        rw [hw7] at O7 C7 q5 q7 l5 l7 ⊢
        have N7 : Hid (LS w7 (.slice (some ⟨g, 0, none⟩) k cp9) ms) := O7.ls
        have Cw7 : Hid (Below w.heap.size w w7) := C7
        have R57 : Hid (w7.rangeAt b5 0 (bv R)) := q5
        have L57 : Hid (b5 < w7.heap.size) := l5
        have R77 : Hid (w7.rangeAt b7 0 (bv R)) := q7
        have L77 : Hid (b7 < w7.heap.size) := l7
        clear hw7 hms O7 C7 q5 q7 l5 l7 hge
        go_upto_region 14 with (fail)
        have HR3 : Hid (Calls Tryd.prog 22 #[.slice (some ⟨g, 0, none⟩) k cp9] w7 fun e w' => e = .returned (.tuple #[.agg (bv R).toArray, .int .i64 er]) ∧ Below w7.heap.size w7 w') := RootOf_any ms (fun x hx => HK.out x (HMS.out.mem_iff.1 hx)) (by have := HMS.out.length_eq; have := HLN.out; omega) R er (ro_perm HMS.out HK.out HRO.out) _ w7 N7.out (TW.out.below Cw7.out)
        go_upto_region 15 with (first
          | (refine wpList_store_mid rfl 23 (.tmp 12) (.tmp 72) rfl w8.heap.size 0 (bv R).toArray rfl rfl (there_new w8 (by rw [List.size_toArray, bv_length, HRL.out.len, HZS.out])) (by rw [List.size_toArray]; exact size_l32 HRL.out) (bv_one' _) ?_; simp only [List.toList_toArray])
          | (go_at_call 22; refine HR3.out.mono ?_; rintro e w8 ⟨rfl, g1⟩; have Gw8 : Hid (Below w7.heap.size w7 w8) := g1; have Cw8 : Hid (Below w.heap.size w w8) := Below.tr' Cw7.out g1; clear g1))
        obtain ⟨w9, hw9⟩ : ∃ a9, (w8.alloc (.cells Z 23)).setCells w8.heap.size 0 (bv R) = a9 := ⟨_, rfl⟩
        rw [hw9]
        obtain ⟨r1, r2, r3⟩ := laid_row (by rw [bv_length, HRL.out.len, HZS.out]) (by rw [bv_length, HRL.out.len]; omega) hw9
        obtain ⟨b12, hBb12⟩ : ∃ q, w8.heap.size = q := ⟨_, rfl⟩
        rw [hBb12] at r1 r3 ⊢
        have Rb12 : Hid (w9.rangeAt b12 0 (bv R)) := r1
        have Gw9 : Hid (Below w8.heap.size w8 w9) := r2
        have Cw9 : Hid (Below w.heap.size w w9) := Below.tr' Cw8.out r2
        have Lb12 : Hid (b12 < w9.heap.size) := r3
        clear r1 r2 r3 hw9 hBb12
        clear hz
        have RB5 : Hid (w9.rangeAt b5 0 (bv R)) := range_below R57.out (Below.tr' Gw8.out Gw9.out) L57.out
        have LB5 : Hid (b5 < w9.heap.size) := Nat.lt_of_lt_of_le L57.out (Nat.le_trans Gw8.out.size Gw9.out.size)
        have RB7 : Hid (w9.rangeAt b7 0 (bv R)) := range_below R77.out (Below.tr' Gw8.out Gw9.out) L77.out
        have LB7 : Hid (b7 < w9.heap.size) := Nat.lt_of_lt_of_le L77.out (Nat.le_trans Gw8.out.size Gw9.out.size)
        go_wp2_with fail
        go_loopw [76] (fun i wr => ∃ kk : Nat, kk ≤ k ∧ i = .int .i64 (kk : Int) ∧ Below w9.heap.size w9 wr) (fun i _ => k - (intOf i).toNat)
        case atStart => exact ⟨0, Nat.zero_le _, rfl, Below.refl _ _⟩
        case round =>
          obtain ⟨kk, hkl, rfl, h9⟩ := hrel
          have H9 : Hid (Below w9.heap.size w9 wr) := h9
          have C9 : Hid (Below w.heap.size w wr) := Below.tr' Cw9.out H9.out
          clear h9
          by_cases hlt : kk < k
          · rcases HXX.out with ⟨h0, _⟩ | ⟨lb, lo, rfl, hlb, hm⟩
            · have := HLN.out; rw [h0] at this; simp at this; omega
            obtain ⟨x, hx⟩ : ∃ x, ls[kk]? = some x := ⟨ls[kk]'(by have := HLN.out; omega), List.getElem?_eq_getElem _⟩
            have HX : Hid x.Ok := HK.out x (List.mem_of_getElem? hx)
            have RXW : Hid (wr.rangeAt lb (lo + kk * 64) (lfc x)) := range_below (hm kk x hx) C9.out hlb
            have LXW : Hid (lb < wr.heap.size) := Nat.lt_of_lt_of_le hlb C9.out.size
            have TWR : Hid (Tb wr) := TW.out.below C9.out
            obtain ⟨y, hy⟩ : ∃ y, ln x = y := ⟨_, rfl⟩
            have HYO : Hid y.Ok := by rw [← hy]; exact ln_ok HX.out
            have HL1 : Hid (∀ W : World, Tb W → Calls Tryd.prog 24 #[.agg (lfc x).toArray] W fun e w' => e = .returned (.agg (nc y).toArray) ∧ Below W.heap.size W w') := fun W q => by rw [← hy]; exact leafNode_any x.p x.q HX.out.p HX.out.q W q
            have HL2 : Hid (∀ W : World, Calls Tryd.prog 25 #[.agg (lfc x).toArray] W fun e w' => e = .returned (.agg (nc y).toArray) ∧ Below W.heap.size W w') := fun W => by rw [← hy]; exact rLeafNode_any x.p x.q HX.out.p HX.out.q W
            clear hm hlb hx hy
            go_upto_region 18 with (fail)
            refine RU.wp_rgn' [] (tr18f lb lo k cap kk x y) (fun _ => 0) (gΩ wr) (by kernel_rfl) (by kernel_rfl) (show Below wr.heap.size wr _ from (Below.refl _ _).drew) ?_ ?_
            · refine ⟨?_, ?_, ?_, ?_, ?_, ?_, ?_, ?_, ?_, ?_, ?_, trivial⟩
              · refine RU.ObT.pure rfl rfl rfl (fun a V hf hp ev he hc W => ?_)
                have q0 : ev (.tmp 0) = .slice (some ⟨lb, lo, none⟩) k cap := (he (.tmp 0)).trans (hf 0 rfl)
                simp only [List.getElem_toArray, List.getElem_cons_succ, List.getElem_cons_zero, execOp, Option.map_some, Option.map_none]; rw [q0]
                first | (go_simp; done) | (go_simp; rfl) | rfl
              · refine RU.ObT.pure rfl rfl rfl (fun a V hf hp ev he hc W => ?_)
                have q14 : ev (.tmp 14) = .int .i64 (kk : Int) := (he (.tmp 14)).trans (hf 14 rfl)
                simp only [List.getElem_toArray, List.getElem_cons_succ, List.getElem_cons_zero, execOp, Option.map_some, Option.map_none]; rw [q14]
                first | (go_simp; done) | (go_simp; rfl) | rfl
              · refine RU.ObT.pure rfl rfl rfl (fun a V hf hp ev he hc W => ?_)
                have q79 : ev (.tmp 79) = .slice (some ⟨lb, lo, none⟩) k cap := (he (.tmp 79)).trans (hp 0 79 rfl)
                have q80 : ev (.tmp 80) = .int .i64 (kk : Int) := (he (.tmp 80)).trans (hp 1 80 rfl)
                simp only [List.getElem_toArray, List.getElem_cons_succ, List.getElem_cons_zero, execOp, Option.map_some, Option.map_none]; rw [q79, q80]
                have hk9 : (kk : Int) < (k : Int) := by omega
                have hk8 : kk < k := by omega
                first | (go_simp; done) | (go_simp; rfl) | rfl
              · refine RU.ObT.silent rfl (fun a W k0 V hO hf hp hk => ?_)
                have hO' : Below wr.heap.size wr W := hO
                have q81 : a.eval (.tmp 81) = .pointer (some ⟨lb, lo + kk * 64, none⟩) := hp 2 81 rfl
                exact RU.ob_op rfl (RU.wanted_none rfl) (wp_load_mid 41 (.tmp 81) rfl (lb) (lo + kk * 64) q81 (lfc x) _ (range_below RXW.out hO' LXW.out) Tryd.underlying41 rfl (size_lfc HX.out) ⟨rfl, hO⟩)
              · refine RU.ObT.silent rfl (fun a W k0 V hO hf hp hk => ?_)
                have hO' : Below wr.heap.size wr W := hO
                have e82 : a.eval (.tmp 82) = .agg (lfc x).toArray := hp 3 82 rfl
                refine RU.ob_call (g := 24) (args := #[.agg (lfc x).toArray]) rfl (RU.wanted_none rfl) (fun ev he hc => ?_) ((HL1.out W (TWR.out.below hO')).mono ?_)
                · have h82 := (he (.tmp 82)).trans e82
                  have hfn := he (.func 24)
                  simp only [List.getElem_toArray, List.getElem_cons_succ, List.getElem_cons_zero, execOp, Option.map_some, Option.map_none]
                  simp only [resolve, invoke, Sem.run_bind, Sem.run_pure, Result.andThen_ok, List.map_toArray, List.map_cons, List.map_nil, h82, hfn, Act.eval, hc]
                  rfl
                · rintro e' W9 ⟨rfl, hb2⟩
                  exact ⟨_, rfl, rfl, (hO'.trans (hb2.mono hO'.size) : Below wr.heap.size wr W9)⟩
              · refine RU.ObT.pure rfl rfl rfl (fun a V hf hp ev he hc W => ?_)
                have q0 : ev (.tmp 0) = .slice (some ⟨lb, lo, none⟩) k cap := (he (.tmp 0)).trans (hf 0 rfl)
                simp only [List.getElem_toArray, List.getElem_cons_succ, List.getElem_cons_zero, execOp, Option.map_some, Option.map_none]; rw [q0]
                first | (go_simp; done) | (go_simp; rfl) | rfl
              · refine RU.ObT.pure rfl rfl rfl (fun a V hf hp ev he hc W => ?_)
                have q14 : ev (.tmp 14) = .int .i64 (kk : Int) := (he (.tmp 14)).trans (hf 14 rfl)
                simp only [List.getElem_toArray, List.getElem_cons_succ, List.getElem_cons_zero, execOp, Option.map_some, Option.map_none]; rw [q14]
                first | (go_simp; done) | (go_simp; rfl) | rfl
              · refine RU.ObT.pure rfl rfl rfl (fun a V hf hp ev he hc W => ?_)
                have q84 : ev (.tmp 84) = .slice (some ⟨lb, lo, none⟩) k cap := (he (.tmp 84)).trans (hp 5 84 rfl)
                have q85 : ev (.tmp 85) = .int .i64 (kk : Int) := (he (.tmp 85)).trans (hp 6 85 rfl)
                simp only [List.getElem_toArray, List.getElem_cons_succ, List.getElem_cons_zero, execOp, Option.map_some, Option.map_none]; rw [q84, q85]
                have hk9 : (kk : Int) < (k : Int) := by omega
                have hk8 : kk < k := by omega
                first | (go_simp; done) | (go_simp; rfl) | rfl
              · refine RU.ObT.silent rfl (fun a W k0 V hO hf hp hk => ?_)
                have hO' : Below wr.heap.size wr W := hO
                have q86 : a.eval (.tmp 86) = .pointer (some ⟨lb, lo + kk * 64, none⟩) := hp 7 86 rfl
                exact RU.ob_op rfl (RU.wanted_none rfl) (wp_load_mid 41 (.tmp 86) rfl (lb) (lo + kk * 64) q86 (lfc x) _ (range_below RXW.out hO' LXW.out) Tryd.underlying41 rfl (size_lfc HX.out) ⟨rfl, hO⟩)
              · refine RU.ObT.silent rfl (fun a W k0 V hO hf hp hk => ?_)
                have hO' : Below wr.heap.size wr W := hO
                have e87 : a.eval (.tmp 87) = .agg (lfc x).toArray := hp 8 87 rfl
                refine RU.ob_call (g := 25) (args := #[.agg (lfc x).toArray]) rfl (RU.wanted_none rfl) (fun ev he hc => ?_) ((HL2.out W).mono ?_)
                · have h87 := (he (.tmp 87)).trans e87
                  have hfn := he (.func 25)
                  simp only [List.getElem_toArray, List.getElem_cons_succ, List.getElem_cons_zero, execOp, Option.map_some, Option.map_none]
                  simp only [resolve, invoke, Sem.run_bind, Sem.run_pure, Result.andThen_ok, List.map_toArray, List.map_cons, List.map_nil, h87, hfn, Act.eval, hc]
                  rfl
                · rintro e' W9 ⟨rfl, hb2⟩
                  exact ⟨_, rfl, rfl, (hO'.trans (hb2.mono hO'.size) : Below wr.heap.size wr W9)⟩
              · refine RU.ObT.pure rfl rfl rfl (fun a V hf hp ev he hc W => ?_)
                have q83 : ev (.tmp 83) = .agg (nc y).toArray := (he (.tmp 83)).trans (hp 4 83 rfl)
                have q88 : ev (.tmp 88) = .agg (nc y).toArray := (he (.tmp 88)).trans (hp 9 88 rfl)
                simp only [List.getElem_toArray, List.getElem_cons_succ, List.getElem_cons_zero, execOp, Option.map_some, Option.map_none]; rw [q83, q88]
                simp only [Sem.run_bind, eqg_nd, neq_nd HYO.out W, Result.andThen_ok, Sem.run_pure]; rfl
            intro W1 VW1 hOW1
            have BW1 : Hid (Below wr.heap.size wr W1) := hOW1
            clear hOW1
            simp only [RU.lay, RU.val, RU.at', tr18f, Act.put]
            simp only [List.setIfInBounds_toArray, List.set_cons_succ, List.set_cons_zero]
            go_wp2_with fail
            exact ⟨⟨kk + 1, by omega, by go_num, Below.tr' H9.out BW1.out⟩, by simp [intOf]; omega⟩
          · go_wp2_with (first
              | (refine ld 23 (.tmp 7) rfl rfl b7 0 rfl (bv R) _ (range_below RB7.out H9.out LB7.out) Tryd.underlying23 rfl (size_l32 HRL.out) ?_)
              | (refine ld 23 (.tmp 5) rfl rfl b5 0 rfl (bv R) _ (range_below RB5.out H9.out LB5.out) Tryd.underlying23 rfl (size_l32 HRL.out) ?_)
              | (refine ld 23 (.tmp 12) rfl rfl b12 0 rfl (bv R) _ (range_below Rb12.out H9.out Lb12.out) Tryd.underlying23 rfl (size_l32 HRL.out) ?_)
              | (refine wp_bin_run .eql 23 23 (.tmp 91) (.tmp 92) rfl rfl (.agg (bv R).toArray) (.agg (bv R).toArray) (.bool true) rfl rfl (eqg_32 _ _ _ _ _ wr) ((eql_32 HRL.out HRL.out wr).trans (by simp)) ?_)
              | (refine wp_bin_run .eql 23 23 (.tmp 100) (.tmp 101) rfl rfl (.agg (bv R).toArray) (.agg (bv R).toArray) (.bool true) rfl rfl (eqg_32 _ _ _ _ _ wr) ((eql_32 HRL.out HRL.out wr).trans (by simp)) ?_))
            go_ret
            exact ⟨rfl, C9.out⟩
      · obtain ⟨w7, hw7⟩ : ∃ w7, wr = w7 := ⟨_, rfl⟩
        obtain ⟨ms, hms⟩ : ∃ ms, ls.reverse = ms := ⟨_, rfl⟩
        have HMS : Hid (ms.Perm ls) := by rw [← hms]; exact List.reverse_perm ls
        rw [hms] at OR
        rw [hw7] at OR C6 R56 L56 R76 L76
        have N7 : Hid (LS w7 (.slice ad9 k cp9) ms) := OR.out.ls
        have Cw7 : Hid (Below w.heap.size w w7) := C6.out
        have R57 : Hid (w7.rangeAt b5 0 (bv R)) := R56.out
        have L57 : Hid (b5 < w7.heap.size) := L56.out
        have R77 : Hid (w7.rangeAt b7 0 (bv R)) := R76.out
        have L77 : Hid (b7 < w7.heap.size) := L76.out
        go_upto_region 14 with (fail)
        try rw [hw7]
        clear hw7 hms
        obtain ⟨nn, hnn⟩ : ∃ nn, k = nn := ⟨_, rfl⟩
        subst hnn
        have HR3 : Hid (Calls Tryd.prog 22 #[.slice ad9 k cp9] w7 fun e w' => e = .returned (.tuple #[.agg (bv R).toArray, .int .i64 er]) ∧ Below w7.heap.size w7 w') := RootOf_any ms (fun x hx => HK.out x (HMS.out.mem_iff.1 hx)) (by have := HMS.out.length_eq; have := HLN.out; omega) R er (ro_perm HMS.out HK.out HRO.out) _ w7 N7.out (TW.out.below Cw7.out)
        go_upto_region 15 with (first
          | (refine wpList_store_mid rfl 23 (.tmp 12) (.tmp 72) rfl w8.heap.size 0 (bv R).toArray rfl rfl (there_new w8 (by rw [List.size_toArray, bv_length, HRL.out.len, HZS.out])) (by rw [List.size_toArray]; exact size_l32 HRL.out) (bv_one' _) ?_; simp only [List.toList_toArray])
          | (go_at_call 22; refine HR3.out.mono ?_; rintro e w8 ⟨rfl, g1⟩; have Gw8 : Hid (Below w7.heap.size w7 w8) := g1; have Cw8 : Hid (Below w.heap.size w w8) := Below.tr' Cw7.out g1; clear g1))
        obtain ⟨w9, hw9⟩ : ∃ a9, (w8.alloc (.cells Z 23)).setCells w8.heap.size 0 (bv R) = a9 := ⟨_, rfl⟩
        rw [hw9]
        obtain ⟨r1, r2, r3⟩ := laid_row (by rw [bv_length, HRL.out.len, HZS.out]) (by rw [bv_length, HRL.out.len]; omega) hw9
        obtain ⟨b12, hBb12⟩ : ∃ q, w8.heap.size = q := ⟨_, rfl⟩
        rw [hBb12] at r1 r3 ⊢
        have Rb12 : Hid (w9.rangeAt b12 0 (bv R)) := r1
        have Gw9 : Hid (Below w8.heap.size w8 w9) := r2
        have Cw9 : Hid (Below w.heap.size w w9) := Below.tr' Cw8.out r2
        have Lb12 : Hid (b12 < w9.heap.size) := r3
        clear r1 r2 r3 hw9 hBb12
        clear hz
        have RB5 : Hid (w9.rangeAt b5 0 (bv R)) := range_below R57.out (Below.tr' Gw8.out Gw9.out) L57.out
        have LB5 : Hid (b5 < w9.heap.size) := Nat.lt_of_lt_of_le L57.out (Nat.le_trans Gw8.out.size Gw9.out.size)
        have RB7 : Hid (w9.rangeAt b7 0 (bv R)) := range_below R77.out (Below.tr' Gw8.out Gw9.out) L77.out
        have LB7 : Hid (b7 < w9.heap.size) := Nat.lt_of_lt_of_le L77.out (Nat.le_trans Gw8.out.size Gw9.out.size)
        go_wp2_with fail
        go_loopw [76] (fun i wr => ∃ kk : Nat, kk ≤ k ∧ i = .int .i64 (kk : Int) ∧ Below w9.heap.size w9 wr) (fun i _ => k - (intOf i).toNat)
        case atStart => exact ⟨0, Nat.zero_le _, rfl, Below.refl _ _⟩
        case round =>
          obtain ⟨kk, hkl, rfl, h9⟩ := hrel
          have H9 : Hid (Below w9.heap.size w9 wr) := h9
          have C9 : Hid (Below w.heap.size w wr) := Below.tr' Cw9.out H9.out
          clear h9
          by_cases hlt : kk < k
          · rcases HXX.out with ⟨h0, _⟩ | ⟨lb, lo, rfl, hlb, hm⟩
            · have := HLN.out; rw [h0] at this; simp at this; omega
            obtain ⟨x, hx⟩ : ∃ x, ls[kk]? = some x := ⟨ls[kk]'(by have := HLN.out; omega), List.getElem?_eq_getElem _⟩
            have HX : Hid x.Ok := HK.out x (List.mem_of_getElem? hx)
            have RXW : Hid (wr.rangeAt lb (lo + kk * 64) (lfc x)) := range_below (hm kk x hx) C9.out hlb
            have LXW : Hid (lb < wr.heap.size) := Nat.lt_of_lt_of_le hlb C9.out.size
            have TWR : Hid (Tb wr) := TW.out.below C9.out
            obtain ⟨y, hy⟩ : ∃ y, ln x = y := ⟨_, rfl⟩
            have HYO : Hid y.Ok := by rw [← hy]; exact ln_ok HX.out
            have HL1 : Hid (∀ W : World, Tb W → Calls Tryd.prog 24 #[.agg (lfc x).toArray] W fun e w' => e = .returned (.agg (nc y).toArray) ∧ Below W.heap.size W w') := fun W q => by rw [← hy]; exact leafNode_any x.p x.q HX.out.p HX.out.q W q
            have HL2 : Hid (∀ W : World, Calls Tryd.prog 25 #[.agg (lfc x).toArray] W fun e w' => e = .returned (.agg (nc y).toArray) ∧ Below W.heap.size W w') := fun W => by rw [← hy]; exact rLeafNode_any x.p x.q HX.out.p HX.out.q W
            clear hm hlb hx hy
            go_upto_region 18 with (fail)
            refine RU.wp_rgn' [] (tr18f lb lo k cap kk x y) (fun _ => 0) (gΩ wr) (by kernel_rfl) (by kernel_rfl) (show Below wr.heap.size wr _ from (Below.refl _ _).drew) ?_ ?_
            · refine ⟨?_, ?_, ?_, ?_, ?_, ?_, ?_, ?_, ?_, ?_, ?_, trivial⟩
              · refine RU.ObT.pure rfl rfl rfl (fun a V hf hp ev he hc W => ?_)
                have q0 : ev (.tmp 0) = .slice (some ⟨lb, lo, none⟩) k cap := (he (.tmp 0)).trans (hf 0 rfl)
                simp only [List.getElem_toArray, List.getElem_cons_succ, List.getElem_cons_zero, execOp, Option.map_some, Option.map_none]; rw [q0]
                first | (go_simp; done) | (go_simp; rfl) | rfl
              · refine RU.ObT.pure rfl rfl rfl (fun a V hf hp ev he hc W => ?_)
                have q14 : ev (.tmp 14) = .int .i64 (kk : Int) := (he (.tmp 14)).trans (hf 14 rfl)
                simp only [List.getElem_toArray, List.getElem_cons_succ, List.getElem_cons_zero, execOp, Option.map_some, Option.map_none]; rw [q14]
                first | (go_simp; done) | (go_simp; rfl) | rfl
              · refine RU.ObT.pure rfl rfl rfl (fun a V hf hp ev he hc W => ?_)
                have q79 : ev (.tmp 79) = .slice (some ⟨lb, lo, none⟩) k cap := (he (.tmp 79)).trans (hp 0 79 rfl)
                have q80 : ev (.tmp 80) = .int .i64 (kk : Int) := (he (.tmp 80)).trans (hp 1 80 rfl)
                simp only [List.getElem_toArray, List.getElem_cons_succ, List.getElem_cons_zero, execOp, Option.map_some, Option.map_none]; rw [q79, q80]
                have hk9 : (kk : Int) < (k : Int) := by omega
                have hk8 : kk < k := by omega
                first | (go_simp; done) | (go_simp; rfl) | rfl
              · refine RU.ObT.silent rfl (fun a W k0 V hO hf hp hk => ?_)
                have hO' : Below wr.heap.size wr W := hO
                have q81 : a.eval (.tmp 81) = .pointer (some ⟨lb, lo + kk * 64, none⟩) := hp 2 81 rfl
                exact RU.ob_op rfl (RU.wanted_none rfl) (wp_load_mid 41 (.tmp 81) rfl (lb) (lo + kk * 64) q81 (lfc x) _ (range_below RXW.out hO' LXW.out) Tryd.underlying41 rfl (size_lfc HX.out) ⟨rfl, hO⟩)
              · refine RU.ObT.silent rfl (fun a W k0 V hO hf hp hk => ?_)
                have hO' : Below wr.heap.size wr W := hO
                have e82 : a.eval (.tmp 82) = .agg (lfc x).toArray := hp 3 82 rfl
                refine RU.ob_call (g := 24) (args := #[.agg (lfc x).toArray]) rfl (RU.wanted_none rfl) (fun ev he hc => ?_) ((HL1.out W (TWR.out.below hO')).mono ?_)
                · have h82 := (he (.tmp 82)).trans e82
                  have hfn := he (.func 24)
                  simp only [List.getElem_toArray, List.getElem_cons_succ, List.getElem_cons_zero, execOp, Option.map_some, Option.map_none]
                  simp only [resolve, invoke, Sem.run_bind, Sem.run_pure, Result.andThen_ok, List.map_toArray, List.map_cons, List.map_nil, h82, hfn, Act.eval, hc]
                  rfl
                · rintro e' W9 ⟨rfl, hb2⟩
                  exact ⟨_, rfl, rfl, (hO'.trans (hb2.mono hO'.size) : Below wr.heap.size wr W9)⟩
              · refine RU.ObT.pure rfl rfl rfl (fun a V hf hp ev he hc W => ?_)
                have q0 : ev (.tmp 0) = .slice (some ⟨lb, lo, none⟩) k cap := (he (.tmp 0)).trans (hf 0 rfl)
                simp only [List.getElem_toArray, List.getElem_cons_succ, List.getElem_cons_zero, execOp, Option.map_some, Option.map_none]; rw [q0]
                first | (go_simp; done) | (go_simp; rfl) | rfl
              · refine RU.ObT.pure rfl rfl rfl (fun a V hf hp ev he hc W => ?_)
                have q14 : ev (.tmp 14) = .int .i64 (kk : Int) := (he (.tmp 14)).trans (hf 14 rfl)
                simp only [List.getElem_toArray, List.getElem_cons_succ, List.getElem_cons_zero, execOp, Option.map_some, Option.map_none]; rw [q14]
                first | (go_simp; done) | (go_simp; rfl) | rfl
              · refine RU.ObT.pure rfl rfl rfl (fun a V hf hp ev he hc W => ?_)
                have q84 : ev (.tmp 84) = .slice (some ⟨lb, lo, none⟩) k cap := (he (.tmp 84)).trans (hp 5 84 rfl)
                have q85 : ev (.tmp 85) = .int .i64 (kk : Int) := (he (.tmp 85)).trans (hp 6 85 rfl)
                simp only [List.getElem_toArray, List.getElem_cons_succ, List.getElem_cons_zero, execOp, Option.map_some, Option.map_none]; rw [q84, q85]
                have hk9 : (kk : Int) < (k : Int) := by omega
                have hk8 : kk < k := by omega
                first | (go_simp; done) | (go_simp; rfl) | rfl
              · refine RU.ObT.silent rfl (fun a W k0 V hO hf hp hk => ?_)
                have hO' : Below wr.heap.size wr W := hO
                have q86 : a.eval (.tmp 86) = .pointer (some ⟨lb, lo + kk * 64, none⟩) := hp 7 86 rfl
                exact RU.ob_op rfl (RU.wanted_none rfl) (wp_load_mid 41 (.tmp 86) rfl (lb) (lo + kk * 64) q86 (lfc x) _ (range_below RXW.out hO' LXW.out) Tryd.underlying41 rfl (size_lfc HX.out) ⟨rfl, hO⟩)
              · refine RU.ObT.silent rfl (fun a W k0 V hO hf hp hk => ?_)
                have hO' : Below wr.heap.size wr W := hO
                have e87 : a.eval (.tmp 87) = .agg (lfc x).toArray := hp 8 87 rfl
                refine RU.ob_call (g := 25) (args := #[.agg (lfc x).toArray]) rfl (RU.wanted_none rfl) (fun ev he hc => ?_) ((HL2.out W).mono ?_)
                · have h87 := (he (.tmp 87)).trans e87
                  have hfn := he (.func 25)
                  simp only [List.getElem_toArray, List.getElem_cons_succ, List.getElem_cons_zero, execOp, Option.map_some, Option.map_none]
                  simp only [resolve, invoke, Sem.run_bind, Sem.run_pure, Result.andThen_ok, List.map_toArray, List.map_cons, List.map_nil, h87, hfn, Act.eval, hc]
                  rfl
                · rintro e' W9 ⟨rfl, hb2⟩
                  exact ⟨_, rfl, rfl, (hO'.trans (hb2.mono hO'.size) : Below wr.heap.size wr W9)⟩
              · refine RU.ObT.pure rfl rfl rfl (fun a V hf hp ev he hc W => ?_)
                have q83 : ev (.tmp 83) = .agg (nc y).toArray := (he (.tmp 83)).trans (hp 4 83 rfl)
                have q88 : ev (.tmp 88) = .agg (nc y).toArray := (he (.tmp 88)).trans (hp 9 88 rfl)
                simp only [List.getElem_toArray, List.getElem_cons_succ, List.getElem_cons_zero, execOp, Option.map_some, Option.map_none]; rw [q83, q88]
                simp only [Sem.run_bind, eqg_nd, neq_nd HYO.out W, Result.andThen_ok, Sem.run_pure]; rfl
            intro W1 VW1 hOW1
            have BW1 : Hid (Below wr.heap.size wr W1) := hOW1
            clear hOW1
            simp only [RU.lay, RU.val, RU.at', tr18f, Act.put]
            simp only [List.setIfInBounds_toArray, List.set_cons_succ, List.set_cons_zero]
            go_wp2_with fail
            exact ⟨⟨kk + 1, by omega, by go_num, Below.tr' H9.out BW1.out⟩, by simp [intOf]; omega⟩
          · go_wp2_with (first
              | (refine ld 23 (.tmp 7) rfl rfl b7 0 rfl (bv R) _ (range_below RB7.out H9.out LB7.out) Tryd.underlying23 rfl (size_l32 HRL.out) ?_)
              | (refine ld 23 (.tmp 5) rfl rfl b5 0 rfl (bv R) _ (range_below RB5.out H9.out LB5.out) Tryd.underlying23 rfl (size_l32 HRL.out) ?_)
              | (refine ld 23 (.tmp 12) rfl rfl b12 0 rfl (bv R) _ (range_below Rb12.out H9.out Lb12.out) Tryd.underlying23 rfl (size_l32 HRL.out) ?_)
              | (refine wp_bin_run .eql 23 23 (.tmp 91) (.tmp 92) rfl rfl (.agg (bv R).toArray) (.agg (bv R).toArray) (.bool true) rfl rfl (eqg_32 _ _ _ _ _ wr) ((eql_32 HRL.out HRL.out wr).trans (by simp)) ?_)
              | (refine wp_bin_run .eql 23 23 (.tmp 100) (.tmp 101) rfl rfl (.agg (bv R).toArray) (.agg (bv R).toArray) (.bool true) rfl rfl (eqg_32 _ _ _ _ _ wr) ((eql_32 HRL.out HRL.out wr).trans (by simp)) ?_))
            go_ret
            exact ⟨rfl, C9.out⟩
end Go.Proofs.YtoldkelnjjphiaaDoor
