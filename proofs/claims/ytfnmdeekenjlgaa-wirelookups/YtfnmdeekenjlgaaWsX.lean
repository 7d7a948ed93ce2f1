/- The reference: SameHashes, SameOpening, SameLookup, for one thing on both sides. -/
import Derived.Test.YtfnmdeekenjlgaaWsW
namespace Go.Proofs.Ytfnmdeekenjlgaa
open Go Go.RowKit
set_option linter.unusedSimpArgs false
set_option linter.unusedVariables false
set_option maxRecDepth 100000

theorem neq_32 {x : List Int} (h : L32 x) (w : World) : (binOp .neq 23 (.agg (bv x).toArray) (.agg (bv x).toArray)).run Try.prog w = .ok (.bool false) w := by
  have h9 : (Op.equalIn Op.maxDepth 23 (.agg (bv x).toArray) (.agg (bv x).toArray)).run Try.prog w = .ok true w := by
    have := eq_32 h h w
    rw [decide_eq_true rfl] at this; exact this
  simp [binOp, h9, Op.equal, go_sem]
def sh6f (b o b2 o2 len cap cap2 k : Nat) (x : List Int) : Nat → Value
  | 0 => .slice (some ⟨b, o, none⟩) len cap
  | 1 => .int .i64 (k : Int)
  | 2 => .pointer (some ⟨b, o + k * 32, none⟩)
  | 3 => .agg (bv x).toArray
  | 4 => .slice (some ⟨b2, o2, none⟩) len cap2
  | 5 => .int .i64 (k : Int)
  | 6 => .pointer (some ⟨b2, o2 + k * 32, none⟩)
  | 7 => .agg (bv x).toArray
  | 8 => .bool false
  | _ => undef
set_option maxHeartbeats 4000000 in
theorem sameHashes_any (l : List (List Int)) (hk : ∀ x ∈ l, L32 x) (hlen : l.length ≤ 140737488355328) (v u : Value) (w : World) (hv : YS w v l) (hu : YS w u l) :
    Calls Try.prog 38 #[v, u] w fun e w' => e = .returned (.bool true) ∧ Below w.heap.size w w' := by
  obtain ⟨ad, cap, rfl, hc, hx⟩ := hv
  obtain ⟨ad2, cap2, rfl, hc2, hx2⟩ := hu
  have HXX : Hid (l = [] ∧ (ad = none → cap = 0) ∨ ∃ b o, ad = some ⟨b, o, none⟩ ∧ b < w.heap.size ∧ ∀ (i : Nat) (x : List Int), l[i]? = some x → w.rangeAt b (o + i * 32) (bv x)) := hx
  have HX2 : Hid (l = [] ∧ (ad2 = none → cap2 = 0) ∨ ∃ b o, ad2 = some ⟨b, o, none⟩ ∧ b < w.heap.size ∧ ∀ (i : Nat) (x : List Int), l[i]? = some x → w.rangeAt b (o + i * 32) (bv x)) := hx2
  have HK : Hid (∀ x ∈ l, L32 x) := hk
  obtain ⟨len, hln⟩ : ∃ len, l.length = len := ⟨_, rfl⟩
  have HLN : Hid (l.length = len) := hln
  rw [hln] at hlen ⊢
  clear hx hx2 hk hc hc2 hln
  go_enter Try.func38, Try.ntmps38
  go_wp2_with fail
  go_loopw [13] (fun i wr => ∃ k : Nat, k ≤ len ∧ i = .int .i64 (k : Int) ∧ Below w.heap.size w wr) (fun i _ => len - (intOf i).toNat)
  case atStart => exact ⟨0, Nat.zero_le _, rfl, Below.refl _ _⟩
  case round =>
    obtain ⟨k, hkl, rfl, h4⟩ := hrel
    have H4 : Hid (Below w.heap.size w wr) := h4
    clear h4
    by_cases hlt : k < len
    · rcases HXX.out with ⟨h0, _⟩ | ⟨b, o, rfl, hlb, hm⟩
      · have := HLN.out; rw [h0] at this; simp at this; omega
      rcases HX2.out with ⟨h0, _⟩ | ⟨b2, o2, rfl, hlb2, hm2⟩
      · have := HLN.out; rw [h0] at this; simp at this; omega
      · obtain ⟨x, hx⟩ : ∃ x, l[k]? = some x := ⟨l[k]'(by have := HLN.out; omega), List.getElem?_eq_getElem _⟩
        have HX : Hid (L32 x) := HK.out x (List.mem_of_getElem? hx)
        have RA : Hid (wr.rangeAt b (o + k * 32) (bv x)) := range_below (hm k x hx) H4.out hlb
        have LA : Hid (b < wr.heap.size) := Nat.lt_of_lt_of_le hlb H4.out.size
        have RB : Hid (wr.rangeAt b2 (o2 + k * 32) (bv x)) := range_below (hm2 k x hx) H4.out hlb2
        have LB : Hid (b2 < wr.heap.size) := Nat.lt_of_lt_of_le hlb2 H4.out.size
        clear hm hlb hm2 hlb2 hx
        go_upto_region 6 with (fail)
        refine RU.wp_rgn' [] (sh6f b o b2 o2 len cap cap2 k x) (fun _ => 0) (gΩ wr) (by kernel_rfl) (by kernel_rfl) (show Below wr.heap.size wr _ from (Below.refl _ _).drew) ?_ ?_
        · refine ⟨?_, ?_, ?_, ?_, ?_, ?_, ?_, ?_, ?_, trivial⟩
          · refine RU.ObT.pure rfl rfl rfl (fun a V hf hp ev he hc W => ?_)
            have q0 : ev (.tmp 0) = .slice (some ⟨b, o, none⟩) len cap := (he (.tmp 0)).trans (hf 0 rfl)
            simp only [List.getElem_toArray, List.getElem_cons_succ, List.getElem_cons_zero, execOp, Option.map_some, Option.map_none]; rw [q0]
            first | (go_simp; done) | (go_simp; rfl) | rfl
          · refine RU.ObT.pure rfl rfl rfl (fun a V hf hp ev he hc W => ?_)
            have q5 : ev (.tmp 5) = .int .i64 (k : Int) := (he (.tmp 5)).trans (hf 5 rfl)
            simp only [List.getElem_toArray, List.getElem_cons_succ, List.getElem_cons_zero, execOp, Option.map_some, Option.map_none]; rw [q5]
            first | (go_simp; done) | (go_simp; rfl) | rfl
          · refine RU.ObT.pure rfl rfl rfl (fun a V hf hp ev he hc W => ?_)
            have q16 : ev (.tmp 16) = .slice (some ⟨b, o, none⟩) len cap := (he (.tmp 16)).trans (hp 0 16 rfl)
            have q17 : ev (.tmp 17) = .int .i64 (k : Int) := (he (.tmp 17)).trans (hp 1 17 rfl)
            simp only [List.getElem_toArray, List.getElem_cons_succ, List.getElem_cons_zero, execOp, Option.map_some, Option.map_none]; rw [q16, q17]
            have hk9 : (k : Int) < (len : Int) := by omega
            first | (go_simp; done) | (go_simp; rfl) | rfl
          · refine RU.ObT.silent rfl (fun a W k0 V hO hf hp hk => ?_)
            have hO' : Below wr.heap.size wr W := hO
            have q18 : a.eval (.tmp 18) = .pointer (some ⟨b, o + k * 32, none⟩) := hp 2 18 rfl
            exact RU.ob_op rfl (RU.wanted_none rfl) (wp_load_mid 23 (.tmp 18) rfl (b) (o + k * 32) q18 (bv x) _ (range_below RA.out hO' LA.out) Try.underlying23 rfl (size_l32 HX.out) ⟨rfl, hO⟩)
          · refine RU.ObT.pure rfl rfl rfl (fun a V hf hp ev he hc W => ?_)
            have q1 : ev (.tmp 1) = .slice (some ⟨b2, o2, none⟩) len cap2 := (he (.tmp 1)).trans (hf 1 rfl)
            simp only [List.getElem_toArray, List.getElem_cons_succ, List.getElem_cons_zero, execOp, Option.map_some, Option.map_none]; rw [q1]
            first | (go_simp; done) | (go_simp; rfl) | rfl
          · refine RU.ObT.pure rfl rfl rfl (fun a V hf hp ev he hc W => ?_)
            have q5 : ev (.tmp 5) = .int .i64 (k : Int) := (he (.tmp 5)).trans (hf 5 rfl)
            simp only [List.getElem_toArray, List.getElem_cons_succ, List.getElem_cons_zero, execOp, Option.map_some, Option.map_none]; rw [q5]
            first | (go_simp; done) | (go_simp; rfl) | rfl
          · refine RU.ObT.pure rfl rfl rfl (fun a V hf hp ev he hc W => ?_)
            have q20 : ev (.tmp 20) = .slice (some ⟨b2, o2, none⟩) len cap2 := (he (.tmp 20)).trans (hp 4 20 rfl)
            have q21 : ev (.tmp 21) = .int .i64 (k : Int) := (he (.tmp 21)).trans (hp 5 21 rfl)
            simp only [List.getElem_toArray, List.getElem_cons_succ, List.getElem_cons_zero, execOp, Option.map_some, Option.map_none]; rw [q20, q21]
            have hk9 : (k : Int) < (len : Int) := by omega
            first | (go_simp; done) | (go_simp; rfl) | rfl
          · refine RU.ObT.silent rfl (fun a W k0 V hO hf hp hk => ?_)
            have hO' : Below wr.heap.size wr W := hO
            have q22 : a.eval (.tmp 22) = .pointer (some ⟨b2, o2 + k * 32, none⟩) := hp 6 22 rfl
            exact RU.ob_op rfl (RU.wanted_none rfl) (wp_load_mid 23 (.tmp 22) rfl (b2) (o2 + k * 32) q22 (bv x) _ (range_below RB.out hO' LB.out) Try.underlying23 rfl (size_l32 HX.out) ⟨rfl, hO⟩)
          · refine RU.ObT.pure rfl rfl rfl (fun a V hf hp ev he hc W => ?_)
            have q19 : ev (.tmp 19) = .agg (bv x).toArray := (he (.tmp 19)).trans (hp 3 19 rfl)
            have q23 : ev (.tmp 23) = .agg (bv x).toArray := (he (.tmp 23)).trans (hp 7 23 rfl)
            simp only [List.getElem_toArray, List.getElem_cons_succ, List.getElem_cons_zero, execOp, Option.map_some, Option.map_none]; rw [q19, q23]
            simp only [Sem.run_bind, eqg_32, neq_32 HX.out W, Result.andThen_ok, Sem.run_pure]; rfl
        intro W1 VW1 hOW1
        have BW1 : Hid (Below wr.heap.size wr W1) := hOW1
        clear hOW1
        simp only [RU.lay, RU.val, RU.at', sh6f, Act.put]
        simp only [List.setIfInBounds_toArray, List.set_cons_succ, List.set_cons_zero]
        go_wp2_with fail
        exact ⟨⟨k + 1, by omega, by go_num, H4.out.trans (BW1.out.mono H4.out.size)⟩, by simp [intOf]; omega⟩
    · go_wp2_with fail
      go_ret
      exact ⟨rfl, H4.out⟩
/-- An opening's cells. -/
def oc (p : List Int) (nv : Value) : List Value := bv p ++ [nv]
theorem oc_length {p : List Int} (h : p.length = 80) (nv : Value) : (oc p nv).length = 81 := by simp [oc, bv_length, h]
theorem opn_size : (Try.prog.info? 31).map (·.size) = some 81 := by kernel_rfl
theorem size_opn {A : List Value} (hA : A.length = 81) : (Try.prog.info? 31).map (·.size) = some A.toArray.size := by rw [List.size_toArray, hA]; exact opn_size
theorem size80 : (Try.prog.info? 28).map (·.size) = some 80 := by kernel_rfl
theorem eq_80 {x : List Int} (hx : x.length = 80) (w : World) : (Op.equalIn 10000 28 (.agg (bv x).toArray) (.agg (bv x).toArray)).run Try.prog w = .ok true w :=
  same_arr (d := 9997) Try.underlying28 (bv x).toArray (fun i hi => ⟨gi x i, by rw [List.getElem?_toArray]; exact bv_get x (by omega)⟩) w
theorem eqg_80 (op : BinOp) (x y : Operand) (a b : Array Value) (w : World) : (eqGuard op 28 x y (.agg a) (.agg b)).run Try.prog w = .ok () w := by
  have h : Try.prog.eqGuardType Try.prog.depth 28 = false := by kernel_rfl
  unfold eqGuard
  cases op <;> first | (simp [h, Result.andThen]; done) | kernel_rfl
theorem eql_80 {x : List Int} (hx : x.length = 80) (w : World) : (binOp .eql 28 (.agg (bv x).toArray) (.agg (bv x).toArray)).run Try.prog w = .ok (.bool true) w := by
  have h : (Op.equalIn Op.maxDepth 28 (.agg (bv x).toArray) (.agg (bv x).toArray)).run Try.prog w = .ok true w := eq_80 hx w
  simp [binOp, h, Op.equal, go_sem]
theorem oc_at {w : World} {b : Nat} {p : List Int} {nv : Value} (hp : p.length = 80) (h : ∀ j, w.cell? ⟨b, j, none⟩ = (oc p nv)[j]?) : w.rangeAt b 0 (bv p) ∧ w.cell? ⟨b, 80, none⟩ = some nv := by
  have hl : (bv p).length = 80 := by rw [bv_length, hp]
  refine ⟨fun j u hu => ?_, ?_⟩
  · rw [Nat.zero_add, h]; unfold oc; rw [List.getElem?_append_left (List.getElem?_eq_some_iff.1 hu).1]; exact hu
  · rw [h]; unfold oc; rw [List.getElem?_append_right (by omega), hl]; rfl
set_option maxHeartbeats 4000000 in
theorem rsameOpening_any (p : List Int) (hp : p.length = 80) (ns : List Nd) (hk : ∀ x ∈ ns, x.Ok) (hl : ns.length ≤ 140737488355328) (v u : Value) (w : World) (hv : NS w v ns) (hu : NS w u ns) :
    Calls Try.prog 39 #[.agg (oc p v).toArray, .agg (oc p u).toArray] w fun e w' => e = .returned (.bool true) ∧ Below w.heap.size w w' := by
  have HK : Hid ((∀ x ∈ ns, x.Ok) ∧ ns.length ≤ 140737488355328) := ⟨hk, hl⟩
  have HV : Hid (NS w v ns ∧ NS w u ns) := ⟨hv, hu⟩
  have HP : Hid (p.length = 80) := hp
  have hsz : (oc p v).toArray.size = 81 := by rw [List.size_toArray]; exact oc_length hp v
  have hsz2 : (oc p u).toArray.size = 81 := by rw [List.size_toArray]; exact oc_length hp u
  obtain ⟨A, hA⟩ : ∃ A, (oc p v).toArray = A := ⟨_, rfl⟩
  obtain ⟨A2, hA2⟩ : ∃ A, (oc p u).toArray = A := ⟨_, rfl⟩
  have HA : Hid (∀ j, A[j]? = (oc p v)[j]?) := fun j => by rw [← hA, List.getElem?_toArray]
  have HA2 : Hid (∀ j, A2[j]? = (oc p u)[j]?) := fun j => by rw [← hA2, List.getElem?_toArray]
  rw [hA] at hsz ⊢
  rw [hA2] at hsz2 ⊢
  clear hA hA2 hk hl hv hu hp
  go_enter Try.func39, Try.ntmps39
  go_upto_region 1 with (fail)
  obtain ⟨w1, hw1⟩ : ∃ w1, (w.alloc (Obj.cells A 31)).alloc (Obj.cells A2 31) = w1 := ⟨_, rfl⟩
  rw [hw1]
  have b1 : Below w.heap.size w w1 := by rw [← hw1]; exact ((Below.refl _ w).alloc (Nat.le_refl _) _).alloc (by simp) _
  have c1 : ∀ j, w1.cell? ⟨w.heap.size, j, none⟩ = (oc p v)[j]? := fun j => by
    rw [← hw1]
    exact (((Below.refl _ (w.alloc (Obj.cells A 31))).alloc (Nat.le_refl _) _).cell (p := ⟨w.heap.size, j, none⟩) (by simp)).trans ((cell_alloc w A _ _ j).trans (HA.out j))
  have c2 : ∀ j, w1.cell? ⟨w.heap.size + 1, j, none⟩ = (oc p u)[j]? := fun j => by
    rw [← hw1]
    have := cell_alloc (w.alloc (Obj.cells A 31)) A2 31 (0, 0) j
    rw [World.size_alloc] at this
    exact this.trans (HA2.out j)
  have BE : Hid (Below w.heap.size w w1) := b1
  have HV1 : Hid (NS w1 v ns ∧ NS w1 u ns) := ⟨HV.out.1.below b1, HV.out.2.below b1⟩
  obtain ⟨r1, k1⟩ := oc_at HP.out c1
  obtain ⟨r2, k2⟩ := oc_at HP.out c2
  have R1 : Hid (w1.rangeAt w.heap.size 0 (bv p) ∧ w1.rangeAt (w.heap.size + 1) 0 (bv p)) := ⟨r1, r2⟩
  obtain ⟨h, hh⟩ : ∃ h, w.heap.size = h := ⟨_, rfl⟩
  have HH : Hid (w.heap.size = h) := hh
  rw [hh] at R1 k1 k2 ⊢
  clear b1 c1 c2 r1 r2 hw1 hh
  go_wp2_with (first
    | (refine load_g rfl 28 (.tmp 5) rfl h 0 rfl (bv p) _ R1.out.1 Try.underlying28 rfl (by rw [bv_length, HP.out]; exact size80) ?_)
    | (refine load_g rfl 28 (.tmp 7) rfl (h + 1) 0 rfl (bv p) _ R1.out.2 Try.underlying28 rfl (by rw [bv_length, HP.out]; exact size80) ?_)
    | (refine wp_eq_run 28 _ (.tmp 6) (.tmp 8) rfl rfl (.agg (bv p).toArray) (.agg (bv p).toArray) (.bool true) rfl rfl (eqg_80 _ _ _ _ _ _) (eql_80 HP.out _) ?_))
  refine (sameNodes_any ns HK.out.1 HK.out.2 v u w1 HV1.out.1 HV1.out.2).mono ?_
  rintro e w2 ⟨rfl, g⟩
  have B2 : Hid (Below w.heap.size w w2) := BE.out.trans (g.mono BE.out.size)
  clear g
  go_wp2_with fail
  go_ret
  exact ⟨rfl, B2.out⟩
end Go.Proofs.Ytfnmdeekenjlgaa
