/- The reference's parts and Hash; a closure's call: ContainsFunc over 32 bytes. -/
import Derived.Test.YtfnmdeekenjlgaaWrtD
import Derived.Test.YtfnmdeekenjlgaaWirL
import Derived.Laws.CopyOwn
namespace Go.Proofs.Ytfnmdeekenjlgaa
open Go Go.RowKit
set_option linter.unusedSimpArgs false
set_option linter.unusedVariables false

set_option maxHeartbeats 1000000 in
theorem parts_any (xs : List Int) (S : ByteArray) (c : Nat) (m : Int) (hm' : m = 1 + (c : Int)) (v : Value) (w : World) (hb : Byt xs) (hs : Sl w v xs) (hl : xs.length ≤ 140737488355328) (hc1 : 1 ≤ c) (hc2 : c ≤ 100) :
    Calls Try.prog 33 #[v, .string S, .int .i64 m] w fun e w' => (∃ v', e = .returned (.tuple #[v', .bool (hasF xs S c)]) ∧ LL w' v' (decL xs)) ∧ Below w.heap.size w w' := by
  subst hm'
  have HS : Hid (Sl w v xs) := hs
  have HB : Hid (Byt xs) := hb
  clear hb hs
  obtain ⟨E, hE⟩ : ∃ E, decE xs = E := ⟨_, rfl⟩
  have HE : Hid (decE xs = E) := hE
  clear hE
  go_enter Try.func33, Try.ntmps33
  go_wp2_with fail
  refine (rdecode_any xs v w HB.out HS.out hl).mono ?_
  rintro e w1 ⟨v1, us, rfl, h1, h2⟩
  rw [HE.out]
  have H1 : Hid (LL w1 v1 (decL xs)) := h1.ll
  have H2 : Hid (Below w.heap.size w w1) := h2
  have HD : ∀ n, Hid (LL (w1.drewN n) v1 (decL xs) ∧ Below w.heap.size w (w1.drewN n)) := fun n => ⟨H1.out.below (below_drewN (Below.refl _ _) n), below_drewN H2.out n⟩
  clear h1 h2
  by_cases hE0 : E = 0
  · subst hE0
    by_cases hn : (decL xs).length = 1 + c
    · obtain ⟨b, o, cap, hv, hcap, hlt, hm⟩ := H1.out.at' (by omega)
      subst hv
      obtain ⟨u, hc0, hu⟩ := hm 0 (by omega)
      have s1 : ∀ n, (convert 34 9 u).run Try.prog (w1.drewN n) = .ok (.string (strOfNums (mi (decL xs) 0))) (w1.drewN n) := fun n => (hu.below (below_drewN (Below.refl _ _) n) (Nat.le_refl _)).str
      rw [Nat.add_zero] at hc0
      rw [hn] at hcap
      rw [hn] at HD ⊢
      clear hm hu H1
      have HN : Hid ((decL xs).length = 1 + c) := hn
      clear hn
      obtain ⟨T, hT⟩ : ∃ T, strOfNums (mi (decL xs) 0) = T := ⟨_, rfl⟩
      have HTT : Hid (strOfNums (mi (decL xs) 0) = T) := hT
      rw [hT] at s1
      clear hT
      have gc : ((1 + c : Nat) : Int) = 1 + (c : Int) := by omega
      have hF : Hid (hasF xs S c = (T.toList == S.toList)) := by
        show hasF xs S c = _
        unfold hasF; rw [HE.out, HN.out, HTT.out]; simp
      go_wp2
      go_quiet (fail)
      go_wp2
      go_ret2
      rw [hF.out]
      exact ⟨⟨_, rfl, (HD nq).out.1⟩, (HD nq).out.2⟩
    · have hF : Hid (hasF xs S c = false) := by
        show hasF xs S c = false
        unfold hasF; rw [decide_eq_false hn]; simp
      obtain ⟨ad, cap, rfl, hcap, H1'⟩ := H1.out
      clear H1'
      have gn : ¬ ((decL xs).length : Int) = 1 + (c : Int) := by omega
      have gn2 : (((decL xs).length : Int) == 1 + (c : Int)) = false := by simp only [beq_eq_false_iff_ne]; exact gn
      obtain ⟨L, hL⟩ : ∃ L, (decL xs).length = L := ⟨_, rfl⟩
      have HL : Hid ((decL xs).length = L) := hL
      rw [hL] at gn gn2 hcap HD ⊢
      clear hL hn
      go_wp2
      go_quiet (fail)
      go_wp2
      go_ret2
      rw [hF.out]
      exact ⟨⟨_, rfl, (HD nq).out.1⟩, (HD nq).out.2⟩
  · have hF : Hid (hasF xs S c = false) := by
      show hasF xs S c = false
      unfold hasF; rw [HE.out, decide_eq_false hE0]; simp
    have gn2 : (E == (0 : Int)) = false := by simp only [beq_eq_false_iff_ne]; exact hE0
    go_wp2
    go_quiet (fail)
    go_wp2
    go_ret2
    rw [hF.out]
    exact ⟨⟨_, rfl, (HD nq).out.1⟩, (HD nq).out.2⟩
end Go.Proofs.Ytfnmdeekenjlgaa
/- The reference's Hash. -/
namespace Go.Proofs.Ytfnmdeekenjlgaa
open Go Go.RowKit
set_option linter.unusedSimpArgs false
set_option linter.unusedVariables false

theorem size_u8W1 : (Try.prog.info? 5).map (·.size) = some 1 := by kernel_rfl
def z32W : List Value := List.replicate 32 (.int .u8 0)
/-- What 'copy' lays into 32 cells. -/
def into32 (xs : List Int) : List Value := (bv xs).take 32 ++ z32W.drop ((bv xs).take 32).length
theorem into32_length (xs : List Int) : (into32 xs).length = 32 := by
  simp only [into32, List.length_append, List.length_drop, z32W, List.length_replicate, List.length_take]
  omega
theorem into32_same {xs : List Int} (h : xs.length = 32) : into32 xs = bv xs := by
  have : (bv xs).length = 32 := by rw [bv_length, h]
  simp [into32, z32W, List.take_of_length_le, this]
/-- 'copy' into a row of a block known whole; the world behind it a letter. -/
theorem wpList_copyL {P : Program} {w : World} {ops : Array Oper} {rest : List Oper} {o : Oper} {a : Act} {Q : Exit → Act → World → Prop} (hgd : o.guard = none) (d s : Operand) (dT sT : TypeId)
    (ho : o.op = .call { callee := .builtin .copy, args := #[d, s], argTypes := #[dT, sT] }) (elem : TypeId) (hu : P.underlying dT = some (.slice elem)) (hsz : (P.info? elem).map (·.size) = some 1)
    (g off dLen dCap : Nat) (ad : Addr) (sLen sCap : Nat) (hd : a.eval d = .slice (some ⟨g, off, none⟩) dLen dCap) (hs : a.eval s = .slice (some ad) sLen sCap)
    (cur : Array Value) (t : TypeId) (hg : w.heap[g]? = some (.cells cur t (0, 0))) (cs : List Value) (hn : cs.length = Nat.min sLen dLen)
    (hsrc : ∀ j v, cs[j]? = some v → w.cell? (ad.add j) = some v) (hfit : off + cs.length ≤ cur.size) (h1 : ∀ v ∈ cs, v.oneCell' = true)
    (h : ∀ w', w.grownBy w' (some g) → w'.heap.size = w.heap.size → w'.heap[g]? = some (.cells (cur.toList.take off ++ (cs ++ cur.toList.drop (off + cs.length))).toArray t (0, 0)) → wpList P ops Q rest (a.put o.dst (.int .i64 (cs.length : Int))) w') : wpList P ops Q (o :: rest) a w :=
  wpList_copy_own hgd d s dT sT ho elem hu hsz g off dLen dCap ad sLen sCap hd hs cur t hg cs hn hsrc hfit h1
    (h _ ⟨rfl, rfl, rfl, by simp [World.setRow], fun k _ hk => setRow_other w g k _ (fun e => hk (by rw [e]))⟩ (by simp) (setRow_heap w g cur _ t _ hg))
theorem below_setCellsW {B0 : Nat} {a : World} (b : Nat) (hB : B0 ≤ b) : ∀ (vs : List Value) (o : Nat) (w : World), Below B0 a w → Below B0 a (w.setCells b o vs)
  | [], _, _, h => h
  | v :: r, o, w, h => by
    rw [World.setCells]
    exact below_setCellsW b hB r (o + 1) _ (h.setCell hB v)
theorem there_of_rowW1 {w : World} {g : Nat} {cs : Array Value} {t : TypeId} (hg : w.heap[g]? = some (.cells cs t (0, 0))) (o n : Nat) (hn : o + n ≤ cs.size) : w.there g o n := fun j hj =>
  ⟨by rw [cell_of_row w g (o + j) cs t _ hg, Array.getElem?_eq_getElem (by omega)]; rfl, frozen_of_row _ _ _ _ _ hg⟩
theorem into32_one (xs : List Int) : (into32 xs).toArray.all (·.oneCell') = true := by
  rw [List.all_toArray, List.all_eq_true]
  intro u hu
  rcases List.mem_append.1 hu with h | h
  · exact bv_one xs u (List.mem_of_mem_take h)
  · have := List.mem_of_mem_drop h
    rw [z32W, List.mem_replicate] at this
    rw [this.2]; rfl
theorem heap_two (w : World) (X Y : Obj) : ((w.alloc X).alloc Y).heap[w.heap.size]? = some X ∧ ((w.alloc X).alloc Y).heap[w.heap.size + 1]? = some Y ∧ ((w.alloc X).alloc Y).heap.size = w.heap.size + 2 := by
  rw [World.alloc, World.alloc]
  refine ⟨?_, ?_, by simp⟩
  · simp only [Array.getElem?_push, Array.size_push]; rw [if_neg (by omega), if_pos trivial]
  · simp only [Array.getElem?_push, Array.size_push]; rw [if_pos trivial]
theorem hash_after {w W : World} {xs : List Int} {X Y : Array Value} {t : TypeId} {V : List Value} (hX : X.size = 32) (eG : ((w.alloc (.cells X t (0, 0))).alloc (.cells Y t (0, 0))).grownBy W (some (w.heap.size + 1))) (eV : V = into32 xs)
    (e1 : W.heap[w.heap.size + 1]? = some (.cells V.toArray t (0, 0))) :
    Hid (W.there w.heap.size 0 (into32 xs).toArray.size) ∧ Hid (W.rangeAt (w.heap.size + 1) 0 (into32 xs)) ∧ Hid (Below w.heap.size w W) := by
  obtain ⟨h0, h1, h2⟩ := heap_two w (.cells X t (0, 0)) (.cells Y t (0, 0))
  subst eV
  obtain ⟨g1, g2, g3, g4, g5⟩ := eG
  have B : Below w.heap.size w ((w.alloc (.cells X t (0, 0))).alloc (.cells Y t (0, 0))) := ((Below.refl _ _).alloc (Nat.le_refl _) _).alloc (by simp) _
  refine ⟨there_of_rowW1 ((g5 w.heap.size (by omega) (by simp)).trans h0) 0 _ (by rw [hX]; simp [into32_length]), fun j u hu => ?_, B.trans ⟨g1, g2, g3, g4, fun k hk => g5 k (by omega) (by simp; omega)⟩⟩
  rw [Nat.zero_add, cell_of_row W (w.heap.size + 1) j _ t _ e1]
  simpa using hu
set_option maxHeartbeats 1000000 in
theorem rhash_some (xs : List Int) (b o cap : Nat) (w : World) (hs : Sl w (.slice (some ⟨b, o, none⟩) xs.length cap) xs) (h0 : 0 < xs.length) (hl : xs.length ≤ 140737488355328) :
    Calls Try.prog 65 #[.slice (some ⟨b, o, none⟩) xs.length cap] w fun e w' => (e = .returned (.tuple #[.agg (into32 xs).toArray, .bool ((xs.length : Int) == 32)])) ∧ Below w.heap.size w w' := by
  have HS : Hid (Sl w (.slice (some ⟨b, o, none⟩) xs.length cap) xs) := hs
  clear hs
  have hone : Hid ((into32 xs).toArray.all (·.oneCell') = true) := into32_one xs
  have hlen : Hid ((into32 xs).length = 32) := into32_length xs
  go_enter Try.func65, Try.ntmps65
  go_wp2_with (first
    | ((refine wpList_copyL rfl _ _ 34 34 rfl 5 Try.underlying34 size_u8W1 (w.heap.size + 1) 0 32 32 ⟨b, o, none⟩ xs.length cap rfl rfl z32W.toArray 23 ?_ ((bv xs).take 32) ?_ ?_ ?_ ?_ ?_); rotate_left 5; (intro W eG eS e1; obtain ⟨HT, HC, HB⟩ := hash_after rfl eG (xs := xs) (by simp [into32]) e1; clear eG eS e1))
    | (refine wpList_load_mid rfl 23 _ rfl (w.heap.size + 1) 0 rfl (into32 xs) _ HC.out Try.underlying23 rfl (by rw [hlen.out]; kernel_rfl) ?_)
    | (refine wpList_store_mid rfl 23 _ _ rfl w.heap.size 0 (into32 xs).toArray rfl rfl HT.out (by rw [List.size_toArray, hlen.out]; kernel_rfl) hone.out ?_))
  · refine bodyPost_ret (v := .tuple #[.agg (into32 xs).toArray, .bool ((xs.length : Int) == 32)]) ?_ rfl ⟨rfl, below_setCellsW _ (Nat.le_refl _) _ _ _ HB.out⟩
    have q := World.rangeAt_setCells_same W w.heap.size 0 (into32 xs) HT.out
    simp only [results, Try.results65]
    simp [asAddr, run_loadVar_mid _ w.heap.size 0 23 (into32 xs) _ q Try.underlying23 rfl (by rw [hlen.out]; kernel_rfl)]
  · rw [(heap_two w _ _).2.1]; rfl
  · rw [List.length_take, bv_length]; exact Nat.min_comm _ _
  · intro j u hu
    have hj : j < xs.length ∧ j < 32 := by
      have := (List.getElem?_eq_some_iff.1 hu).1
      rw [List.length_take, bv_length] at this; omega
    rw [List.getElem?_take_of_lt hj.2, bv_get xs hj.1] at hu
    obtain ⟨ad, cap', hv, _, h⟩ := HS.out
    simp only [Value.slice.injEq] at hv
    obtain ⟨rfl, -, rfl⟩ := hv
    rcases h with ⟨rfl, _⟩ | ⟨b', o', he, hlt, hm⟩
    · simp at h0
    · simp only [Option.some.injEq, Addr.mk.injEq, and_true] at he
      obtain ⟨rfl, rfl⟩ := he
      have B : ∀ X Y : Obj, Below w.heap.size w ((w.alloc X).alloc Y) := fun X Y => ((Below.refl _ _).alloc (Nat.le_refl _) _).alloc (by simp) _
      rw [Addr.add_mid]
      exact (((B _ _).cell (p := ⟨b, o + j, none⟩) hlt).trans (hm j hj.1)).trans hu
  · simp [z32W]; omega
  · exact fun u hu => bv_one xs u (List.mem_of_mem_take hu)
theorem hash_after0 {w W : World} {X Y : Array Value} {t : TypeId} (eW : (w.alloc (.cells X t (0, 0))).alloc (.cells Y t (0, 0)) = W) (hX : X.size = 32) (hY : Y = z32W.toArray) :
    Hid (W.there w.heap.size 0 z32W.toArray.size) ∧ Hid (W.rangeAt (w.heap.size + 1) 0 z32W) ∧ Hid (Below w.heap.size w W) := by
  obtain ⟨h0, h1, h2⟩ := heap_two w (.cells X t (0, 0)) (.cells Y t (0, 0))
  rw [eW] at h0 h1 h2
  have B : Below w.heap.size w ((w.alloc (.cells X t (0, 0))).alloc (.cells Y t (0, 0))) := ((Below.refl _ _).alloc (Nat.le_refl _) _).alloc (by simp) _
  refine ⟨there_of_rowW1 h0 0 _ (by rw [hX]; simp [z32W]), fun j u hu => ?_, by rw [← eW]; exact B⟩
  subst hY
  rw [Nat.zero_add, cell_of_row W (w.heap.size + 1) j _ t _ h1]
  simpa using hu
set_option maxHeartbeats 1000000 in
theorem rhash_none (ad : Option Addr) (cap : Nat) (w : World) :
    Calls Try.prog 65 #[.slice ad 0 cap] w fun e w' => (e = .returned (.tuple #[.agg z32W.toArray, .bool false])) ∧ Below w.heap.size w w' := by
  have hone : Hid (z32W.toArray.all (·.oneCell') = true) := by show z32W.toArray.all (·.oneCell') = true; simp [z32W, Value.oneCell']
  have hlen : Hid (z32W.length = 32) := by show z32W.length = 32; simp [z32W]
  go_enter Try.func65, Try.ntmps65
  go_wp2_with (first
    | (refine wpList_copy_nothing rfl _ _ 34 34 rfl 5 Try.underlying34 size_u8W1 _ _ _ _ _ _ rfl rfl (by decide) ?_; generalize hW : World.alloc (World.alloc w _) _ = W; obtain ⟨HT, HC, HB⟩ := hash_after0 hW rfl (by rfl); clear hW)
    | (refine wpList_load_mid rfl 23 _ rfl (w.heap.size + 1) 0 rfl z32W _ HC.out Try.underlying23 rfl (by rw [hlen.out]; kernel_rfl) ?_)
    | (refine wpList_store_mid rfl 23 _ _ rfl w.heap.size 0 z32W.toArray rfl rfl HT.out (by rw [List.size_toArray, hlen.out]; kernel_rfl) hone.out ?_))
  refine bodyPost_ret (v := .tuple #[.agg z32W.toArray, .bool false]) ?_ rfl ⟨rfl, below_setCellsW _ (Nat.le_refl _) _ _ _ HB.out⟩
  have q := World.rangeAt_setCells_same W w.heap.size 0 z32W HT.out
  simp only [results, Try.results65]
  simp [asAddr, run_loadVar_mid _ w.heap.size 0 23 z32W _ q Try.underlying23 rfl (by rw [hlen.out]; kernel_rfl)]
/-- The reference's Hash. -/
theorem rhash_any (xs : List Int) (v : Value) (w : World) (hs : Sl w v xs) (hl : xs.length ≤ 140737488355328) :
    Calls Try.prog 65 #[v] w fun e w' => (∃ cs : List Value, e = .returned (.tuple #[.agg cs.toArray, .bool ((xs.length : Int) == 32)]) ∧ (xs.length = 32 → cs = bv xs)) ∧ Below w.heap.size w w' := by
  by_cases h0 : xs.length = 0
  · obtain ⟨ad, cap, rfl, hc, h⟩ := hs
    rw [h0]
    refine (rhash_none ad cap w).mono ?_
    rintro e w' ⟨rfl, hb⟩
    exact ⟨⟨z32W, rfl, fun e => absurd e (by omega)⟩, hb⟩
  · obtain ⟨ad, cap, hv, hc, h⟩ := id hs
    rcases h with ⟨rfl, _⟩ | ⟨b, o, rfl, hlt, hm⟩
    · simp at h0
    · subst hv
      refine (rhash_some xs b o cap w hs (by omega) hl).mono ?_
      rintro e w' ⟨rfl, hb⟩
      exact ⟨⟨into32 xs, rfl, fun e => into32_same e⟩, hb⟩
end Go.Proofs.Ytfnmdeekenjlgaa
/- slices.ContainsFunc over readUnsigned's function: is there one that hasn't 32 bytes. -/
namespace Go.Proofs.Ytfnmdeekenjlgaa
open Go Go.RowKit
set_option linter.unusedSimpArgs false
set_option linter.unusedVariables false

def not32 (xss : List (List Int)) : Bool := xss.any (fun x => !((x.length : Int) == 32))
theorem not32_no {xss : List (List Int)} (h : ∀ i, i < xss.length → (mi xss i).length = 32) : not32 xss = false := by
  unfold not32
  rw [List.any_eq_false]
  intro x hx
  obtain ⟨i, hi, rfl⟩ := List.mem_iff_getElem.1 hx
  have := h i hi
  simp only [mi, List.getD_eq_getElem?_getD, List.getElem?_eq_getElem hi, Option.getD_some] at this
  simp [this]
theorem not32_yes {xss : List (List Int)} {i : Nat} (hi : i < xss.length) (h : (mi xss i).length ≠ 32) : not32 xss = true := by
  unfold not32
  rw [List.any_eq_true]
  refine ⟨xss[i], List.getElem_mem _, ?_⟩
  simp only [mi, List.getD_eq_getElem?_getD, List.getElem?_eq_getElem hi, Option.getD_some] at h
  simp
  omega
theorem un32_any (xs : List Int) (v : Value) (w : World) (hs : Sl w v xs) (hl : xs.length ≤ 140737488355328) :
    Calls Try.prog 72 #[v] w fun e w' => e = .returned (.bool (!((xs.length : Int) == 32))) ∧ w' = w := by
  obtain ⟨ad, cap, rfl, -, -⟩ := hs
  go_enter Try.func72, Try.ntmps72
  go_wp2
  go_ret
  exact ⟨rfl, rfl⟩
set_option maxHeartbeats 1000000 in
theorem index_any (xss : List (List Int)) (v : Value) (w : World) (h1 : LL w v xss) (hn : xss.length ≤ 140737488355328) (hL : ∀ i, (mi xss i).length ≤ 140737488355328) :
    Calls Try.prog 75 #[v, .func (.func 72) #[] #[]] w fun e w' => (∃ z : Int, e = .returned (.int .i64 z) ∧ -1 ≤ z ∧ z ≤ 140737488355328 ∧ not32 xss = decide (0 ≤ z)) ∧ w' = w := by
  obtain ⟨ad, cap, rfl, -, hx⟩ := h1
  have HX : Hid _ := hx
  have HL : Hid (∀ i, (mi xss i).length ≤ 140737488355328) := hL
  clear hx hL
  go_enter Try.func75, Try.ntmps75
  go_wp2
  go_loopw [8] (fun i wr => ∃ k : Nat, k ≤ xss.length ∧ i = .int .i64 (k : Int) ∧ wr = w ∧ Hid (∀ j, j < k → (mi xss j).length = 32)) (fun i _ => xss.length - (intOf i).toNat)
  case atStart => exact ⟨0, Nat.zero_le _, rfl, rfl, fun j hj => absurd hj (by omega)⟩
  case round =>
    obtain ⟨k, hk, rfl, rfl, HA⟩ := hrel
    by_cases hlt : k < xss.length
    · rcases HX.out with ⟨rfl, _⟩ | ⟨b, o, rfl, hlb, hm⟩
      · simp at hlt
      · obtain ⟨u, hc0, hu⟩ := hm k hlt
        have HU : Hid (Sl wr u (mi xss k)) := hu
        have gk : (k : Int) < (xss.length : Int) := by omega
        clear hm hu
        go_wp2_with fail
        refine (un32_any (mi xss k) u wr HU.out (HL.out k)).mono ?_
        rintro e w' ⟨rfl, rfl⟩
        by_cases h32 : (mi xss k).length = 32
        · rw [h32]
          have H3 : Hid ((mi xss k).length = 32) := h32
          clear h32
          go_wp2
          refine ⟨⟨k + 1, hlt, by go_num, by simp, fun j hj => ?_⟩, by simp [intOf]; omega⟩
          by_cases e : j = k
          · subst e; exact H3.out
          · exact HA.out j (by omega)
        · have e1 : (!(((mi xss k).length : Int) == 32)) = true := by simp; omega
          have H3 : Hid (not32 xss = true) := not32_yes hlt h32
          rw [e1]
          clear e1 h32
          go_wp2
          go_ret
          exact ⟨⟨(k : Int), rfl, by omega, by omega, by rw [H3.out]; simp⟩, rfl⟩
    · have H3 : Hid (not32 xss = false) := not32_no (fun i hi => HA.out i (by omega))
      go_wp2
      go_ret
      exact ⟨⟨-1, rfl, by omega, by omega, by rw [H3.out]; rfl⟩, rfl⟩
set_option maxHeartbeats 1000000 in
theorem contains_any (xss : List (List Int)) (v : Value) (w : World) (h1 : LL w v xss) (hn : xss.length ≤ 140737488355328) (hL : ∀ i, (mi xss i).length ≤ 140737488355328) :
    Calls Try.prog 71 #[v, .func (.func 72) #[] #[]] w fun e w' => e = .returned (.bool (not32 xss)) ∧ w' = w := by
  have H : Hid (Calls Try.prog 75 #[v, .func (.func 72) #[] #[]] w fun e w' => (∃ z : Int, e = .returned (.int .i64 z) ∧ -1 ≤ z ∧ z ≤ 140737488355328 ∧ not32 xss = decide (0 ≤ z)) ∧ w' = w) := index_any xss v w h1 hn hL
  clear h1 hL
  go_enter Try.func71, Try.ntmps71
  go_wp2_with fail
  refine H.out.mono ?_
  rintro e w' ⟨⟨z, rfl, h1, h2, h3⟩, rfl⟩
  have H3 : Hid (not32 xss = decide (0 ≤ z)) := h3
  clear h3
  go_wp2
  go_ret
  exact ⟨by rw [H3.out]; rfl, rfl⟩
end Go.Proofs.Ytfnmdeekenjlgaa
