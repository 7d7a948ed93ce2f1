/- SHA-512 as a function of bytes, and that Sum512 answers it. -/
import Derived.Test.YtdegfgncdphepaaDoorShfM
namespace Go.Proofs.YtdegfgncdphepaaDoor.Shf
open Go Go.RowKit
set_option linter.unusedSimpArgs false
set_option linter.unusedVariables false
def w32b (y : Nat → Int) : Int := w32 (y 0) (y 1) (y 2) (y 3)
def W64b (y : Nat → Int) : Int := bits .or .u64 (IntKind.u64.wrap (IntKind.u64.wrap (w32b y) * 2 ^ 32)) (IntKind.u64.wrap (w32b fun i => y (4 + i)))
def Wb (y : Nat → Int) (i : Nat) : Int := (wl ((List.range 16).map fun j => W64b fun t => y (8 * j + t)) 64).getD i 0
def mixB (s : S8) (y : Nat → Int) : S8 := mixS s (Wb y)
theorem W64b_congr {y y' : Nat → Int} (h : ∀ i, i < 8 → y i = y' i) : W64b y = W64b y' := by
  unfold W64b w32b
  simp only [h 0 (by decide), h 1 (by decide), h 2 (by decide), h 3 (by decide), h (4 + 0) (by decide), h (4 + 1) (by decide), h (4 + 2) (by decide), h (4 + 3) (by decide)]
theorem Wb_congr {y y' : Nat → Int} (h : ∀ i, i < 128 → y i = y' i) : Wb y = Wb y' := by
  funext i
  unfold Wb
  have e : ((List.range 16).map fun j => W64b fun t => y (8 * j + t)) = (List.range 16).map fun j => W64b fun t => y' (8 * j + t) := by
    refine List.map_congr_left fun j hj => W64b_congr fun t ht => h _ ?_
    rw [List.mem_range] at hj; omega
  rw [e]
theorem mixB_congr (s : S8) {y y' : Nat → Int} (h : ∀ i, i < 128 → y i = y' i) : mixB s y = mixB s y' := by unfold mixB; rw [Wb_congr h]
theorem W64_b (l : List Value) (o : Nat) : W64 l o = W64b fun i => intL l (o + i) := rfl
theorem mixL_b (s : S8) (l : List Value) (o : Nat) : mixL s l o = mixB s fun i => intL l (o + i) := by
  unfold mixL mixB
  have e : Wd l o = Wb fun i => intL l (o + i) := by
    funext i
    unfold Wd Wb base16
    have e : ((List.range 16).map fun j => W64 l (o + 8 * j)) = (List.range 16).map fun j => W64b fun t => intL l (o + (8 * j + t)) := by
      refine List.map_congr_left fun j _ => ?_
      rw [W64_b]
      refine W64b_congr fun t _ => ?_
      rw [Nat.add_assoc]
    rw [e]
  rw [e]
/-- The blocks of p, one behind the other. -/
def blk (p : Nat → Int) : Nat → S8
  | 0 => s0H
  | j + 1 => mixB (blk p j) fun i => p (128 * j + i)
theorem blk_congr {p p' : Nat → Int} : ∀ j, (∀ i, i < 128 * j → p i = p' i) → blk p j = blk p' j
  | 0, _ => rfl
  | j + 1, h => by
    simp only [blk]
    rw [blk_congr j fun i hi => h i (by omega)]
    exact mixB_congr _ fun i hi => h _ (by omega)
/-- A message of n bytes, with what is laid behind it up to N bytes. -/
def padB (n : Nat) (y : Nat → Int) (N i : Nat) : Int :=
  if i < n then y i else if i = n then 128 else if i < N - 8 then 0 else intL (by64 ((8 * n : Nat) : Int)) (i - (N - 8))
def nb (n : Nat) : Nat := (n + 16) / 128 + 1
/-- SHA-512. -/
def sumB (n : Nat) (y : Nat → Int) : S8 := blk (padB n y (128 * nb n)) (nb n)
theorem padB_congr {n : Nat} {y y' : Nat → Int} (h : ∀ i, i < n → y i = y' i) (N i : Nat) : padB n y N i = padB n y' N i := by
  unfold padB
  split
  · exact h i (by assumption)
  · rfl
theorem sumB_congr {n : Nat} {y y' : Nat → Int} (h : ∀ i, i < n → y i = y' i) : sumB n y = sumB n y' := by
  unfold sumB; exact blk_congr _ fun i _ => padB_congr h _ _
theorem by64_at (x : Int) {j : Nat} (h : j < 8) : (by64 x)[j]? = some (.int .u8 (intL (by64 x) j)) := by
  have : j = 0 ∨ j = 1 ∨ j = 2 ∨ j = 3 ∨ j = 4 ∨ j = 5 ∨ j = 6 ∨ j = 7 := by omega
  rcases this with rfl | rfl | rfl | rfl | rfl | rfl | rfl | rfl <;> rfl
theorem by64_zero {j : Nat} (h : j < 8) : (by64 0)[j]? = some (.int .u8 0) := by
  have : j = 0 ∨ j = 1 ∨ j = 2 ∨ j = 3 ∨ j = 4 ∨ j = 5 ∨ j = 6 ∨ j = 7 := by omega
  rcases this with rfl | rfl | rfl | rfl | rfl | rfl | rfl | rfl <;> rfl
theorem by64_len (x : Int) : (by64 x).length = 8 := rfl
/-- Where the rest of the message begins, after j blocks. -/
def offs (o k : Nat) : Nat → Nat
  | 0 => o
  | j + 1 => nxO (offs o k j) (k - 128 * j - 128)
theorem offs_eq (o k : Nat) : ∀ j, 128 * j < k ∨ j = 0 → offs o k j = o + 128 * j
  | 0, _ => rfl
  | j + 1, h => by
    simp only [offs]
    rw [offs_eq o k j (.inl (by omega))]
    unfold nxO
    rw [if_neg (by omega)]; omega
def stL (l : List Value) (o k : Nat) : Nat → S8
  | 0 => s0H
  | j + 1 => mixL (stL l o k j) l (offs o k j)
theorem stL_eq {l : List Value} {o n k : Nat} (hk : n ≤ k) : ∀ j, 128 * j ≤ n → stL l o k j = blk (fun i => intL l (o + i)) j
  | 0, _ => rfl
  | j + 1, h => by
    simp only [stL, blk]
    rw [stL_eq hk j (by omega), offs_eq o k j (.inl (by omega)), mixL_b]
    exact mixB_congr _ fun i _ => by rw [Nat.add_assoc]
theorem z256_len : z256.length = 256 := List.length_replicate
theorem z256_at {i : Nat} (h : i < 256) : z256[i]? = some (.int .u8 0) := by unfold z256; rw [List.getElem?_replicate, if_pos h]
theorem cpy_eq (l : List Value) (o' n' : Nat) (hn : n' < 128) (hl : o' + n' ≤ l.length) : cpy l o' n' = putL z256 0 ((l.drop o').take n') ∧ (((l.drop o').take n').length = n') := by
  have e : Nat.min n' 256 = n' := Nat.min_eq_left (by omega)
  have hlen : ((l.drop o').take n').length = n' := by simp; omega
  refine ⟨?_, hlen⟩
  unfold cpy
  rw [e]
  exact setL_put _ _ _ (by rw [hlen, z256_len]; omega)
/-- The last bytes. -/
theorem last_at {l : List Value} {o' n' n m e : Nat} {y : Nat → Int} (hn : n' < 128) (hm : n = 128 * m + n') (he : (e = 128 ∧ n' < 112) ∨ (e = 256 ∧ 112 ≤ n')) (hb : ∀ i, i < n' → l[o' + i]? = some (.int .u8 (y (128 * m + i)))) (hl : o' + n' ≤ l.length) (hx : ln n = (n : Int)) :
    (qB (putL (cpy l o' n') n' [.int .u8 128]) e n).length = 256 ∧ ∀ i, i < e → (qB (putL (cpy l o' n') n' [.int .u8 128]) e n)[i]? = some (.int .u8 (padB n y (128 * m + e) (128 * m + i))) := by
  obtain ⟨e1, e2⟩ := cpy_eq l o' n' hn hl
  have c0 : (cpy l o' n').length = 256 := by rw [e1, putL_len _ _ _ (by rw [e2, z256_len]; omega), z256_len]
  have c1 : (putL (cpy l o' n') n' [.int .u8 128]).length = 256 := by rw [putL_len _ _ _ (by rw [c0]; simp; omega), c0]
  have c2 : (qA (putL (cpy l o' n') n' [.int .u8 128]) e).length = 256 := by unfold qA; rw [putL_len _ _ _ (by rw [c1, by64_len]; omega), c1]
  have c3 : (qB (putL (cpy l o' n') n' [.int .u8 128]) e n).length = 256 := by unfold qB; rw [putL_len _ _ _ (by rw [c2, by64_len]; omega), c2]
  refine ⟨c3, fun i hi => ?_⟩
  unfold qB
  by_cases h8 : e - 8 ≤ i
  · obtain ⟨j, rfl⟩ := Nat.exists_eq_add_of_le h8
    rw [putL_get_in _ _ _ _ (by rw [c2, by64_len]; omega) (by rw [by64_len]; omega), by64_at _ (by omega), hx]
    unfold padB
    rw [if_neg (by omega), if_neg (by omega), if_neg (by omega), show 128 * m + (e - 8 + j) - (128 * m + e - 8) = j by omega]
    rfl
  · rw [putL_get_out _ _ _ _ (by rw [c2, by64_len]; omega) (.inl (by omega))]
    unfold qA
    by_cases h16 : e - 16 ≤ i
    · obtain ⟨j, rfl⟩ := Nat.exists_eq_add_of_le h16
      rw [putL_get_in _ _ _ _ (by rw [c1, by64_len]; omega) (by rw [by64_len]; omega), by64_zero (by omega)]
      unfold padB
      rw [if_neg (by omega), if_neg (by omega), if_pos (by omega)]
    · rw [putL_get_out _ _ _ _ (by rw [c1, by64_len]; omega) (.inl (by omega))]
      unfold padB
      by_cases hin : i = n'
      · subst hin
        have := putL_get_in (cpy l o' i) [.int .u8 128] i 0 (by rw [c0]; simp; omega) (by simp)
        rw [Nat.add_zero] at this
        rw [this, if_neg (by omega), if_pos (by omega)]; rfl
      · rw [putL_get_out _ _ _ _ (by rw [c0]; simp; omega) (by simp; omega), e1]
        by_cases hlt : i < n'
        · have := putL_get_in z256 ((l.drop o').take n') 0 i (by rw [e2, z256_len]; omega) (by rw [e2]; exact hlt)
          rw [Nat.zero_add] at this
          rw [this, if_pos (by omega), List.getElem?_take, if_pos hlt, List.getElem?_drop]
          exact hb i hlt
        · rw [putL_get_out _ _ _ _ (by rw [e2, z256_len]; omega) (.inr (by rw [e2]; omega)), z256_at (by omega), if_neg (by omega), if_neg (by omega), if_pos (by omega)]
def Tsm (l : List Value) (o n k : Nat) (qs : List Value) : Prop := qs = [] ∧ n ≤ k ∧ n < 1152921504606846976 ∧ o + n ≤ l.length ∧ ByAt l o n
def Vsm (l : List Value) (o n : Nat) (qs : List Value) : Value := .agg (out64 (sumB n fun i => intL l (o + i))).toArray
def smQf (P : Program) (fn : Func) (l : List Value) (ty : BT) (o n : Nat) : Exit → Act × Mem → Prop := fun e z => (e = .normal ∨ e = .ret) ∧ z.1.defers = [] ∧ ∃ v x, sres P fn z = some v ∧ (flat v = true ∨ v = undef) ∧ z.2 = (M5 ++ [some ⟨l, ty⟩]) ++ x ∧ v = Vsm l o n []
theorem bdT_ok {lo hi cap : Nat} (h1 : lo ≤ hi) (h2 : hi ≤ cap) : ∀ p ∈ bdT lo hi cap, p := by
  intro p hp
  simp only [bdT, List.mem_cons, List.not_mem_nil, or_false] at hp
  rcases hp with rfl | rfl <;> omega
theorem suT_ok {q : List Value} {e n : Nat} {s : S8} (he : e = 128 ∨ e = 256) (hq : q.all flat1 = true) (hql : q.length = 256) (hn : n < 1152921504606846976) (hx : ln n = (n : Int)) (hb : ByAt (qB q e n) 0 128) : ∀ p ∈ suT q e n s, p := by
  have a1 : (qA q e).all flat1 = true := putL_all _ _ _ _ hq rfl
  have a2 : (qB q e n).all flat1 = true := putL_all _ _ _ _ a1 rfl
  have l1 : (qA q e).length = 256 := by unfold qA; rw [putL_len _ _ _ (by rw [hql, by64_len]; omega), hql]
  intro p hp
  unfold suT at hp
  simp only [List.mem_append] at hp
  rcases hp with ((((hp | hp) | hp) | hp) | hp) | hp
  · simp only [List.mem_cons, List.not_mem_nil, or_false] at hp
    subst hp; rw [hx]; omega
  · exact bdT_ok (by omega) (by omega) p hp
  · simp only [List.mem_cons, List.not_mem_nil, or_false] at hp
    rcases hp with rfl | rfl
    · exact hq
    · exact ⟨rfl, by omega, by omega⟩
  · exact bdT_ok (by omega) (by omega) p hp
  · simp only [List.mem_cons, List.not_mem_nil, or_false] at hp
    rcases hp with rfl | rfl
    · exact a1
    · exact ⟨rfl, by omega, by omega⟩
  · simp only [List.mem_cons, List.not_mem_nil, or_false] at hp
    rcases hp with rfl | rfl | rfl
    · omega
    · exact flatR_of a2
    · exact ⟨rfl, by decide, hb⟩
theorem at_by {l : List Value} {o k : Nat} {g : Nat → Int} (h : ∀ i, i < k → l[o + i]? = some (.int .u8 (g i))) : ByAt l o k ∧ ∀ i, i < k → intL l (o + i) = g i := by
  have e : ∀ i, i < k → intL l (o + i) = g i := fun i hi => by unfold intL; rw [h i hi]
  exact ⟨fun i hi => by rw [e i hi]; exact h i hi, e⟩
theorem sm_last {l : List Value} {ty : BT} {o n k : Nat} {m o' n' : Nat} (hl : l.all flatR = true) (hn : n' < 128) (hm : n = 128 * m + n') (hb : ∀ i, i < n' → l[o' + i]? = some (.int .u8 (intL l (o + (128 * m + i))))) (hle : o' + n' ≤ l.length) (hsz : n < 1152921504606846976) :
    SW Tryd.prog gl5 (smE (bodyOf Tryd.f16)) (suhd l ty o n k (blk (fun i => intL l (o + i)) m) (putL (cpy l o' n') (at0 (held n')) [.int .u8 128]) (held n')) (smQf Tryd.prog Tryd.f16 l ty o n) := by
  have hmin : Nat.min n' 256 = n' := Nat.min_eq_left (by omega)
  have eh : held n' = (n' : Int) := by unfold held; rw [hmin]
  have ea : at0 (held n') = n' := by rw [eh, at0_nat]
  have hx : ln n = (n : Int) := by unfold ln; rw [IntKind.wrap_u64]; omega
  obtain ⟨e1, e2⟩ := cpy_eq l o' n' hn hle
  have hqf : (putL (cpy l o' n') n' [.int .u8 128]).all flat1 = true := by
    refine putL_all _ _ _ _ ?_ rfl
    rw [e1]
    refine putL_all _ _ _ _ (by kernel_rfl) ?_
    refine List.all_eq_true.2 fun v hv => ?_
    obtain ⟨i, hi⟩ := List.getElem?_of_mem hv
    rw [List.getElem?_take] at hi
    split at hi
    · rename_i hlt
      rw [List.getElem?_drop, hb i hlt] at hi
      cases hi; rfl
    · simp at hi
  have hql : (putL (cpy l o' n') n' [.int .u8 128]).length = 256 := by
    have c0 : (cpy l o' n').length = 256 := by rw [e1, putL_len _ _ _ (by rw [e2, z256_len]; omega), z256_len]
    rw [putL_len _ _ _ (by rw [c0]; simp; omega), c0]
  rw [ea, eh]
  generalize hq : putL (cpy l o' n') n' [.int .u8 128] = q at *
  by_cases h112 : n' < 112
  · obtain ⟨k1, k2⟩ := last_at (e := 128) (y := fun i => intL l (o + i)) hn hm (.inl ⟨rfl, h112⟩) hb hle hx
    rw [hq] at k1 k2
    obtain ⟨b1, b2⟩ := at_by (o := 0) (fun i hi => by rw [Nat.zero_add]; exact k2 i hi)
    refine SW.runG (N6_ok _) mixed (N6_gl _) 60 (su_f mixL l ty o n k _ q (n' : Int)) ?_ ⟨.inr rfl, su_fd mixL l ty o n k _ q _, _, _, su_fr mixL l ty o n k _ q _, .inl (by kernel_rfl), su_fm mixL l ty o n k _ q _, ?_⟩
    · intro p hp
      simp only [List.mem_append] at hp
      rcases hp with (hp | hp) | hp
      · simp only [List.mem_cons, List.not_mem_nil, or_false] at hp
        subst hp; simp; omega
      · exact suT_ok (.inl rfl) hqf hql hsz hx b1 p hp
      · simp only [List.mem_cons, List.not_mem_nil, or_false] at hp
        subst hp; rfl
    · unfold Vsm sumB
      have en : nb n = m + 1 := by unfold nb; omega
      rw [en]
      refine congrArg (fun s => Value.agg (out64 s).toArray) ?_
      simp only [blk]
      rw [mixL_b]
      have ep : blk (padB n (fun i => intL l (o + i)) (128 * (m + 1))) m = blk (fun i => intL l (o + i)) m := blk_congr m fun i hi => by unfold padB; rw [if_pos (by omega)]
      rw [ep]
      exact mixB_congr _ fun i hi => by rw [b2 i hi]; rfl
  · obtain ⟨k1, k2⟩ := last_at (e := 256) (y := fun i => intL l (o + i)) hn hm (.inr ⟨rfl, by omega⟩) hb hle hx
    rw [hq] at k1 k2
    obtain ⟨b1, b2⟩ := at_by (o := 0) (k := 128) (fun i hi => by rw [Nat.zero_add]; exact k2 i (by omega))
    obtain ⟨b3, b4⟩ := at_by (o := 128) (k := 128) (fun i hi => k2 (128 + i) (by omega))
    refine SW.runG (N6_ok _) mixed (N6_gl _) 60 (su_t mixL l ty o n k _ q (n' : Int)) ?_ ⟨.inr rfl, su_td mixL l ty o n k _ q _, _, _, su_tr mixL l ty o n k _ q _, .inl (by kernel_rfl), su_tm mixL l ty o n k _ q _, ?_⟩
    · intro p hp
      simp only [List.mem_append] at hp
      rcases hp with (hp | hp) | hp
      · simp only [List.mem_cons, List.not_mem_nil, or_false] at hp
        subst hp; simp; omega
      · exact suT_ok (.inr rfl) hqf hql hsz hx b1 p hp
      · simp only [List.mem_cons, List.not_mem_nil, or_false] at hp
        rcases hp with rfl | rfl | rfl | rfl
        · omega
        · exact flatR_of (putL_all _ _ _ _ (putL_all _ _ _ _ hqf rfl) rfl)
        · exact ⟨rfl, by decide, b3⟩
        · rfl
    · unfold Vsm sumB
      have en : nb n = m + 2 := by unfold nb; omega
      rw [en]
      refine congrArg (fun s => Value.agg (out64 s).toArray) ?_
      simp only [blk]
      rw [mixL_b, mixL_b]
      have ep : blk (padB n (fun i => intL l (o + i)) (128 * (m + 2))) m = blk (fun i => intL l (o + i)) m := blk_congr m fun i hi => by unfold padB; rw [if_pos (by omega)]
      rw [ep]
      have e0 : mixB (blk (fun i => intL l (o + i)) m) (fun i => intL (qB q 256 n) (0 + i)) = mixB (blk (fun i => intL l (o + i)) m) (fun i => padB n (fun i => intL l (o + i)) (128 * (m + 2)) (128 * m + i)) := mixB_congr _ fun i hi => by rw [b2 i hi]; rfl
      rw [e0]
      exact mixB_congr _ fun i hi => by rw [b4 i hi, show 128 * (m + 1) + i = 128 * m + (128 + i) by omega]; rfl
end Go.Proofs.YtdegfgncdphepaaDoor.Shf
/- Sum512 of the bytes behind whatever slice that is not nil. -/
namespace Go.Proofs.YtdegfgncdphepaaDoor.Shf
open Go Go.RowKit
set_option linter.unusedSimpArgs false
set_option linter.unusedVariables false
theorem sm_r {l : List Value} {ty : BT} {o n k : Nat} (hl : l.all flatR = true) (hk : n ≤ k) (hb : ByAt l o n) (j : Nat) (hj : j < n / 128) (Q : Exit → Act × Mem → Prop) : SW Tryd.prog gl5 (smB (bodyOf Tryd.f16)) (smhd l ty o n k (stL l o k j) (offs o k j) (n - 128 * j) (k - 128 * j)) (thenS (fun z => (forgetL z.1 smF, z.2) = smhd l ty o n k (stL l o k (j + 1)) (offs o k (j + 1)) (n - 128 * (j + 1)) (k - 128 * (j + 1))) Q) := by
  have h1 : 128 * (j + 1) ≤ n := by omega
  have run := sm_round mixL l ty o n k (stL l o k j) (offs o k j) (n - 128 * j) (k - 128 * j - 128)
  rw [show k - 128 * j - 128 + 128 = k - 128 * j by omega] at run
  obtain ⟨z, hs, he⟩ := proj_some run
  refine SW.runG (N6_ok _) mixed (N6_gl _) 40 hs ?_ (thenS_norm ?_)
  · intro p hp
    unfold smT at hp
    rw [show k - 128 * j - 128 + 128 = k - 128 * j by omega] at hp
    simp only [List.mem_cons, List.not_mem_nil, or_false] at hp
    rcases hp with rfl | rfl | rfl | rfl | rfl
    · simp; omega
    · omega
    · exact hl
    · refine ⟨rfl, by omega, ?_⟩
      rw [offs_eq o k j (.inl (by omega))]
      exact hb.sub (128 * j) 128 (by omega)
    · omega
  · refine Eq.trans he ?_
    rw [show n - 128 * j - 128 = n - 128 * (j + 1) by omega, show k - 128 * j - 128 = k - 128 * (j + 1) by omega]
    have e : nxO (offs o k j) (k - 128 * (j + 1)) = offs o k (j + 1) := by
      simp only [offs]
      rw [show k - 128 * j - 128 = k - 128 * (j + 1) by omega]
    rw [e]; rfl
theorem sm_one {l : List Value} {ty : BT} {o n k : Nat} (hl : l.all flatR = true) (hT : Tsm l o n k []) : SW Tryd.prog gl5 (bodyOf Tryd.f16) (sinit Tryd.f16 [slv ng o n k], M5 ++ [some ⟨l, ty⟩]) (smQf Tryd.prog Tryd.f16 l ty o n) := by
  obtain ⟨_, hk, hsz, hle, hb⟩ := hT
  have hd : n = 128 * (n / 128) + (n - 128 * (n / 128)) := by omega
  rw [sm_code]
  refine SW.preG (N6_ok []) mixed (N6_gl []) rfl (sm_pre mixL l ty o n k) (by simp) (SW.seq (SW.block ?_))
  refine SW.loopK rfl smF (fun j => smhd l ty o n k (stL l o k j) (offs o k j) (n - 128 * j) (k - 128 * j)) 0 (n / 128) (sm_h0 mixL l ty o n k) (by omega) (fun j _ hj => sm_r hl hk hb j hj _) ?_
  refine SW.runG (N6_ok _) mixed (N6_gl _) 40 (sm_exit mixL l ty o n k _ _ _ _) ?_ (thenS_exit (blockS_exit (thenS_norm ?_)))
  · intro p hp
    simp only [List.mem_cons, List.not_mem_nil, or_false] at hp
    subst hp; simp; omega
  have hb' : ∀ i, i < n - 128 * (n / 128) → l[offs o k (n / 128) + i]? = some (.int .u8 (intL l (o + (128 * (n / 128) + i)))) := by
    intro i hi
    rw [offs_eq o k _ (.inl (by omega)), Nat.add_assoc]
    exact hb _ (by omega)
  have hle' : offs o k (n / 128) + (n - 128 * (n / 128)) ≤ l.length := by
    by_cases h0 : 128 * (n / 128) < k
    · rw [offs_eq o k _ (.inl h0)]; omega
    · have : ∀ j, offs o k j ≤ o + 128 * j := by
        intro j
        induction j with
        | zero => exact Nat.le_refl _
        | succ j ih => simp only [offs]; unfold nxO; split <;> omega
      have := this (n / 128)
      omega
  have hmin : Nat.min (n - 128 * (n / 128)) 256 = n - 128 * (n / 128) := Nat.min_eq_left (by omega)
  refine SW.preG (N6_ok [(999999, true)]) mixed (N6_gl _) rfl (sm_mid mixL l ty o n k _ _ _ _) ?_ ?_
  · intro p hp
    unfold smUT held at hp
    rw [hmin] at hp
    simp only [List.mem_cons, List.not_mem_nil, or_false] at hp
    rcases hp with rfl | rfl | rfl
    · rw [z256_len]; omega
    · omega
    · refine ⟨by trivial, ?_⟩
      obtain ⟨e1, e2⟩ := cpy_eq l (offs o k (n / 128)) (n - 128 * (n / 128)) (by omega) hle'
      rw [at0_nat, e1, putL_len _ _ _ (by rw [e2, z256_len]; omega), z256_len]; omega
  refine SW.forgetK suF (sm_h2 mixL l ty o n k (stL l o k (n / 128)) (offs o k (n / 128)) (n - 128 * (n / 128)) (k - 128 * (n / 128))) ?_
  rw [stL_eq hk _ (by omega)]
  exact sm_last hl (by omega) hd hb' hle' hsz
theorem gSum_ok {X : Cx} (hX : X.Ok Tryd.prog) (hc : coversG M5 X.gl = true) : (X.read 16 (gRd M5 Tsm Vsm)).Ok Tryd.prog := by
  refine gRd_ok (gl := gl5) hX M5_flat hc M5_in Tryd.func16 (by kernel_rfl) (show _ = some (bodyOf Tryd.f16) from (by kernel_rfl)) ?_
  rintro l ty o n k qs hl hq hT
  obtain ⟨rfl, hT'⟩ := hT
  exact ⟨by kernel_rfl, sm_one hl ⟨rfl, hT'⟩⟩
end Go.Proofs.YtdegfgncdphepaaDoor.Shf
