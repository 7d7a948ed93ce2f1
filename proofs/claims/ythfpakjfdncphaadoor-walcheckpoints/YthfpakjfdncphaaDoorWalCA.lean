/- What a frame's laying leaves under a fuse, and what a crash makes of it: mathematics alone. -/
import Derived.Test.YthfpakjfdncphaaDoorWalPD
import Derived.Test.YthfpakjfdncphaaDoorWalW
namespace Go.Proofs.YthfpakjfdncphaaDoor
open Go Go.RowKit
set_option linter.unusedSimpArgs false
set_option linter.unusedVariables false
set_option maxRecDepth 100000

theorem wrs_length : ∀ (xs : List (List Int)) (a : Nat), (wrs a xs).length = xs.length
  | [], _ => rfl
  | x :: r, a => by simp [wrs, wrs_length r (a + 1)]
theorem wrs_mem : ∀ (xs : List (List Int)) (a : Nat) (q : Nat × List Int), q ∈ wrs a xs → a ≤ q.1 ∧ q.1 < a + xs.length ∧ q.2 ∈ xs
  | [], _, _, h => by cases h
  | x :: r, a, q, h => by
    rcases List.mem_cons.1 h with rfl | h
    · exact ⟨Nat.le_refl _, by simp, List.mem_cons_self⟩
    · obtain ⟨h1, h2, h3⟩ := wrs_mem r (a + 1) q h
      exact ⟨by omega, by simp; omega, List.mem_cons_of_mem _ h3⟩
/-- store under a fuse. -/
theorem sto_fz : ∀ (xs : List (List Int)) (s : Dk) (a n : Nat), s.dn = false → s.fu = false → s.fz = some n → a + xs.length ≤ s.n →
    sto s (a : Int) xs = if xs.length < n then (0, { s with st := look s.st (s.wt ++ wrs a xs), wt := [], fz := some (n - (xs.length + 1)) }) else (9, { s with wt := s.wt ++ (wrs a xs).take n, dn := true, fz := some 0 })
  | [], s, a, n, hd', hf, hz, ha => by
    simp only [sto, wrs, List.append_nil, List.length_nil, List.take_nil]
    unfold syE syS Dk.lost Dk.burn
    cases n with
    | zero =>
      rw [hd', hz, if_neg (by omega)]
      simp only [Bool.false_or, BEq.rfl]
    | succ k =>
      rw [hd', hz, if_pos (by omega)]
      have : ((some (k + 1) : Option Nat) == some 0) = false := rfl
      simp only [Bool.false_or, this]
      congr 2
  | x :: r, s, a, n, hd', hf, hz, ha => by
    simp only [List.length_cons] at ha
    have hb : hasB s.n (a : Int) = true := by unfold hasB; simp; omega
    cases n with
    | zero =>
      have hl : s.lost = true := by unfold Dk.lost; rw [hd', hz]; rfl
      have h1 : wrE s (a : Int) = 9 := by unfold wrE; rw [hb, hl]
      have h2 : wrS s (a : Int) x = { s with dn := true, fz := some 0 } := by
        unfold wrS; rw [hb, hl]
        unfold Dk.burn; rw [hd', hz]
      simp only [sto]
      rw [h1, if_neg (by decide), h2, if_neg (by omega), List.take_zero, List.append_nil]
    | succ k =>
      have hl : s.lost = false := by unfold Dk.lost; rw [hd', hz]; rfl
      have h1 : wrE s (a : Int) = 0 := by unfold wrE; rw [hb, hl, hf]
      have h2 : wrS s (a : Int) x = { s with fz := some k, wt := s.wt ++ [(a, x)] } := by
        unfold wrS; rw [hb, hl, hf]
        unfold Dk.burn; rw [hd', hz]
        simp only [Int.toNat_natCast]
        rw [hf]
      simp only [sto]
      rw [h1, if_pos rfl, h2, show (a : Int) + 1 = ((a + 1 : Nat) : Int) by omega, sto_fz r { s with fz := some k, wt := s.wt ++ [(a, x)] } (a + 1) k hd' hf rfl (by show a + 1 + r.length ≤ s.n; omega)]
      by_cases hk : r.length < k
      · rw [if_pos hk, if_pos (by simp; omega)]
        simp only [wrs, List.append_assoc, List.singleton_append, List.length_cons]
        congr 3
        omega
      · rw [if_neg hk, if_neg (by simp; omega)]
        simp only [wrs, List.append_assoc, List.singleton_append, List.take_succ_cons]
/-- What laying a frame under a fuse leaves: all of it, or one of three stages. -/
inductive LayF (s : Dk) (a : Nat) (p : List Int) : Int → Dk → Prop where
  | ok (m : Nat) : LayF s a p 0 { s with st := layS s.st a p, wt := [], fz := some m }
  | first (wt : List (Nat × List Int)) : wt.length ≤ 1 → (∀ q ∈ wt, q = (a, z64)) → LayF s a p 9 { s with wt := wt, dn := true, fz := some 0 }
  | mid (st : Nat → List Int) (wt : List (Nat × List Int)) : (∀ j, st j = if j = a then z64 else s.st j) → (∀ q ∈ wt, a < q.1 ∧ q.1 ≤ a + fl p.length) → LayF s a p 9 { s with st := st, wt := wt, dn := true, fz := some 0 }
  | last (st : Nat → List Int) (wt : List (Nat × List Int)) : (∀ j, st j = if j = a then z64 else layS s.st a p j) → wt.length ≤ 1 → (∀ q ∈ wt, q = (a, hd p)) → LayF s a p 9 { s with st := st, wt := wt, dn := true, fz := some 0 }
theorem look_laid (st : Nat → List Int) (a : Nat) (p : List Int) (j : Nat) : look (look st (wrs a [z64])) (wrs (a + 1) (cuts p (nsec p.length) ++ [z64])) j = if j = a then z64 else layS st a p j := by
  have hfl : fl p.length = nsec p.length + 1 := by unfold fl nsec; omega
  have hl : (cuts p (nsec p.length) ++ [z64]).length = nsec p.length + 1 := by rw [List.length_append, cuts_length]; rfl
  rw [look_wrs, look_wrs, hl]
  unfold layS
  rw [hfl]
  by_cases h1 : j = a
  · subst h1
    rw [if_neg (by omega), if_pos ⟨Nat.le_refl _, by simp⟩, if_pos rfl, Nat.sub_self]; rfl
  · rw [if_neg h1, if_neg h1]
    by_cases h2 : j = a + (nsec p.length + 1)
    · rw [if_pos ⟨by omega, by omega⟩, if_pos h2]
      unfold mi
      rw [List.getD_eq_getElem?_getD, List.getElem?_append_right (by rw [cuts_length]; omega), cuts_length, show j - (a + 1) - nsec p.length = 0 by omega]; rfl
    · rw [if_neg h2]
      by_cases h3 : a < j ∧ j < a + (nsec p.length + 1)
      · rw [if_pos ⟨by omega, by omega⟩, if_pos h3, mi_app_lo (by rw [cuts_length]; omega), cuts_mi p (by omega)]
        congr 1
      · rw [if_neg (by omega), if_neg (by simp; omega), if_neg h3]
theorem lay_fz {s : Dk} {n : Nat} (hd' : s.dn = false) (hf : s.fu = false) (hz : s.fz = some n) (hw : s.wt = []) (a : Nat) (p : List Int) (ha : a + fl p.length < s.n) : LayF s a p (lay s (a : Int) p).1 (lay s (a : Int) p).2 := by
  have hfl : fl p.length = nsec p.length + 1 := by unfold fl nsec; omega
  have hl : (cuts p (nsec p.length) ++ [z64]).length = nsec p.length + 1 := by rw [List.length_append, cuts_length]; rfl
  have e1 := sto_fz [z64] s a n hd' hf hz (by simp; omega)
  unfold lay lay1
  rw [e1]
  by_cases c1 : [z64].length < n
  · rw [if_pos c1]
    simp only [if_true]
    have e2 := sto_fz (cuts p (nsec p.length) ++ [z64]) { s with st := look s.st (s.wt ++ wrs a [z64]), wt := [], fz := some (n - ([z64].length + 1)) } (a + 1) (n - ([z64].length + 1)) hd' hf rfl (by show a + 1 + _ ≤ s.n; rw [hl]; omega)
    rw [show (a : Int) + 1 = ((a + 1 : Nat) : Int) by omega, e2]
    unfold lay2
    by_cases c2 : (cuts p (nsec p.length) ++ [z64]).length < n - ([z64].length + 1)
    · rw [if_pos c2]
      simp only [if_true]
      have e3 := sto_fz [hd p] { s with st := look (look s.st (s.wt ++ wrs a [z64])) ([] ++ wrs (a + 1) (cuts p (nsec p.length) ++ [z64])), wt := [], fz := some (n - ([z64].length + 1) - ((cuts p (nsec p.length) ++ [z64]).length + 1)) } a _ hd' hf rfl (by show a + 1 ≤ s.n; omega)
      rw [e3]
      by_cases c3 : [hd p].length < n - ([z64].length + 1) - ((cuts p (nsec p.length) ++ [z64]).length + 1)
      · rw [if_pos c3]
        have hst : look (look (look s.st (s.wt ++ wrs a [z64])) ([] ++ wrs (a + 1) (cuts p (nsec p.length) ++ [z64]))) ([] ++ wrs a [hd p]) = layS s.st a p := by
          funext j
          simp only [List.nil_append, hw]
          rw [look_wrs, look_laid]
          by_cases h1 : j = a
          · subst h1
            rw [if_pos ⟨Nat.le_refl _, by simp⟩, Nat.sub_self]
            unfold layS; rw [if_pos rfl]; rfl
          · rw [if_neg (by simp; omega), if_neg h1]
        show LayF s a p 0 { s with st := look (look (look s.st (s.wt ++ wrs a [z64])) ([] ++ wrs (a + 1) (cuts p (nsec p.length) ++ [z64]))) ([] ++ wrs a [hd p]), wt := [], fz := some _ }
        rw [hst]
        exact .ok _
      · rw [if_neg c3]
        refine .last _ _ (fun j => ?_) (by simp [wrs]; omega) (fun q hq => ?_)
        · simp only [List.nil_append, hw]; exact look_laid s.st a p j
        · have := List.mem_of_mem_take (by simpa using hq)
          simpa [wrs] using this
    · rw [if_neg c2]
      simp only [show ¬ (9 : Int) = 0 by decide, if_false]
      refine .mid _ _ (fun j => ?_) (fun q hq => ?_)
      · simp only [hw, List.nil_append]
        rw [look_wrs]
        by_cases h1 : j = a
        · subst h1
          rw [if_pos ⟨Nat.le_refl _, by simp⟩, if_pos rfl, Nat.sub_self]; rfl
        · rw [if_neg (by simp; omega), if_neg h1]
      · obtain ⟨m1, m2, -⟩ := wrs_mem _ _ q (List.mem_of_mem_take (by simpa using hq))
        rw [hl] at m2
        omega
  · rw [if_neg c1]
    simp only [show ¬ (9 : Int) = 0 by decide, if_false]
    refine .first _ (by rw [hw]; simp [wrs]; omega) (fun q hq => ?_)
    rw [hw] at hq
    have := List.mem_of_mem_take (by simpa using hq)
    simpa [wrs] using this
/-- A sector on which no write waits is as it was. -/
theorem rsK_not (st : Nat → List Int) (wt : List (Nat × List Int)) (cs : List Int) {j : Nat} (h : ∀ q ∈ wt, q.1 ≠ j) : ∀ k, rsK st wt cs k j = st j
  | 0 => rfl
  | k + 1 => by
    rw [rsK]
    cases hp : wt[k]? with
    | none => exact rsK_not st wt cs h k
    | some q =>
      have hq := h q (List.mem_of_getElem? hp)
      simp only [upd]
      rw [if_neg (fun e => hq e.symm)]
      exact rsK_not st wt cs h k
/-- A sector on which one write waits. -/
theorem rsK_one (st : Nat → List Int) (wt : List (Nat × List Int)) (cs : List Int) (a : Nat) (x : List Int) (hl : wt.length ≤ 1) (h : ∀ q ∈ wt, q = (a, x)) : rsK st wt cs wt.length a = st a ∨ ∃ c, rsK st wt cs wt.length a = tear c (st a) x := by
  match wt, hl, h with
  | [], _, _ => exact .inl rfl
  | [q], _, h =>
    have hq := h q (List.mem_singleton.2 rfl)
    subst hq
    refine .inr ⟨gi cs 0, ?_⟩
    show upd st a (tear (gi cs 0) (st a) x) a = _
    simp [upd]
end Go.Proofs.YthfpakjfdncphaaDoor
/- The calls of a log that lies on a disk which is up. -/
namespace Go.Proofs.YthfpakjfdncphaaDoor
open Go Go.RowKit
set_option linter.unusedSimpArgs false
set_option linter.unusedVariables false
set_option maxRecDepth 100000

/-- A full disk takes no frame. -/
theorem lay_full {s : Dk} (hd' : s.dn = false) (hz : s.fz = none) (hf : s.fu = true) {a : Nat} (ha : a < s.n) (p : List Int) : lay s (a : Int) p = (5, s) := by
  have hb : hasB s.n (a : Int) = true := by unfold hasB; simp; omega
  have hl : s.lost = false := by unfold Dk.lost; rw [hd', hz]; rfl
  have hbu : s.burn = s := by unfold Dk.burn; rw [hd', hz]
  have e : sto s (a : Int) [z64] = (5, s) := by
    unfold sto
    have h1 : wrE s (a : Int) = 5 := by unfold wrE; rw [hb, hl, hf]
    have h2 : wrS s (a : Int) z64 = s := by unfold wrS; rw [hb, hl, hf]; exact hbu
    rw [h1, h2, if_neg (by decide)]
  unfold lay
  rw [e]
  unfold lay1
  rfl
/-- How much room records take. -/
def szr : List (List Int) → Nat
  | [] => 0
  | m :: r => m.length + 64 + szr r
theorem szr_app : ∀ a b : List (List Int), szr (a ++ b) = szr a + szr b
  | [], b => by simp [szr]
  | m :: r, b => by simp only [List.cons_append, szr, szr_app r b]; omega
theorem szr_js' (xs : List (List Int)) : (jx xs).length + 56 * xs.length = szr xs := by
  induction xs with
  | nil => rfl
  | cons m r ih => simp only [jx, List.length_append, be_length, szr, List.length_cons]; omega
theorem js_szr (xs : List (List Int)) : JS xs + 56 * xs.length = 8 + szr xs := by
  have h1 : (JN 0 xs).length = JS xs := jn_length _ xs _
  rw [JN_jx, List.length_append, be_length] at h1
  have := szr_js' xs
  omega
theorem Frs.sz {s : Dk} (hS : Sby s) {t : Nat} : ∀ {ns : List (List Int)} {e e' : Nat}, Frs s t e ns e' → 64 * e' ≤ 64 * e + szr ns + 63 * ns.length
  | [], e, e', h => by cases h; simp [szr]
  | P :: ns, e, e', h => by
    have h1 := Frs.sz hS h.2
    have h2 : 64 * fl P.length ≤ P.length + 127 := by unfold fl; omega
    simp only [szr, List.length_cons]
    omega
theorem szr_len (xs : List (List Int)) : 64 * xs.length ≤ szr xs := by
  induction xs with
  | nil => simp [szr]
  | cons m r ih => simp only [szr, List.length_cons]; omega
def roomy (rs : List (List Int)) (n : Nat) : Prop := szr rs ≤ (n / 2 - 8) * 32
theorem room_append {s : Dk} {l : Lo} {q : Nat → Option (Nat × List (List Int))} (h : LI s l q) (hS : Sby s) (h0 : l.t ≠ 0) {p : List Int} (hr : roomy (l.rs ++ [p]) s.n) : l.en + fl p.length < hfT s.n l.t := by
  obtain ⟨xs, ns, h1, h2, h3, h4, h5⟩ := h.p h0
  have n64 := h.n64
  have b1 := Frs.sz hS h3
  have b2 : (JN (l.t : Int) xs).length = JS xs := jn_length _ xs _
  have b3 := js_szr xs
  have b4 : 64 * fl (JS xs) ≤ JS xs + 127 := by unfold fl; omega
  have b5 : 64 * fl p.length ≤ p.length + 127 := by unfold fl; omega
  have b6 := szr_len ns
  have b7 := szr_len xs
  unfold roomy at hr
  rw [h2, szr_app, szr_app] at hr
  have b8 : szr [p] = p.length + 64 := rfl
  have b9 : hfT s.n l.t = hfF s.n l.t + s.n / 2 := rfl
  rw [b2] at b1
  omega
theorem room_begin {s : Dk} {t : Nat} {xss : List (List Int)} (n64 : 64 ≤ s.n) (hr : roomy xss s.n) : hfF s.n t + fl (JS xss) < hfT s.n t := by
  have b3 := js_szr xss
  have b4 : 64 * fl (JS xss) ≤ JS xss + 127 := by unfold fl; omega
  have b9 : hfT s.n t = hfF s.n t + s.n / 2 := rfl
  unfold roomy at hr
  omega
/-- A log newer than B on a disk that is up, synced and without a fuse. -/
structure Lg (S : Nat → Prop) (B : Nat) (w0 w : World) (g : Nat) (s : Dk) (lg : Nat) (l : Lo) (q : Nat → Option (Nat × List (List Int))) : Prop where
  wl : WL S w g s lg l
  lo : ∀ b, S b → B ≤ b
  bel : Below B w0 w
  bs : B ≤ w.heap.size
  li : LI s l q
  dn : s.dn = false
  fz : s.fz = none
  wt : s.wt = []
/-- What a call has changed. -/
structure Nx (S : Nat → Prop) (w : World) (S' : Nat → Prop) (w' : World) : Prop where
  c : Chg S w w'
  d : ∀ b, S' b → S b ∨ w.heap.size ≤ b
theorem Nx.refl (S : Nat → Prop) (w : World) : Nx S w S w := ⟨Chg.refl _ _, fun b h => .inl h⟩
theorem Nx.trans {S S1 S2 : Nat → Prop} {w w1 w2 : World} (h : Nx S w S1 w1) (k : Nx S1 w1 S2 w2) : Nx S w S2 w2 :=
  ⟨h.c.trans' k.c (fun b x => h.d b x), fun b x => (k.d b x).elim (h.d b) (fun y => .inr (Nat.le_trans h.c.size y))⟩
theorem Nx.below {S : Nat → Prop} {w w' : World} (hb : Below w.heap.size w w') : Nx S w S w' := ⟨chg_of_below hb, fun b h => .inl h⟩
theorem Lg.below {S : Nat → Prop} {B : Nat} {w0 w w' : World} {g : Nat} {s : Dk} {lg : Nat} {l : Lo} {q : Nat → Option (Nat × List (List Int))} (h : Lg S B w0 w g s lg l q) (hb : Below w.heap.size w w') : Lg S B w0 w' g s lg l q :=
  ⟨h.wl.below hb, h.lo, h.bel.trans (hb.mono h.bs), Nat.le_trans h.bs hb.size, h.li, h.dn, h.fz, h.wt⟩
theorem Lg.sby {S : Nat → Prop} {B : Nat} {w0 w : World} {g : Nat} {s : Dk} {lg : Nat} {l : Lo} {q : Nat → Option (Nat × List (List Int))} (h : Lg S B w0 w g s lg l q) : Sby s ∧ s.n ≤ 65536 ∧ l.g = g := by
  obtain ⟨F, H, rv, us, hx⟩ := h.wl
  exact ⟨hx.by', hx.pd.n2, hx.dk⟩
theorem Lg.aft {S : Nat → Prop} {B : Nat} {w0 w w' : World} {g : Nat} {s s' : Dk} {lg : Nat} {l l' : Lo} {q q' : Nat → Option (Nat × List (List Int))} (h : Lg S B w0 w g s lg l q) (ha : AftL S w w' g s' lg l') (hi : LI s' l' q') (e1 : s'.dn = false) (e2 : s'.fz = none) (e3 : s'.wt = []) :
    ∃ S', Lg S' B w0 w' g s' lg l' q' ∧ Nx S w S' w' := by
  obtain ⟨S', h1, h2, h3⟩ := ha
  exact ⟨S', ⟨h1, fun b x => (h3 b x).elim (h.lo b) (fun y => Nat.le_trans h.bs y), h.bel.trans (h2.below h.bs h.lo), Nat.le_trans h.bs h2.size, hi, e1, e2, e3⟩, ⟨h2, h3⟩⟩
/-- What Append has done. -/
inductive Apd (z : Int) (s : Dk) (l l' : Lo) (p : List Int) : Prop where
  | ok : z = 0 → l'.rs = l.rs ++ [p] → s.fu = false → p.length ≤ 65536 → Apd z s l l' p
  | full : z = 5 → l'.rs = l.rs → p.length ≤ 65536 → (s.fu = true ∨ ¬ roomy (l.rs ++ [p]) s.n) → Apd z s l l' p
  | large : z = 6 → l'.rs = l.rs → 65536 < p.length → Apd z s l l' p
theorem append_lg {S : Nat → Prop} {B : Nat} {w0 w : World} {g : Nat} {s : Dk} {lg : Nat} {l : Lo} {q : Nat → Option (Nat × List (List Int))} (h : Lg S B w0 w g s lg l q) (ht : l.t + 1 < 18446744073709551616) (p : List Int) (v : Value) (hv : Sq w v p) (hb : Byt p) (hF : ∀ b, slB v = some b → b < w.heap.size ∧ ¬ S b) :
    Calls Tryd.prog 12 #[.pointer (some ⟨lg, 0, none⟩), v] w fun e w' => ∃ z s' l' q' S', e = .returned (.int .i64 z) ∧ Lg S' B w0 w' g s' lg l' q' ∧ Nx S w S' w' ∧ s'.n = s.n ∧ s'.fu = s.fu ∧ l'.t ≤ l.t + 1 ∧ Apd z s l l' p := by
  obtain ⟨hS, hn, hg⟩ := h.sby
  by_cases hp : p.length ≤ 65536
  · by_cases h0 : l.t = 0
    · refine (append_first h.wl h.li.lo h.dn h.li.e0 h.li.e1 h0 p v hv.sl hb hp (by rw [h.wt]; simp)).mono ?_
      rintro e w' ⟨rfl, ha⟩
      have hR : Rok [p] := fun m hm => by have : m = p := by simpa using hm
                                          rw [this]; exact ⟨hb, hp⟩
      have hrs := (h.li.z h0).2.2.1
      by_cases hf : hfF s.n (l.t + 1) + fl (JS [p]) < hfT s.n (l.t + 1)
      · by_cases hu : s.fu = true
        · have hl := lay_full h.dn h.fz hu (a := hfF s.n (l.t + 1)) (by rcases hf_cases s.n (l.t + 1) with ⟨_, c, d⟩ | ⟨_, c, d⟩ <;> rw [d] at hf <;> omega) (JN ((l.t + 1 : Nat) : Int) [p])
          have hE : bgR s l [p] = (5, s, l) := by
            unfold bgR
            rw [if_pos hf, hl, if_neg (show ¬ (5 : Int) = 0 by decide)]
            show (5, s, ({ l with lo := decide ((5 : Int) = 9) } : Lo)) = _
            rw [show decide ((5 : Int) = 9) = l.lo by rw [h.li.lo]; rfl]
          rw [hE] at ha ⊢
          obtain ⟨S', a1, a2⟩ := h.aft ha h.li h.dn h.fz h.wt
          exact ⟨5, s, l, q, S', rfl, a1, a2, rfl, rfl, by omega, .full rfl rfl hp (.inl hu)⟩
        · have hu' : s.fu = false := by simpa using hu
          obtain ⟨b1, b2, b3, b4, b5, b6⟩ := h.li.begin hS ⟨h.dn, h.fz, hu'⟩ h.wt hf hR ht (by have := js_rok hR; simp at this; omega)
          rw [b1]
          obtain ⟨S', a1, a2⟩ := h.aft ha b6 (by rw [b2]; exact h.dn) (by rw [b2]; exact h.fz) (by rw [b2])
          exact ⟨0, _, _, _, S', rfl, a1, a2, by rw [b2], by rw [b2], by omega, .ok rfl (by rw [b3, hrs]; rfl) hu' hp⟩
      · have hE : bgR s l [p] = (5, s, l) := by unfold bgR; rw [if_neg hf]
        rw [hE] at ha ⊢
        obtain ⟨S', a1, a2⟩ := h.aft ha h.li h.dn h.fz h.wt
        exact ⟨5, s, l, q, S', rfl, a1, a2, rfl, rfl, by omega, .full rfl rfl hp (.inr (fun hr => hf (room_begin h.li.n64 (by rw [hrs] at hr; exact hr))))⟩
    · obtain ⟨f1, f2, f3⟩ := h.li.front hS h0
      obtain ⟨xs, ns, c1, c2, c3, c4, c5⟩ := h.li.p h0
      have hT : hfT s.n l.t ≤ 65536 := by rcases hf_cases s.n l.t with ⟨_, _, c⟩ | ⟨_, _, c⟩ <;> omega
      refine (append_more h.wl h.li.lo h.dn h.li.e0 h.li.e1 h0 f3 (by omega) (by have := h.li.rsl hS hn; omega) c4 p v hv hb hF hp (by rw [h.wt]; simp)).mono ?_
      rintro e w' ⟨rfl, ha⟩
      by_cases hf : l.en + fl p.length < hfT s.n l.t
      · by_cases hu : s.fu = true
        · have hl := lay_full h.dn h.fz hu (a := l.en) (by rcases hf_cases s.n l.t with ⟨_, c, d⟩ | ⟨_, c, d⟩ <;> rw [d] at hf <;> omega) p
          have hE : apR s l p = (5, s, l) := by
            unfold apR
            rw [if_pos hf, hl, if_neg (show ¬ (5 : Int) = 0 by decide)]
            show (5, s, ({ l with lo := decide ((5 : Int) = 9) } : Lo)) = _
            rw [show decide ((5 : Int) = 9) = l.lo by rw [h.li.lo]; rfl]
          rw [hE] at ha ⊢
          obtain ⟨S', a1, a2⟩ := h.aft ha h.li h.dn h.fz h.wt
          exact ⟨5, s, l, q, S', rfl, a1, a2, rfl, rfl, by omega, .full rfl rfl hp (.inl hu)⟩
        · have hu' : s.fu = false := by simpa using hu
          obtain ⟨b1, b2⟩ := h.li.append hS ⟨h.dn, h.fz, hu'⟩ h.wt h0 hf hb hp
          rw [b1] at ha ⊢
          obtain ⟨S', a1, a2⟩ := h.aft ha b2 h.dn h.fz rfl
          exact ⟨0, _, _, _, S', rfl, a1, a2, rfl, rfl, by show l.t ≤ _; omega, .ok rfl rfl hu' hp⟩
      · have hE : apR s l p = (5, s, l) := by unfold apR; rw [if_neg hf]
        rw [hE] at ha ⊢
        obtain ⟨S', a1, a2⟩ := h.aft ha h.li h.dn h.fz h.wt
        exact ⟨5, s, l, q, S', rfl, a1, a2, rfl, rfl, by omega, .full rfl rfl hp (.inr (fun hr => hf (room_append h.li hS h0 hr)))⟩
  · refine (append_large h.wl h.li.lo p v hv.sl (by omega)).mono ?_
    rintro e w' ⟨rfl, hb⟩
    exact ⟨6, s, l, q, S, rfl, h.below hb, Nx.below hb, rfl, rfl, by omega, .large rfl rfl (by omega)⟩
theorem refresh_lg {S : Nat → Prop} {B : Nat} {w0 w : World} {g : Nat} {s : Dk} {lg : Nat} {l : Lo} {q : Nat → Option (Nat × List (List Int))} (h : Lg S B w0 w g s lg l q) :
    Calls Tryd.prog 24 #[.pointer (some ⟨lg, 0, none⟩)] w fun e w' => e = .returned (.tuple #[]) ∧ AftL S w w' g s lg l := by
  obtain ⟨hS, hn, hg⟩ := h.sby
  by_cases h0 : l.t = 0
  · exact (refresh_zero h.wl h.li.lo h.dn h.li.e0 h.li.e1 h0).mono fun e w' ⟨x, y⟩ => ⟨x, S, h.wl.below y, chg_of_below y, fun b hb => .inl hb⟩
  · obtain ⟨f1, f2, f3⟩ := h.li.front hS h0
    obtain ⟨xs, ns, c1, c2, c3, c4, c5⟩ := h.li.p h0
    have hT : hfT s.n l.t ≤ 65536 := by rcases hf_cases s.n l.t with ⟨_, _, c⟩ | ⟨_, _, c⟩ <;> omega
    refine (refresh_any h.wl h.li.lo h.dn h.li.e0 h.li.e1 h0 f3 (by omega) (by have := h.li.rsl hS hn; omega)).mono ?_
    rintro e w2 ⟨rfl, ms, e', hf1, hf2, ha⟩
    obtain ⟨hns, hee⟩ := Frs.one (ns := []) (e := l.en) (e1 := l.en) rfl c4 hf1 hf2
    subst hee
    subst hns
    have hll : ({ l with rs := l.rs ++ [], en := l.en } : Lo) = l := by rw [List.append_nil]
    rw [hll] at ha
    exact ⟨rfl, ha⟩
theorem records_lg {S : Nat → Prop} {B : Nat} {w0 w : World} {g : Nat} {s : Dk} {lg : Nat} {l : Lo} {q : Nat → Option (Nat × List (List Int))} (h : Lg S B w0 w g s lg l q) :
    Calls Tryd.prog 17 #[.pointer (some ⟨lg, 0, none⟩)] w fun e w' => ∃ v S' us B', e = .returned v ∧ Lg S' B w0 w' g s lg l q ∧ Nx S w S' w' ∧ OL B' w' v us l.rs := by
  obtain ⟨hS, hn, hg⟩ := h.sby
  refine (records_core (by have := h.li.rsl hS hn; omega) (fun m hm => by have := (h.li.rok m hm).2; omega) (refresh_lg h)).mono ?_
  rintro e w' ⟨v, rfl, S', w1, us, h1, h2, h3, h4, h5⟩
  have hl : Lg S' B w0 w1 g s lg l q := ⟨h1, fun b x => (h3 b x).elim (h.lo b) (fun y => Nat.le_trans h.bs y), h.bel.trans (h2.below h.bs h.lo), Nat.le_trans h.bs h2.size, h.li, h.dn, h.fz, h.wt⟩
  exact ⟨v, S', us, _, rfl, hl.below h5, Nx.trans ⟨h2, h3⟩ (Nx.below h5), h4⟩
/-- The log is opened again. -/
theorem open_lg {S : Nat → Prop} {B : Nat} {w0 w : World} {g : Nat} {s : Dk} {lg : Nat} {l : Lo} {q : Nat → Option (Nat × List (List Int))} (h : Lg S B w0 w g s lg l q) :
    Calls Tryd.prog 22 #[.pointer (some ⟨g, 0, none⟩)] w fun e w' => ∃ lg', e = .returned (.tuple #[.pointer (some ⟨lg', 0, none⟩), .int .i64 0]) ∧ ∃ S', Lg S' B w0 w' g s lg' l q ∧ Nx S w S' w' := by
  obtain ⟨F, H, rv, us, hx⟩ := h.wl
  have hapF : Ap F := ⟨fun x => hx.at'.1 (hx.sf _ x), fun x => hx.at'.2 (hx.sf _ x)⟩
  have hbw : Below w.heap.size w (w.alloc (lobj g)) := (Below.refl _ w).alloc (Nat.le_refl _) _
  refine (open_core hx.pd h.li.n64 h.wt h.dn (fun w' => AftL (fun b => F b ∨ b = w.heap.size) (w.alloc (lobj g)) w' g s w.heap.size l) ((load_any ⟨F, _, _, _, WX.boxed hx.pd hx.bt hx.tb hapF⟩ q h.li.hv).mono ?_)).mono ?_
  · rintro e w' ⟨rfl, L', h1, h2⟩
    have : L' = l := h.li.loaded (by rw [hx.dk]; exact h1)
    rw [this] at h2
    exact ⟨rfl, h2⟩
  · rintro e w' ⟨rfl, S', k1, k2, k3⟩
    have k3' : ∀ b, S' b → S b ∨ w.heap.size ≤ b := fun b x => (k3 b x).elim (fun y => y.elim (fun z => .inl (hx.sf b z)) (fun z => .inr (by omega))) (fun y => .inr (Nat.le_trans hbw.size y))
    have k2' : Chg S w w' := (chg_of_below hbw).trans' k2 (fun b x => x.elim (fun z => .inl (hx.sf b z)) (fun z => .inr (by omega)))
    exact ⟨_, rfl, S', ⟨k1, fun b x => (k3' b x).elim (h.lo b) (fun y => Nat.le_trans h.bs y), h.bel.trans (k2'.below h.bs h.lo), Nat.le_trans h.bs k2'.size, h.li, h.dn, h.fz, h.wt⟩, ⟨k2', k3'⟩⟩
theorem opened_lg {S : Nat → Prop} {B : Nat} {w0 w : World} {g : Nat} {s : Dk} {lg : Nat} {l : Lo} {q : Nat → Option (Nat × List (List Int))} (h : Lg S B w0 w g s lg l q) (v : Value) :
    Calls Tryd.prog 11 #[.pointer (some ⟨g, 0, none⟩), v] w fun e w' => ∃ lg', e = .returned (.tuple #[.pointer (some ⟨lg', 0, none⟩), .bool true]) ∧ ∃ S', Lg S' B w0 w' g s lg' l q ∧ Nx S w S' w' :=
  opened_ok _ v w _ (open_lg h)
theorem tk_fu (s : Dk) (b : Bool) (a t : Nat) : tk { s with fu := b } a t = tk s a t := tk_cg rfl (fun _ _ k _ => rfl)
theorem LI.setFu {s : Dk} {l : Lo} {q : Nat → Option (Nat × List (List Int))} (h : LI s l q) (hS : Sby s) (b : Bool) : LI { s with fu := b } l q := by
  refine ⟨h.n64, h.lo, h.e0, h.e1, ⟨fun i hi hq => (h.hv.no i hi hq).imp (fun x => (tk_fu s b _ _).trans x) (fun x => (tk_fu s b _ _).trans x), fun i T xs hi hq => ?_⟩, h.rok, h.z, fun h0 => ?_⟩
  · obtain ⟨a1, a2⟩ := h.hv.yes i T xs hi hq
    exact ⟨(tk_fu s b _ _).trans a1, a2⟩
  · obtain ⟨xs, ns, h1, h2, h3, h4, h5⟩ := h.p h0
    exact ⟨xs, ns, h1, h2, h3.cg hS (fun i _ _ => rfl), (tk_fu s b _ _).trans h4, h5⟩
/-- The disk is told full, or not. -/
theorem setFull_lg {S : Nat → Prop} {B : Nat} {w0 w : World} {g : Nat} {s : Dk} {lg : Nat} {l : Lo} {q : Nat → Option (Nat × List (List Int))} (h : Lg S B w0 w g s lg l q) (b : Bool) :
    Calls Tryd.prog 19 #[.pointer (some ⟨g, 0, none⟩), .bool b] w fun e w' => e = .returned (.tuple #[]) ∧ ∃ S', Lg S' B w0 w' g { s with fu := b } lg l q ∧ Nx S w S' w' := by
  obtain ⟨F, H, rv, us, hx⟩ := h.wl
  refine (setFull_any hx.pd b).mono ?_
  rintro e w' ⟨rfl, ha⟩
  obtain ⟨S', F', h1, h2, h3⟩ := hx.disk ha (show Sbt { s with fu := b } from hx.bt)
  exact ⟨rfl, S', ⟨⟨F', H, rv, us, h1⟩, fun b x => (h3 b x).elim (h.lo b) (fun y => Nat.le_trans h.bs y), h.bel.trans (h2.below h.bs h.lo), Nat.le_trans h.bs h2.size, h.li.setFu hx.by' b, h.dn, h.fz, h.wt⟩, ⟨h2, h3⟩⟩
end Go.Proofs.YthfpakjfdncphaaDoor
