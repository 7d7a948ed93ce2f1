/- distinct of the law: leaves of which no two have one label. -/
import Derived.Test.YtpojalbpekbfdabDoorTrlA
import Derived.Test.YtpojalbpekbfdabDoorGrnE
namespace Go.Proofs.YtpojalbpekbfdabDoor
open Go Go.RowKit
set_option linter.unusedSimpArgs false
set_option linter.unusedVariables false
set_option maxRecDepth 100000

def dsN (out : List Lf) (x : Lf) : Bool := out.all (fun z => !decide (z.p = x.p))
def dsA (out : List Lf) (x : Lf) : List Lf := if dsN out x = true then out ++ [x] else out
def dst (ls : List Lf) : List Lf := ls.foldl dsA []
theorem dst_succ {ls : List Lf} {k : Nat} {x : Lf} (hx : ls[k]? = some x) : dst (ls.take (k + 1)) = dsA (dst (ls.take k)) x := by
  obtain ⟨h, rfl⟩ := List.getElem?_eq_some_iff.1 hx
  unfold dst
  rw [List.take_succ_eq_append_getElem h, List.foldl_append]; rfl
theorem dst_inv : ∀ (ls acc : List Lf) (P : Lf → Prop), (∀ x ∈ acc, P x) → (∀ x ∈ ls, P x) → (∀ x ∈ ls.foldl dsA acc, P x)
  | [], acc, P, h, _ => h
  | a :: r, acc, P, h, h2 => by
    refine dst_inv r (dsA acc a) P (fun x hx => ?_) (fun x hx => h2 x (List.mem_cons_of_mem _ hx))
    unfold dsA at hx
    split at hx
    · rcases List.mem_append.1 hx with q | q
      · exact h x q
      · simp at q; subst q; exact h2 x (by simp)
    · exact h x hx
theorem dst_ok {ls : List Lf} (hk : ∀ x ∈ ls, x.Ok) : ∀ x ∈ dst ls, x.Ok := dst_inv ls [] _ (fun x hx => by cases hx) hk
theorem dst_len : ∀ (ls acc : List Lf), (ls.foldl dsA acc).length ≤ acc.length + ls.length
  | [], acc => by simp
  | a :: r, acc => by
    have := dst_len r (dsA acc a)
    have h2 : (dsA acc a).length ≤ acc.length + 1 := by unfold dsA; split <;> simp
    simp only [List.foldl_cons, List.length_cons]; omega
theorem dst_pair : ∀ (ls acc : List Lf), acc.Pairwise (fun a b => a.p ≠ b.p) → (ls.foldl dsA acc).Pairwise (fun a b => a.p ≠ b.p)
  | [], acc, h => h
  | a :: r, acc, h => by
    refine dst_pair r (dsA acc a) ?_
    unfold dsA
    split
    · next hn =>
      refine List.pairwise_append.2 ⟨h, List.pairwise_singleton _ _, fun x hx y hy => ?_⟩
      simp at hy; subst hy
      have := List.all_eq_true.1 hn x hx
      simpa using this
    · exact h
theorem okl_of_ne {ls : List Lf} (hk : ∀ x ∈ ls, x.Ok) (h : ls.Pairwise (fun a b => a.p ≠ b.p)) : okl ls := by
  obtain ⟨s, hs⟩ : ∃ s, s = (ls.map ln).mergeSort (fun a b => decide (pf a.p 256 ≤ pf b.p 256)) := ⟨_, rfl⟩
  have hp : s.Perm (ls.map ln) := by rw [hs]; exact List.mergeSort_perm _ _
  have hsr : s.Pairwise (fun a b => pf a.p 256 ≤ pf b.p 256) := by
    have := List.pairwise_mergeSort (le := fun a b : Nd => decide (pf a.p 256 ≤ pf b.p 256)) (fun a b c h1 h2 => by simp at *; omega) (fun a b => by simp; omega) (ls.map ln)
    rw [← hs] at this
    exact this.imp (fun q => by simpa using q)
  have hn : ls.Pairwise (fun a b => pf a.p 256 ≠ pf b.p 256) := by
    refine List.Pairwise.imp_of_mem (fun {a b} ha hb q e => q ?_) h
    exact (hk a ha).p.ext (hk b hb).p e
  have hn2 : ((ls.map ln).map fun x => pf x.p 256).Nodup := by rw [List.map_map]; exact List.pairwise_map.2 hn
  have hn3 : (s.map fun x => pf x.p 256).Nodup := (hp.map _).nodup_iff.2 hn2
  have hlt : s.Pairwise (fun a b => pf a.p 256 < pf b.p 256) := (hsr.and (List.pairwise_map.1 hn3)).imp (fun q => by have h1 := q.1; have h2 := q.2; omega)
  exact (so_rise hk hp hlt).1
theorem okl_dst {ls : List Lf} (hk : ∀ x ∈ ls, x.Ok) : okl (dst ls) := okl_of_ne (dst_ok hk) (dst_pair ls [] List.Pairwise.nil)
def ds90f (oa : Option Addr) (g p n cp lb lo len cap j k : Nat) (pz px : List Int) (q : Bool) : Nat → Value
  | 0 => .bool false
  | 1 => .bool false
  | 2 => undef
  | 3 => undef
  | 4 => undef
  | 5 => undef
  | 6 => undef
  | 7 => undef
  | 8 => undef
  | 9 => undef
  | 10 => undef
  | 11 => undef
  | 12 => undef
  | 13 => .bool false
  | 14 => .bool false
  | _ => undef
def ds91f (oa : Option Addr) (g p n cp lb lo len cap j k : Nat) (pz px : List Int) (q : Bool) : Nat → Value
  | 0 => .bool true
  | 1 => .bool true
  | 2 => .slice (some ⟨g, p, none⟩) n cp
  | 3 => .int .i64 (j : Int)
  | 4 => .pointer (some ⟨g, p + j * 64, none⟩)
  | 5 => .pointer (some ⟨g, p + j * 64, none⟩)
  | 6 => .agg (bv pz).toArray
  | 7 => .slice (some ⟨lb, lo, none⟩) len cap
  | 8 => .int .i64 (k : Int)
  | 9 => .pointer (some ⟨lb, lo + k * 64, none⟩)
  | 10 => .pointer (some ⟨lb, lo + k * 64, none⟩)
  | 11 => .agg (bv px).toArray
  | 12 => .bool q
  | 13 => .bool q
  | 14 => .bool q
  | _ => undef
end Go.Proofs.YtpojalbpekbfdabDoor
/- Package grow: Stays. -/
namespace Go.Proofs.YtpojalbpekbfdabDoor
open Go Go.RowKit
set_option linter.unusedSimpArgs false
set_option linter.unusedVariables false
set_option maxRecDepth 100000

theorem ne_of_pf {a b : List Int} (h : pf a 256 ≠ pf b 256) : a ≠ b := fun e => h (by rw [e])
theorem okl_left {ls ms : List Lf} (hk : ∀ x ∈ ls ++ ms, x.Ok) (h : okl (ls ++ ms)) : okl ls ∧ okl ms ∧ ∀ x ∈ ls, ∀ z ∈ ms, x.p ≠ z.p := by
  have h1 := List.pairwise_append.1 (okl_ne hk h)
  exact ⟨okl_of_ne (fun x hx => hk x (List.mem_append_left _ hx)) (h1.1.imp ne_of_pf), okl_of_ne (fun x hx => hk x (List.mem_append_right _ hx)) (h1.2.1.imp ne_of_pf), fun x hx z hz => ne_of_pf (h1.2.2 x hx z hz)⟩
theorem NO.mono9 {B C : Nat} {w : World} {v : Value} {l : List Nd} (h : NO B w v l) (hC : C ≤ B) : NO C w v l := by
  refine ⟨⟨h.1.1, ?_⟩, h.2.1, Nat.le_trans hC h.2.2⟩
  rcases h.1.2 with q | ⟨g, cap, cur, hv, hb, hg⟩
  · exact .inl q
  · exact .inr ⟨g, cap, cur, hv, Nat.le_trans hC hb, hg⟩
/-- What stays of leaves where others are added. -/
noncomputable def sty (ls ms : List Lf) : List Nd := st 256 0 (so ls) (so ms)
theorem so_apn {ls : List Lf} (hk : ∀ x ∈ ls, x.Ok) (h : okl ls) : Apn (so ls) := ⟨so_ok hk h, (so_spec h).2⟩
theorem so_dis {ls ms : List Lf} (h1 : okl ls) (h2 : okl ms) (hd : ∀ x ∈ ls, ∀ z ∈ ms, x.p ≠ z.p) : ∀ x ∈ so ls, ∀ z ∈ so ms, x.p ≠ z.p := fun x hx z hz => by
  obtain ⟨a, ha, rfl⟩ := List.mem_map.1 ((so_spec h1).1.mem_iff.1 hx)
  obtain ⟨b, hb, rfl⟩ := List.mem_map.1 ((so_spec h2).1.mem_iff.1 hz)
  exact hd a ha b hb
theorem shr_zero (x z : List Int) : Shr x z 0 := fun i hi => by omega
theorem lln_one {w : World} {u : Value} {l : List Nd} (h : NS w u l) (h1 : u.cells = #[u]) : LLn (w.alloc (.cells #[u] 28)) (.slice (some ⟨w.heap.size, 0, none⟩) 1 1) [u] [l] ∧ Below w.heap.size w (w.alloc (.cells #[u] 28)) := by
  have hbl : Below w.heap.size w (w.alloc (.cells #[u] 28)) := (Below.refl _ w).alloc (Nat.le_refl _) _
  refine ⟨⟨w.heap.size, 0, 1, rfl, Nat.le_refl _, rfl, by simp, fun i v m hv hm => ?_⟩, hbl⟩
  cases i with
  | zero =>
    simp at hv hm
    subst hv
    subst hm
    exact ⟨cell_alloc w #[u] _ _ 0, h.below hbl⟩
  | succ i => simp at hv
theorem lln_two {w : World} {u t : Value} {l m : List Nd} (h : NS w u l) (h' : NS w t m) : LLn (w.alloc (.cells #[u, t] 28)) (.slice (some ⟨w.heap.size, 0, none⟩) 2 2) [u, t] [l, m] ∧ Below w.heap.size w (w.alloc (.cells #[u, t] 28)) := by
  have hbl : Below w.heap.size w (w.alloc (.cells #[u, t] 28)) := (Below.refl _ w).alloc (Nat.le_refl _) _
  refine ⟨⟨w.heap.size, 0, 2, rfl, Nat.le_refl _, rfl, by simp, fun i v q hv hm => ?_⟩, hbl⟩
  match i, hv, hm with
  | 0, hv, hm =>
    simp at hv hm
    subst hv
    subst hm
    exact ⟨cell_alloc w #[u, t] _ _ 0, h.below hbl⟩
  | 1, hv, hm =>
    simp at hv hm
    subst hv
    subst hm
    exact ⟨cell_alloc w #[u, t] _ _ 1, h'.below hbl⟩
  | i + 2, hv, hm => simp at hv
/-- What Stays gives. -/
def SYo (B : Nat) (ls ms : List Lf) (v' : Value) (er : Int) (w' : World) : Prop := (okl (ls ++ ms) ∧ er = 0 ∧ NO B w' v' (sty ls ms)) ∨ (¬ okl (ls ++ ms) ∧ er = 1 ∧ v' = .slice none 0 0)
set_option maxHeartbeats 4000000 in
theorem Stays_any (ls ms : List Lf) (hk : ∀ x ∈ ls ++ ms, x.Ok) (hlen : ls.length + ms.length ≤ 1400000000000) (v u : Value) (w : World) (hv : LS w v ls) (hu : LS w u ms) (hT : Tb w) :
    Calls Tryd.prog 6 #[v, u] w fun e w' => ∃ v' er, e = .returned (.tuple #[v', .int .i64 er]) ∧ SYo w.heap.size ls ms v' er w' ∧ Below w.heap.size w w' := by
  have hk1 : ∀ x ∈ ls, x.Ok := fun x hx => hk x (List.mem_append_left _ hx)
  have hk2 : ∀ x ∈ ms, x.Ok := fun x hx => hk x (List.mem_append_right _ hx)
  have HK : Hid (∀ x ∈ ls ++ ms, x.Ok) := hk
  have HK1 : Hid (∀ x ∈ ls, x.Ok) := hk1
  have HK2 : Hid (∀ x ∈ ms, x.Ok) := hk2
  have VU : Hid (LS w u ms) := hu
  have HT : Hid (Tb w) := hT
  have HLN : Hid (ls.length + ms.length ≤ 1400000000000) := hlen
  have HL1 : Hid (Calls Tryd.prog 11 #[v] w fun e w' => ∃ v', e = .returned v' ∧ NO w.heap.size w' v' (ls.map ln) ∧ Below w.heap.size w w') := leafN_any ls hk1 (by omega) v w hv hT
  have HL2 : Hid (∀ W : World, Below w.heap.size w W → Calls Tryd.prog 11 #[u] W fun e w' => ∃ v', e = .returned v' ∧ NO W.heap.size w' v' (ms.map ln) ∧ Below W.heap.size W w') := fun W q => leafN_any ms hk2 (by omega) u W (hu.below q) (hT.below q)
  have HIO : Hid (∀ (us : List Value) (lss : List (List Nd)) (v : Value) (W : World), (∀ l ∈ lss, ∀ x ∈ l, x.Ok) → lss.flatten.length ≤ 3000000000000 → us.length ≤ 2 → LLn W v us lss → Calls Tryd.prog 10 #[v] W fun e w' => ∃ v' s, e = .returned v' ∧ s.Perm lss.flatten ∧ s.Pairwise (fun a b => pf a.p 256 ≤ pf b.p 256) ∧ NS w' v' s ∧ (∀ b, v'.ownBlock = some b → W.heap.size ≤ b ∧ b < w'.heap.size) ∧ Below W.heap.size W w') := fun us lss v W h1 h2 h3 h4 => inOrder_any us lss h1 h2 (by omega) v W h4
  have HAP : Hid (∀ (s : List Nd) (W : World) (v : Value), (∀ x ∈ s, x.Ok) → s.length ≤ 140737488355328 → NS W v s → Calls Tryd.prog 12 #[v] W fun e w' => e = .returned (.bool (apt s)) ∧ Below W.heap.size W w') := fun s W v h1 h2 h3 => Apart_any s h1 v W h3 h2
  clear hk hk1 hk2 hlen hv hu hT
  go_enter Tryd.func6, Tryd.ntmps6
  go_wp2_with fail
  refine HL1.out.mono ?_
  rintro e w1 ⟨v1, rfl, g1, g2⟩
  obtain ⟨a1, c1, e1, -, -⟩ := id g1.ns
  obtain ⟨n1, hn1⟩ : ∃ m, (ls.map ln).length = m := ⟨_, rfl⟩
  have HN1 : Hid (n1 = ls.length) := by show n1 = _; rw [← hn1, List.length_map]
  rw [hn1] at e1
  subst e1
  have N1 : Hid (NS w1 (.slice a1 n1 c1) (ls.map ln)) := g1.ns
  have B1 : Hid (Below w.heap.size w w1) := g2
  clear g1 g2 hn1
  go_wp2_with fail
  refine (HIO.out [.slice a1 n1 c1] [ls.map ln] _ _ (fun l hl x hx => by simp at hl; subst hl; obtain ⟨y, hy, rfl⟩ := List.mem_map.1 hx; exact ln_ok (HK1.out y hy)) (by have := HLN.out; simp; omega) (by simp) (lln_one N1.out rfl).1).mono ?_
  rintro e w2 ⟨v2, s1, rfl, g1, g2, g3, g4, g5⟩
  rw [show [ls.map ln].flatten = ls.map ln by simp] at g1
  have P1 : Hid (s1.Perm (ls.map ln)) := g1
  have Q1 : Hid (s1.Pairwise (fun a b => pf a.p 256 ≤ pf b.p 256)) := g2
  have B2 : Hid (Below w.heap.size w w2) := Below.tr' B1.out (Below.tr' (lln_one N1.out rfl).2 g5)
  have N2 : Hid (NS w2 v2 s1) := g3
  have K2 : Hid (∀ b, v2.ownBlock = some b → b < w2.heap.size) := fun b e => (g4 b e).2
  clear g1 g2 g3 g4 g5
  go_wp2_with fail
  refine (HL2.out w2 B2.out).mono ?_
  rintro e w3 ⟨v3, rfl, g1, g2⟩
  obtain ⟨a3, c3, e3, -, -⟩ := id g1.ns
  obtain ⟨n3, hn3⟩ : ∃ m, (ms.map ln).length = m := ⟨_, rfl⟩
  rw [hn3] at e3
  subst e3
  have N3 : Hid (NS w3 (.slice a3 n3 c3) (ms.map ln)) := g1.ns
  have G3 : Hid (Below w2.heap.size w2 w3) := g2
  clear g1 g2 hn3
  go_wp2_with fail
  refine (HIO.out [.slice a3 n3 c3] [ms.map ln] _ _ (fun l hl x hx => by simp at hl; subst hl; obtain ⟨y, hy, rfl⟩ := List.mem_map.1 hx; exact ln_ok (HK2.out y hy)) (by have := HLN.out; simp; omega) (by simp) (lln_one N3.out rfl).1).mono ?_
  rintro e w4 ⟨v4, s2, rfl, g1, g2, g3, g4, g5⟩
  rw [show [ms.map ln].flatten = ms.map ln by simp] at g1
  have P2 : Hid (s2.Perm (ms.map ln)) := g1
  have Q2 : Hid (s2.Pairwise (fun a b => pf a.p 256 ≤ pf b.p 256)) := g2
  have G24 : Hid (Below w2.heap.size w2 w4) := Below.tr' G3.out (Below.tr' (lln_one N3.out rfl).2 g5)
  have B4 : Hid (Below w.heap.size w w4) := Below.tr' B2.out G24.out
  have N4 : Hid (NS w4 v4 s2) := g3
  have N24 : Hid (NS w4 v2 s1) := N2.out.below G24.out
  have K4 : Hid (∀ b, v4.ownBlock = some b → b < w4.heap.size) := fun b e => (g4 b e).2
  have K24 : Hid (∀ b, v2.ownBlock = some b → b < w4.heap.size) := fun b e => Nat.lt_of_lt_of_le (K2.out b e) G24.out.size
  clear g1 g2 g3 g4 g5
  obtain ⟨a2, c2, e2, -, -⟩ := id N2.out
  obtain ⟨a4, c4, e4, -, -⟩ := id N4.out
  obtain ⟨n2, hn2⟩ : ∃ m, s1.length = m := ⟨_, rfl⟩
  obtain ⟨n4, hn4⟩ : ∃ m, s2.length = m := ⟨_, rfl⟩
  rw [hn2] at e2
  rw [hn4] at e4
  subst e2
  subst e4
  have hk12 : ∀ l ∈ [s1, s2], ∀ x ∈ l, x.Ok := fun l hl x hx => by
    simp at hl
    rcases hl with rfl | rfl
    · exact (map_ok HK1.out P1.out x hx).1
    · exact (map_ok HK2.out P2.out x hx).1
  have hl12 : [s1, s2].flatten.length ≤ 3000000000000 := by have h1 := P1.out.length_eq; have h2 := P2.out.length_eq; rw [List.length_map] at h1 h2; have := HLN.out; simp; omega
  have HKK : Hid (∀ l ∈ [s1, s2], ∀ x ∈ l, x.Ok) := hk12
  have HLL : Hid ([s1, s2].flatten.length ≤ 3000000000000) := hl12
  clear hk12 hl12 hn2 hn4
  go_wp2_with fail
  refine (HIO.out [.slice a2 n2 c2, .slice a4 n4 c4] [s1, s2] _ _ HKK.out HLL.out (by simp) (lln_two N24.out N4.out).1).mono ?_
  rintro e w5 ⟨v5, s3, rfl, g1, g2, g3, -, g5⟩
  rw [show [s1, s2].flatten = s1 ++ s2 by simp] at g1
  have P3 : Hid (s3.Perm ((ls ++ ms).map ln)) := by rw [List.map_append]; exact g1.trans (P1.out.append P2.out)
  have Q3 : Hid (s3.Pairwise (fun a b => pf a.p 256 ≤ pf b.p 256)) := g2
  have N5 : Hid (NS w5 v5 s3) := g3
  have G45 : Hid (Below w4.heap.size w4 w5) := Below.tr' (lln_two N24.out N4.out).2 g5
  have B5 : Hid (Below w.heap.size w w5) := Below.tr' B4.out G45.out
  have hl3 : s3.length ≤ 140737488355328 := by have h1 := P3.out.length_eq; rw [List.length_map, List.length_append] at h1; have := HLN.out; omega
  have HAC := HAP.out s3 w5 v5 (fun x hx => (map_ok HK.out P3.out x hx).1) hl3 N5.out
  clear g1 g2 g3 g5 hl3
  cases ha : apt s3 with
  | false =>
    rw [ha] at HAC
    have HAC' : Hid (Calls Tryd.prog 12 #[v5] w5 fun e w' => e = .returned (.bool false) ∧ Below w5.heap.size w5 w') := HAC
    have HNO : Hid (¬ okl (ls ++ ms)) := fun h => by have := (sorted_apt HK.out P3.out Q3.out h).1; rw [ha] at this; cases this
    clear HAC ha
    go_wp2_with (go_at_call 12; refine HAC'.out.mono ?_; rintro e w6 ⟨rfl, g1⟩; have B6 : Hid (Below w.heap.size w w6) := Below.tr' B5.out g1; clear g1)
    go_ret2
    exact ⟨_, _, rfl, .inr ⟨HNO.out, rfl, rfl⟩, B6.out⟩
  | true =>
    rw [ha] at HAC
    have HAC' : Hid (Calls Tryd.prog 12 #[v5] w5 fun e w' => e = .returned (.bool true) ∧ Below w5.heap.size w5 w') := HAC
    have HOK : Hid (okl (ls ++ ms)) := (so_uniq HK.out P3.out ha).1
    obtain ⟨o1, o2, o3⟩ := okl_left HK.out HOK.out
    obtain ⟨-, es1⟩ := sorted_apt HK1.out P1.out Q1.out o1
    obtain ⟨-, es2⟩ := sorted_apt HK2.out P2.out Q2.out o2
    have HSB : Hid (∀ w6 : World, Below w5.heap.size w5 w6 → Calls Tryd.prog 13 #[.slice none 0 0, .slice a2 n2 c2, .slice a4 n4 c4, .int .i64 0] w6 fun e w' => ∃ v', e = .returned v' ∧ NO w6.heap.size w' v' (sty ls ms) ∧ Below w6.heap.size w6 w') := fun w6 q => by
      have q4 : Below w4.heap.size w4 w6 := Below.tr' G45.out q
      have hT6 : Tb w6 := HT.out.below (Below.tr' B5.out q)
      have := stays_any w6.heap.size hT6.lt 256 0 s1 s2 rfl (by rw [← es1]; exact so_apn HK1.out o1) (by rw [← es2]; exact so_apn HK2.out o2) (fun x _ z _ => shr_zero _ _) (by rw [← es1, ← es2]; exact so_dis o1 o2 o3) (by have h2 := P2.out.length_eq; rw [List.length_map] at h2; have := HLN.out; omega) [] (.slice none 0 0) (.slice a2 n2 c2) (.slice a4 n4 c4) w6 (by have h2 := P1.out.length_eq; rw [List.length_map] at h2; have := HLN.out; simp only [List.length_nil]; omega) (NO.nil w6) (N24.out.below q4) (N4.out.below q4) (fun b e => Nat.lt_of_lt_of_le (K24.out b e) q4.size) (fun b e => Nat.lt_of_lt_of_le (K4.out b e) q4.size) hT6
      rw [List.nil_append, ← es1, ← es2] at this
      exact this
    clear HAC ha o1 o2 o3 es1 es2
    go_wp2_with (first
      | (go_at_call 12; refine HAC'.out.mono ?_; rintro e w6 ⟨rfl, g1⟩; have G6 : Hid (Below w5.heap.size w5 w6) := g1; have B6 : Hid (Below w.heap.size w w6) := Below.tr' B5.out g1; clear g1)
      | (go_at_call 13; refine (HSB.out w6 G6.out).mono ?_; rintro e w7 ⟨v7, rfl, g1, g2⟩; have O7 : Hid (NO w6.heap.size w7 v7 (sty ls ms)) := g1; have B7 : Hid (Below w.heap.size w w7) := Below.tr' B6.out g2; clear g1 g2))
    go_ret2
    exact ⟨_, _, rfl, .inl ⟨HOK.out, rfl, O7.out.mono9 B6.out.size⟩, B7.out⟩
end Go.Proofs.YtpojalbpekbfdabDoor
