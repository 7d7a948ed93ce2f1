/- distinct of the law: leaves of which no two have one label. -/
import Derived.Test.YtkeobajlikhghaaDoorTrlA
namespace Go.Proofs.YtkeobajlikhghaaDoor
open Go Go.RowKit
set_option linter.unusedSimpArgs false
set_option linter.unusedVariables false
set_option maxRecDepth 100000

def dsN (out : List Lf) (x : Lf) : Bool := out.all (fun z => !decide (z.p = x.p))
def dsA (out : List Lf) (x : Lf) : List Lf := if dsN out x = true then out ++ [x] else out
def dst (ls : List Lf) : List Lf := ls.foldl dsA []
theorem dst_succ {ls : List Lf} {k : Nat} {x : Lf} (hx : ls[k]? = some x) : dst (ls.take (k + 1)) = dsA (dst (ls.take k)) x := by
  obtain ⟨h, rfl⟩ := List.getElem?_eq_some_iff.1 hx
  unfold dst
  rw [List.take_succ_eq_append_getElem h, List.foldl_append]; rfl
theorem dst_inv : ∀ (ls acc : List Lf) (P : Lf → Prop), (∀ x ∈ acc, P x) → (∀ x ∈ ls, P x) → (∀ x ∈ ls.foldl dsA acc, P x)
  | [], acc, P, h, _ => h
  | a :: r, acc, P, h, h2 => by
    refine dst_inv r (dsA acc a) P (fun x hx => ?_) (fun x hx => h2 x (List.mem_cons_of_mem _ hx))
    unfold dsA at hx
    split at hx
    · rcases List.mem_append.1 hx with q | q
      · exact h x q
      · simp at q; subst q; exact h2 x (by simp)
    · exact h x hx
theorem dst_ok {ls : List Lf} (hk : ∀ x ∈ ls, x.Ok) : ∀ x ∈ dst ls, x.Ok := dst_inv ls [] _ (fun x hx => by cases hx) hk
theorem dst_len : ∀ (ls acc : List Lf), (ls.foldl dsA acc).length ≤ acc.length + ls.length
  | [], acc => by simp
  | a :: r, acc => by
    have := dst_len r (dsA acc a)
    have h2 : (dsA acc a).length ≤ acc.length + 1 := by unfold dsA; split <;> simp
    simp only [List.foldl_cons, List.length_cons]; omega
theorem dst_pair : ∀ (ls acc : List Lf), acc.Pairwise (fun a b => a.p ≠ b.p) → (ls.foldl dsA acc).Pairwise (fun a b => a.p ≠ b.p)
  | [], acc, h => h
  | a :: r, acc, h => by
    refine dst_pair r (dsA acc a) ?_
    unfold dsA
    split
    · next hn =>
      refine List.pairwise_append.2 ⟨h, List.pairwise_singleton _ _, fun x hx y hy => ?_⟩
      simp at hy; subst hy
      have := List.all_eq_true.1 hn x hx
      simpa using this
    · exact h
theorem okl_of_ne {ls : List Lf} (hk : ∀ x ∈ ls, x.Ok) (h : ls.Pairwise (fun a b => a.p ≠ b.p)) : okl ls := by
  obtain ⟨s, hs⟩ : ∃ s, s = (ls.map ln).mergeSort (fun a b => decide (pf a.p 256 ≤ pf b.p 256)) := ⟨_, rfl⟩
  have hp : s.Perm (ls.map ln) := by rw [hs]; exact List.mergeSort_perm _ _
  have hsr : s.Pairwise (fun a b => pf a.p 256 ≤ pf b.p 256) := by
    have := List.pairwise_mergeSort (le := fun a b : Nd => decide (pf a.p 256 ≤ pf b.p 256)) (fun a b c h1 h2 => by simp at *; omega) (fun a b => by simp; omega) (ls.map ln)
    rw [← hs] at this
    exact this.imp (fun q => by simpa using q)
  have hn : ls.Pairwise (fun a b => pf a.p 256 ≠ pf b.p 256) := by
    refine List.Pairwise.imp_of_mem (fun {a b} ha hb q e => q ?_) h
    exact (hk a ha).p.ext (hk b hb).p e
  have hn2 : ((ls.map ln).map fun x => pf x.p 256).Nodup := by rw [List.map_map]; exact List.pairwise_map.2 hn
  have hn3 : (s.map fun x => pf x.p 256).Nodup := (hp.map _).nodup_iff.2 hn2
  have hlt : s.Pairwise (fun a b => pf a.p 256 < pf b.p 256) := (hsr.and (List.pairwise_map.1 hn3)).imp (fun q => by have h1 := q.1; have h2 := q.2; omega)
  exact (so_rise hk hp hlt).1
theorem okl_dst {ls : List Lf} (hk : ∀ x ∈ ls, x.Ok) : okl (dst ls) := okl_of_ne (dst_ok hk) (dst_pair ls [] List.Pairwise.nil)
def ds90f (oa : Option Addr) (g p n cp lb lo len cap j k : Nat) (pz px : List Int) (q : Bool) : Nat → Value
  | 0 => .bool false
  | 1 => .bool false
  | 2 => undef
  | 3 => undef
  | 4 => undef
  | 5 => undef
  | 6 => undef
  | 7 => undef
  | 8 => undef
  | 9 => undef
  | 10 => undef
  | 11 => undef
  | 12 => undef
  | 13 => .bool false
  | 14 => .bool false
  | _ => undef
def ds91f (oa : Option Addr) (g p n cp lb lo len cap j k : Nat) (pz px : List Int) (q : Bool) : Nat → Value
  | 0 => .bool true
  | 1 => .bool true
  | 2 => .slice (some ⟨g, p, none⟩) n cp
  | 3 => .int .i64 (j : Int)
  | 4 => .pointer (some ⟨g, p + j * 64, none⟩)
  | 5 => .pointer (some ⟨g, p + j * 64, none⟩)
  | 6 => .agg (bv pz).toArray
  | 7 => .slice (some ⟨lb, lo, none⟩) len cap
  | 8 => .int .i64 (k : Int)
  | 9 => .pointer (some ⟨lb, lo + k * 64, none⟩)
  | 10 => .pointer (some ⟨lb, lo + k * 64, none⟩)
  | 11 => .agg (bv px).toArray
  | 12 => .bool q
  | 13 => .bool q
  | 14 => .bool q
  | _ => undef
set_option maxHeartbeats 16000000 in
theorem distinct_any (ls : List Lf) (hk : ∀ x ∈ ls, x.Ok) (hlen : ls.length ≤ 2500000000000) (v : Value) (w : World) (hv : LS w v ls) :
    Calls Tryd.prog 31 #[v] w fun e w' => ∃ v', e = .returned v' ∧ LO w.heap.size w' v' (dst ls) ∧ Below w.heap.size w w' := by
  obtain ⟨adl, cap, rfl, hc, hx⟩ := hv
  have HXX : Hid (ls = [] ∧ (adl = none → cap = 0) ∨ ∃ b o, adl = some ⟨b, o, none⟩ ∧ b < w.heap.size ∧ ∀ (i : Nat) (x : Lf), ls[i]? = some x → w.rangeAt b (o + i * 64) (lfc x)) := hx
  have HK : Hid (∀ x ∈ ls, x.Ok) := hk
  obtain ⟨len, hln⟩ : ∃ len, ls.length = len := ⟨_, rfl⟩
  have HLN : Hid (ls.length = len) := hln
  rw [hln] at hlen ⊢
  clear hx hk hc hln
  go_enter Tryd.func31, Tryd.ntmps31
  go_wp2_with fail
  go_loopw [3, 9] (fun nv i wr => ∃ k : Nat, k ≤ len ∧ i = .int .i64 (k : Int) ∧ LO w.heap.size wr nv (dst (ls.take k)) ∧ Below w.heap.size w wr) (fun _ i _ => len - (intOf i).toNat)
  case atStart => exact ⟨0, Nat.zero_le _, rfl, LO.nil w, Below.refl _ _⟩
  case round =>
    obtain ⟨k, hkl, rfl, hno, h4⟩ := hrel
    have H4 : Hid (Below w.heap.size w wr) := h4
    have HNO : Hid (LO w.heap.size wr u3 (dst (ls.take k))) := hno
    clear h4 hno
    by_cases hlt : k < len
    · rcases HXX.out with ⟨h0, _⟩ | ⟨lb, lo, rfl, hlb, hm⟩
      · have := HLN.out; rw [h0] at this; simp at this; omega
      · obtain ⟨x, hx⟩ : ∃ x, ls[k]? = some x := ⟨ls[k]'(by have := HLN.out; omega), List.getElem?_eq_getElem _⟩
        have HX : Hid x.Ok := HK.out x (List.mem_of_getElem? hx)
        have HSU : Hid (dst (ls.take (k + 1)) = dsA (dst (ls.take k)) x) := dst_succ hx
        have HRX : Hid (wr.rangeAt lb (lo + k * 64) (lfc x)) := range_below (hm k x hx) H4.out hlb
        have HLB : Hid (lb < wr.heap.size) := Nat.lt_of_lt_of_le hlb H4.out.size
        have HDL : Hid ((dst (ls.take k)).length ≤ 2500000000000) := by
          have := dst_len (ls.take k) []
          rw [List.length_take] at this
          show _ ≤ _
          unfold dst; simp at this; omega
        obtain ⟨out, hout⟩ : ∃ out, dst (ls.take k) = out := ⟨_, rfl⟩
        rw [hout] at HNO HSU HDL
        have HOK : Hid (∀ x ∈ out, x.Ok) := HNO.out.2.1
        obtain ⟨ad, cp, hu3, hcp, hxs⟩ := HNO.out.ls
        obtain ⟨n, hn⟩ : ∃ n, out.length = n := ⟨_, rfl⟩
        have HSN : Hid (out.length = n) := hn
        rw [hn] at hu3 HDL
        have hnl := HDL.out
        subst hu3
        have HXS : Hid (out = [] ∧ (ad = none → cp = 0) ∨ ∃ b o, ad = some ⟨b, o, none⟩ ∧ b < wr.heap.size ∧ ∀ (i : Nat) (x : Lf), out[i]? = some x → wr.rangeAt b (o + i * 64) (lfc x)) := hxs
        obtain ⟨px, hpx⟩ : ∃ p, x.p = p := ⟨_, rfl⟩
        have HXP : Hid (x.p = px) := hpx
        have HPX : Hid (L32 px) := by rw [← hpx]; exact HX.out.p
        have HRP : Hid (wr.rangeAt lb (lo + k * 64) (bv px)) := by rw [← hpx]; exact lf_p HRX.out
        clear hm hlb hx hn hxs hcp hout hpx
        go_wp2_with fail
        obtain ⟨w1, hw1⟩ : ∃ w1, wr = w1 := ⟨_, rfl⟩
        go_loopw [5, 14] (fun fv i wr2 => ∃ (j : Nat) (q : Bool), j ≤ n ∧ i = .int .i64 (j : Int) ∧ fv = .bool q ∧ q = (out.take j).all (fun z => !decide (z.p = x.p)) ∧ Below w1.heap.size w1 wr2) (fun _ i _ => n - (intOf i).toNat)
        case atStart => exact ⟨0, true, Nat.zero_le _, rfl, rfl, rfl, by rw [hw1]; exact Below.refl _ _⟩
        case round =>
          obtain ⟨j, q, hjn, rfl, rfl, hq, h5⟩ := hrel
          rw [hw1] at H4 HNO HRX HLB HXS HRP
          have H5 : Hid (Below w1.heap.size w1 wr) := h5
          have HQ : Hid (q = (out.take j).all (fun z => !decide (z.p = x.p))) := hq
          clear h5 hq
          by_cases hjl : j < n
          · obtain ⟨z, hz⟩ : ∃ z, out[j]? = some z := ⟨out[j]'(by have := HSN.out; omega), List.getElem?_eq_getElem _⟩
            have HTK : Hid ((out.take (j + 1)).all (fun z => !decide (z.p = x.p)) = (q && !decide (z.p = x.p))) := by
              show _ = _
              obtain ⟨q1, rfl⟩ := List.getElem?_eq_some_iff.1 hz
              rw [List.take_succ_eq_append_getElem q1, List.all_append, ← HQ.out]; simp
            cases q with
            | false =>
              clear hz
              go_upto_region 9 with (fail)
              refine RU.wp_rgn' [] (ds90f ad 0 0 n cp lb lo len cap j k [] [] false) (fun _ => 0) (gΩ wr) (by kernel_rfl) (by kernel_rfl) (show Below wr.heap.size wr _ from (Below.refl _ _).drew) ?_ ?_
              · refine ⟨?_, ?_, ?_, ?_, ?_, ?_, ?_, ?_, ?_, ?_, ?_, ?_, ?_, ?_, ?_, trivial⟩
                · refine RU.ObT.pure rfl rfl rfl (fun a V hf hp ev he hc W => ?_)
                  have q5 : ev (.tmp 5) = .bool false := (he (.tmp 5)).trans (hf 5 rfl)
                  simp only [List.getElem_toArray, List.getElem_cons_succ, List.getElem_cons_zero, execOp, Option.map_some, Option.map_none]; rw [q5]
                  first | (go_simp; done) | (go_simp; rfl) | rfl
                · refine RU.ObT.pure rfl rfl rfl (fun a V hf hp ev he hc W => ?_)
                  have q17 : ev (.tmp 17) = .bool false := (he (.tmp 17)).trans (hp 0 17 rfl)
                  simp only [List.getElem_toArray, List.getElem_cons_succ, List.getElem_cons_zero, execOp, Option.map_some, Option.map_none]; rw [q17]
                  first | (go_simp; done) | (go_simp; rfl) | rfl
                · exact RU.ObT.skip (g := 1) (d := 18) rfl rfl rfl rfl rfl rfl (fun U h => by cases h) rfl
                · exact RU.ObT.skip (g := 1) (d := 18) rfl rfl rfl rfl rfl rfl (fun U h => by cases h) rfl
                · exact RU.ObT.skip (g := 1) (d := 18) rfl rfl rfl rfl rfl rfl (fun U h => by cases h) rfl
                · exact RU.ObT.skip (g := 1) (d := 18) rfl rfl rfl rfl rfl rfl (fun U h => by cases h) rfl
                · exact RU.ObT.skip (g := 1) (d := 18) rfl rfl rfl rfl rfl rfl (fun U h => by cases h) rfl
                · exact RU.ObT.skip (g := 1) (d := 18) rfl rfl rfl rfl rfl rfl (fun U h => by cases h) rfl
                · exact RU.ObT.skip (g := 1) (d := 18) rfl rfl rfl rfl rfl rfl (fun U h => by cases h) rfl
                · exact RU.ObT.skip (g := 1) (d := 18) rfl rfl rfl rfl rfl rfl (fun U h => by cases h) rfl
                · exact RU.ObT.skip (g := 1) (d := 18) rfl rfl rfl rfl rfl rfl (fun U h => by cases h) rfl
                · exact RU.ObT.skip (g := 1) (d := 18) rfl rfl rfl rfl rfl rfl (fun U h => by cases h) rfl
                · exact RU.ObT.skip (g := 1) (d := 18) rfl rfl rfl rfl rfl rfl (fun U h => by cases h) rfl
                · refine RU.ObT.pure rfl rfl rfl (fun a V hf hp ev he hc W => ?_)
                  have q18 : ev (.tmp 18) = .bool false := (he (.tmp 18)).trans (hp 1 18 rfl)
                  have q29 : ev (.tmp 29) = undef := (he (.tmp 29)).trans (hp 12 29 rfl)
                  simp only [List.getElem_toArray, List.getElem_cons_succ, List.getElem_cons_zero, execOp, Option.map_some, Option.map_none]; rw [q18, q29]
                  try simp only [hc]
                  first | (go_simp; done) | (go_simp; rfl) | rfl
                · refine RU.ObT.pure rfl rfl rfl (fun a V hf hp ev he hc W => ?_)
                  have q30 : ev (.tmp 30) = .bool false := (he (.tmp 30)).trans (hp 13 30 rfl)
                  simp only [List.getElem_toArray, List.getElem_cons_succ, List.getElem_cons_zero, execOp, Option.map_some, Option.map_none]; rw [q30]
                  first | (go_simp; done) | (go_simp; rfl) | rfl
              intro W1 VW1 hOW1
              have BW1 : Hid (Below wr.heap.size wr W1) := hOW1
              clear hOW1
              simp only [RU.lay, RU.val, RU.at', ds90f, Act.put]
              simp only [List.setIfInBounds_toArray, List.set_cons_succ, List.set_cons_zero]
              go_wp2_with fail
              exact ⟨⟨j + 1, false, by omega, by go_num, rfl, by rw [HTK.out]; rfl, Below.tr' H5.out BW1.out⟩, by simp [intOf]; omega⟩
            | true =>
              rcases HXS.out with ⟨h0, _⟩ | ⟨g, p, rfl, hgb, hgm⟩
              · have := HSN.out; rw [h0] at this; simp at this; omega
              obtain ⟨pz, hpz⟩ : ∃ p, z.p = p := ⟨_, rfl⟩
              have HPZ : Hid (L32 pz) := by rw [← hpz]; exact (HOK.out z (List.mem_of_getElem? hz)).p
              have RZW : Hid (wr.rangeAt g (p + j * 64) (bv pz)) := by
                have := lf_p (range_below (hgm j z hz) H5.out hgb); rw [← hpz]; exact this
              have LZW : Hid (g < wr.heap.size) := Nat.lt_of_lt_of_le hgb H5.out.size
              have RXW : Hid (wr.rangeAt lb (lo + k * 64) (bv px)) := range_below HRP.out H5.out HLB.out
              have LXW : Hid (lb < wr.heap.size) := Nat.lt_of_lt_of_le HLB.out H5.out.size
              rw [hpz, HXP.out, Bool.true_and] at HTK
              obtain ⟨q, hq⟩ : ∃ q, (!decide (pz = px)) = q := ⟨_, rfl⟩
              have HNQ : Hid (∀ W : World, (binOp .neq 23 (.agg (bv pz).toArray) (.agg (bv px).toArray)).run Tryd.prog W = .ok (.bool q) W) := fun W => by rw [← hq]; exact neq_32 HPZ.out HPX.out W
              rw [hq] at HTK
              clear hz hpz hq hgb hgm
              go_upto_region 9 with (fail)
              refine RU.wp_rgn' [] (ds91f (some ⟨g, p, none⟩) g p n cp lb lo len cap j k pz px q) (fun _ => 0) (gΩ wr) (by kernel_rfl) (by kernel_rfl) (show Below wr.heap.size wr _ from (Below.refl _ _).drew) ?_ ?_
              · refine ⟨?_, ?_, ?_, ?_, ?_, ?_, ?_, ?_, ?_, ?_, ?_, ?_, ?_, ?_, ?_, trivial⟩
                · refine RU.ObT.pure rfl rfl rfl (fun a V hf hp ev he hc W => ?_)
                  have q5 : ev (.tmp 5) = .bool true := (he (.tmp 5)).trans (hf 5 rfl)
                  simp only [List.getElem_toArray, List.getElem_cons_succ, List.getElem_cons_zero, execOp, Option.map_some, Option.map_none]; rw [q5]
                  first | (go_simp; done) | (go_simp; rfl) | rfl
                · refine RU.ObT.pure rfl rfl rfl (fun a V hf hp ev he hc W => ?_)
                  have q17 : ev (.tmp 17) = .bool true := (he (.tmp 17)).trans (hp 0 17 rfl)
                  simp only [List.getElem_toArray, List.getElem_cons_succ, List.getElem_cons_zero, execOp, Option.map_some, Option.map_none]; rw [q17]
                  first | (go_simp; done) | (go_simp; rfl) | rfl
                · refine RU.ObT.silent rfl (fun a W k0 V hO hf hp hk => ?_)
                  have hg : a.eval (.tmp 18) = .bool true := hp 1 18 rfl
                  refine RU.ob_val rfl (RU.wanted_some rfl rfl rfl hg) (fun ev he hc => ?_) ⟨rfl, hO⟩
                  have q3 : ev (.tmp 3) = .slice (some ⟨g, p, none⟩) n cp := (he (.tmp 3)).trans (hf 3 rfl)
                  simp only [List.getElem_toArray, List.getElem_cons_succ, List.getElem_cons_zero, execOp, Option.map_some, Option.map_none]; rw [q3]
                  first | (go_simp; done) | (go_simp; rfl) | rfl
                · refine RU.ObT.silent rfl (fun a W k0 V hO hf hp hk => ?_)
                  have hg : a.eval (.tmp 18) = .bool true := hp 1 18 rfl
                  refine RU.ob_val rfl (RU.wanted_some rfl rfl rfl hg) (fun ev he hc => ?_) ⟨rfl, hO⟩
                  have q6 : ev (.tmp 6) = .int .i64 (j : Int) := (he (.tmp 6)).trans (hf 6 rfl)
                  simp only [List.getElem_toArray, List.getElem_cons_succ, List.getElem_cons_zero, execOp, Option.map_some, Option.map_none]; rw [q6]
                  first | (go_simp; done) | (go_simp; rfl) | rfl
                · refine RU.ObT.silent rfl (fun a W k0 V hO hf hp hk => ?_)
                  have hg : a.eval (.tmp 18) = .bool true := hp 1 18 rfl
                  refine RU.ob_val rfl (RU.wanted_some rfl rfl rfl hg) (fun ev he hc => ?_) ⟨rfl, hO⟩
                  have q19 : ev (.tmp 19) = .slice (some ⟨g, p, none⟩) n cp := (he (.tmp 19)).trans (hp 2 19 rfl)
                  have q20 : ev (.tmp 20) = .int .i64 (j : Int) := (he (.tmp 20)).trans (hp 3 20 rfl)
                  simp only [List.getElem_toArray, List.getElem_cons_succ, List.getElem_cons_zero, execOp, Option.map_some, Option.map_none]; rw [q19, q20]
                  have hj9 : (j : Int) < (n : Int) := by omega
                  first | (go_simp; done) | (go_simp; rfl) | rfl
                · refine RU.ObT.silent rfl (fun a W k0 V hO hf hp hk => ?_)
                  have hg : a.eval (.tmp 18) = .bool true := hp 1 18 rfl
                  refine RU.ob_val rfl (RU.wanted_some rfl rfl rfl hg) (fun ev he hc => ?_) ⟨rfl, hO⟩
                  have q21 : ev (.tmp 21) = .pointer (some ⟨g, p + j * 64, none⟩) := (he (.tmp 21)).trans (hp 4 21 rfl)
                  simp only [List.getElem_toArray, List.getElem_cons_succ, List.getElem_cons_zero, execOp, Option.map_some, Option.map_none]; rw [q21]
                  first | (go_simp; done) | (go_simp; rfl) | rfl
                · refine RU.ObT.silent rfl (fun a W k0 V hO hf hp hk => ?_)
                  have hg : a.eval (.tmp 18) = .bool true := hp 1 18 rfl
                  have hO' : Below wr.heap.size wr W := hO
                  have q22 : a.eval (.tmp 22) = .pointer (some ⟨g, p + j * 64, none⟩) := hp 5 22 rfl
                  exact RU.ob_op rfl (RU.wanted_some rfl rfl rfl hg) (wp_load_mid 23 (.tmp 22) rfl (g) (p + j * 64) q22 (bv pz) _ (range_below RZW.out hO' LZW.out) Tryd.underlying23 rfl (size_l32 HPZ.out) ⟨rfl, hO⟩)
                · refine RU.ObT.silent rfl (fun a W k0 V hO hf hp hk => ?_)
                  have hg : a.eval (.tmp 18) = .bool true := hp 1 18 rfl
                  refine RU.ob_val rfl (RU.wanted_some rfl rfl rfl hg) (fun ev he hc => ?_) ⟨rfl, hO⟩
                  have q0 : ev (.tmp 0) = .slice (some ⟨lb, lo, none⟩) len cap := (he (.tmp 0)).trans (hf 0 rfl)
                  simp only [List.getElem_toArray, List.getElem_cons_succ, List.getElem_cons_zero, execOp, Option.map_some, Option.map_none]; rw [q0]
                  first | (go_simp; done) | (go_simp; rfl) | rfl
                · refine RU.ObT.silent rfl (fun a W k0 V hO hf hp hk => ?_)
                  have hg : a.eval (.tmp 18) = .bool true := hp 1 18 rfl
                  refine RU.ob_val rfl (RU.wanted_some rfl rfl rfl hg) (fun ev he hc => ?_) ⟨rfl, hO⟩
                  have q4 : ev (.tmp 4) = .int .i64 (k : Int) := (he (.tmp 4)).trans (hf 4 rfl)
                  simp only [List.getElem_toArray, List.getElem_cons_succ, List.getElem_cons_zero, execOp, Option.map_some, Option.map_none]; rw [q4]
                  first | (go_simp; done) | (go_simp; rfl) | rfl
                · refine RU.ObT.silent rfl (fun a W k0 V hO hf hp hk => ?_)
                  have hg : a.eval (.tmp 18) = .bool true := hp 1 18 rfl
                  refine RU.ob_val rfl (RU.wanted_some rfl rfl rfl hg) (fun ev he hc => ?_) ⟨rfl, hO⟩
                  have q24 : ev (.tmp 24) = .slice (some ⟨lb, lo, none⟩) len cap := (he (.tmp 24)).trans (hp 7 24 rfl)
                  have q25 : ev (.tmp 25) = .int .i64 (k : Int) := (he (.tmp 25)).trans (hp 8 25 rfl)
                  simp only [List.getElem_toArray, List.getElem_cons_succ, List.getElem_cons_zero, execOp, Option.map_some, Option.map_none]; rw [q24, q25]
                  have hk9 : (k : Int) < (len : Int) := by omega
                  first | (go_simp; done) | (go_simp; rfl) | rfl
                · refine RU.ObT.silent rfl (fun a W k0 V hO hf hp hk => ?_)
                  have hg : a.eval (.tmp 18) = .bool true := hp 1 18 rfl
                  refine RU.ob_val rfl (RU.wanted_some rfl rfl rfl hg) (fun ev he hc => ?_) ⟨rfl, hO⟩
                  have q26 : ev (.tmp 26) = .pointer (some ⟨lb, lo + k * 64, none⟩) := (he (.tmp 26)).trans (hp 9 26 rfl)
                  simp only [List.getElem_toArray, List.getElem_cons_succ, List.getElem_cons_zero, execOp, Option.map_some, Option.map_none]; rw [q26]
                  first | (go_simp; done) | (go_simp; rfl) | rfl
                · refine RU.ObT.silent rfl (fun a W k0 V hO hf hp hk => ?_)
                  have hg : a.eval (.tmp 18) = .bool true := hp 1 18 rfl
                  have hO' : Below wr.heap.size wr W := hO
                  have q27 : a.eval (.tmp 27) = .pointer (some ⟨lb, lo + k * 64, none⟩) := hp 10 27 rfl
                  exact RU.ob_op rfl (RU.wanted_some rfl rfl rfl hg) (wp_load_mid 23 (.tmp 27) rfl (lb) (lo + k * 64) q27 (bv px) _ (range_below RXW.out hO' LXW.out) Tryd.underlying23 rfl (size_l32 HPX.out) ⟨rfl, hO⟩)
                · refine RU.ObT.silent rfl (fun a W k0 V hO hf hp hk => ?_)
                  have hg : a.eval (.tmp 18) = .bool true := hp 1 18 rfl
                  refine RU.ob_val rfl (RU.wanted_some rfl rfl rfl hg) (fun ev he hc => ?_) ⟨rfl, hO⟩
                  have q23 : ev (.tmp 23) = .agg (bv pz).toArray := (he (.tmp 23)).trans (hp 6 23 rfl)
                  have q28 : ev (.tmp 28) = .agg (bv px).toArray := (he (.tmp 28)).trans (hp 11 28 rfl)
                  simp only [List.getElem_toArray, List.getElem_cons_succ, List.getElem_cons_zero, execOp, Option.map_some, Option.map_none]; rw [q23, q28]
                  simp only [Sem.run_bind, eqg_32, HNQ.out W, Result.andThen_ok, Sem.run_pure]; rfl
                · refine RU.ObT.pure rfl rfl rfl (fun a V hf hp ev he hc W => ?_)
                  have q18 : ev (.tmp 18) = .bool true := (he (.tmp 18)).trans (hp 1 18 rfl)
                  have q29 : ev (.tmp 29) = .bool q := (he (.tmp 29)).trans (hp 12 29 rfl)
                  simp only [List.getElem_toArray, List.getElem_cons_succ, List.getElem_cons_zero, execOp, Option.map_some, Option.map_none]; rw [q18, q29]
                  try simp only [hc]
                  first | (go_simp; done) | (go_simp; rfl) | rfl
                · refine RU.ObT.pure rfl rfl rfl (fun a V hf hp ev he hc W => ?_)
                  have q30 : ev (.tmp 30) = .bool q := (he (.tmp 30)).trans (hp 13 30 rfl)
                  simp only [List.getElem_toArray, List.getElem_cons_succ, List.getElem_cons_zero, execOp, Option.map_some, Option.map_none]; rw [q30]
                  first | (go_simp; done) | (go_simp; rfl) | rfl
              intro W1 VW1 hOW1
              have BW1 : Hid (Below wr.heap.size wr W1) := hOW1
              clear hOW1
              simp only [RU.lay, RU.val, RU.at', ds91f, Act.put]
              simp only [List.setIfInBounds_toArray, List.set_cons_succ, List.set_cons_zero]
              go_wp2_with fail
              exact ⟨⟨j + 1, q, by omega, by go_num, rfl, by rw [HXP.out]; exact HTK.out.symm, Below.tr' H5.out BW1.out⟩, by simp [intOf]; omega⟩
          · obtain rfl : j = n := by omega
            have HDN : Hid (dsN out x = q) := by show _ = q; rw [HQ.out, ← HSN.out, List.take_length]; rfl
            have C5 : Hid (Below w.heap.size w wr) := H4.out.trans (H5.out.mono H4.out.size)
            have NV : Hid (LO w.heap.size wr (.slice ad j cp) out) := HNO.out.below H5.out
            cases q with
            | false =>
              have HE : Hid (dst (ls.take (k + 1)) = out) := by show _ = _; rw [HSU.out]; unfold dsA; rw [HDN.out, if_neg (by decide)]
              go_wp2_with fail
              exact ⟨⟨k + 1, by omega, by go_num, by rw [HE.out]; exact NV.out, C5.out⟩, by simp [intOf]; omega⟩
            | true =>
              have HE : Hid (dst (ls.take (k + 1)) = out ++ [x]) := by show _ = _; rw [HSU.out]; unfold dsA; rw [HDN.out, if_pos rfl]
              have RXL : Hid (wr.rangeAt lb (lo + k * 64) (lfc x)) := range_below HRX.out H5.out HLB.out
              go_wp2_with (first
                | (refine ld 41 (.tmp 36) rfl rfl lb (lo + k * 64) rfl (lfc x) _ RXL.out Tryd.underlying41 rfl (size_lfc HX.out) ?_)
                | (refine wpList_onel rfl (.tmp 37) rfl x HX.out rfl ?_)
                | (at_builtin; refine wp_appl rfl (.tmp 33) (.tmp 38) rfl rfl w.heap.size (.slice ad j cp) (.slice (some ⟨wr.heap.size, 0, none⟩) 1 1) out [x] rfl rfl (NV.out.alloc _) (fun z hz => by simp at hz; subst hz; exact HX.out) (ls_one wr x _) (by have h1 := HSN.out; simp only [List.length_cons, List.length_nil]; omega) ?_; intro v3 w3 g1 g2; have N3 : Hid (LO w.heap.size w3 v3 (out ++ [x])) := g1; have C3 : Hid (Below w.heap.size w w3) := (C5.out.alloc C5.out.size _).trans g2; clear g1 g2))
              exact ⟨⟨k + 1, by omega, by go_num, by rw [HE.out]; exact N3.out, C3.out⟩, by simp [intOf]; omega⟩
    · obtain rfl : k = len := by omega
      go_wp2_with fail
      go_ret
      refine ⟨_, rfl, ?_, H4.out⟩
      have := HNO.out
      rw [← HLN.out, List.take_length] at this
      exact this
end Go.Proofs.YtkeobajlikhghaaDoor
