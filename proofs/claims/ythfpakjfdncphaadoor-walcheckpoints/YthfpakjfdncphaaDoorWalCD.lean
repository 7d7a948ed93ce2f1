/- WalCheckpoints, walked. -/
import Derived.Test.YthfpakjfdncphaaDoorWalCC
namespace Go.Proofs.YthfpakjfdncphaaDoor
open Go Go.RowKit
set_option linter.unusedSimpArgs false
set_option linter.unusedVariables false
set_option maxRecDepth 100000

/-- A list of the law's own, of slices that came in. -/
structure Wo (S : Nat → Prop) (B : Nat) (w : World) (v : Value) (us : List Value) (rs : List (List Int)) : Prop where
  len : us.length = rs.length
  ov : OV B w v us
  nb : ∀ b, v.ownBlock = some b → ¬ S b
  mem : ∀ (i : Nat) (u : Value), us[i]? = some u → Sq w u (mi rs i) ∧ ∀ b, slB u = some b → b < B
theorem Wo.nil (S : Nat → Prop) (B : Nat) (w : World) : Wo S B w (.slice none 0 0) [] [] := ⟨rfl, ⟨rfl, .inl ⟨rfl, rfl⟩⟩, fun b e => (by cases e), fun i u h => by simp at h⟩
theorem Wo.wt {S : Nat → Prop} {B : Nat} {w : World} {v : Value} {us : List Value} {rs : List (List Int)} (h : Wo S B w v us rs) (hS : ∀ b, S b → B ≤ b) : Wt S w v us rs := by
  obtain ⟨o1, o2⟩ := h.ov.rs
  exact ⟨h.len, o1, fun b e => ⟨h.nb b e, (o2 b e).2⟩, fun i u hu => ⟨(h.mem i u hu).1, fun b e x => by have h1 := (h.mem i u hu).2 b e; have h2 := hS b x; omega⟩⟩
theorem OV.blk {B0 : Nat} {w w' : World} {v : Value} {us : List Value} (h : OV B0 w v us) (k : ∀ b, v.ownBlock = some b → w'.heap[b]? = w.heap[b]?) : OV B0 w' v us := by
  refine ⟨h.1, ?_⟩
  rcases h.2 with h1 | ⟨g, cap, cur, rfl, hg, hh, rest⟩
  · exact .inl h1
  · exact .inr ⟨g, cap, cur, rfl, hg, by rw [k g rfl]; exact hh, rest⟩
theorem Wo.nx {S S' : Nat → Prop} {B : Nat} {w w' : World} {v : Value} {us : List Value} {rs : List (List Int)} (h : Wo S B w v us rs) (hS : ∀ b, S b → B ≤ b) (n : Nx S w S' w') : Wo S' B w' v us rs := by
  have t := (h.wt hS).nx n
  exact ⟨h.len, h.ov.blk (fun b e => n.c.other b (h.ov.rs.2 b e).2 (h.nb b e)), fun b e => (t.nb b e).1, fun i u hu => ⟨(t.mem i u hu).1, (h.mem i u hu).2⟩⟩
/-- The law's own list grows. -/
theorem Lg.oth {S G : Nat → Prop} {B : Nat} {w0 w w' : World} {g : Nat} {s : Dk} {lg : Nat} {l : Lo} {q : Nat → Option (Nat × List (List Int))} (h : Lg S B w0 w g s lg l q) (hT : 0 < B ∧ 1 < B) (c : Chg G w w') (hG : ∀ b, G b → B ≤ b ∧ ¬ S b) : Lg S B w0 w' g s lg l q :=
  ⟨h.wl.chg c (fun b x => (hG b x).2) ⟨fun x => by have := (hG _ x).1; omega, fun x => by have := (hG _ x).1; omega⟩, h.lo, h.bel.trans (c.below h.bs (fun b x => (hG b x).1)), Nat.le_trans h.bs c.size, h.li, h.dn, h.fz, h.wt⟩
theorem Wo.push {u : Value} {S : Nat → Prop} {B : Nat} {w w' : World} {v v' : Value} {us : List Value} {rs : List (List Int)} (h : Wo S B w v us rs) (hS : ∀ b, S b → b < w.heap.size) (hgr : w.grownBy w' v.ownBlock) (ho : OV B w' v' (us ++ [u])) (hv : v'.ownBlock = v.ownBlock ∨ v'.ownBlock = some w.heap.size) {p : List Int} (hu : Sq w u p) (hub : ∀ b, slB u = some b → b < B) : Wo S B w' v' (us ++ [u]) (rs ++ [p]) := by
  have c : Chg (fun x => v.ownBlock = some x) w w' := ⟨hgr.os, hgr.tape, hgr.output, hgr.size, fun b hb hn => hgr.block b hb (fun e => hn e.symm)⟩
  have dis : ∀ b, b < B → ¬ v.ownBlock = some b := fun b hb e => by have := (h.ov.rs.2 b e).1; omega
  refine ⟨by simp [h.len], ho, fun b e x => ?_, fun i y hy => ?_⟩
  · rcases hv with k | k
    · rw [k] at e; exact h.nb b e x
    · rw [k] at e; cases e; have := hS _ x; omega
  · rcases Nat.lt_or_ge i us.length with hl | hl
    · rw [List.getElem?_append_left hl] at hy
      rw [mi_app_lo (by rw [← h.len]; exact hl)]
      obtain ⟨m1, m2⟩ := h.mem i y hy
      exact ⟨m1.chg c (fun b e => dis b (m2 b e)), m2⟩
    · rw [List.getElem?_append_right hl] at hy
      obtain ⟨h0, h1⟩ := List.getElem?_eq_some_iff.1 hy
      have ei : i = us.length := by simp at h0; omega
      subst ei
      simp at h1
      subst h1
      rw [h.len, mi_snoc_hi]
      exact ⟨hu.chg c (fun b e => dis b (hub b e)), hub⟩
/-- Both halves but the log's own are blank. -/
structure Fr (s : Dk) (l : Lo) (q : Nat → Option (Nat × List (List Int))) : Prop where
  n : s.n = 512
  fu : s.fu = false
  f0 : l.f0 = z64
  q0 : q 0 = none
  t : l.t ≤ 1
  f1 : l.t = 0 → l.f1 = z64
theorem Fr.next {s s' : Dk} {l l' : Lo} {q q' : Nat → Option (Nat × List (List Int))} (h : Fr s l q) (x : Xt l l' q q') (hn : s'.n = s.n) (hf : s'.fu = s.fu) : Fr s' l' q' := by
  refine ⟨by rw [hn]; exact h.n, by rw [hf]; exact h.fu, x.f0.trans h.f0, x.q0.trans h.q0, ?_, fun e => ?_⟩
  · by_cases h0 : l.t = 0
    · exact x.t0 h0
    · rw [x.t h0]; exact h.t
  · by_cases h0 : l.t = 0
    · exact (x.f1 h0 e).trans (h.f1 h0)
    · have := x.t h0; omega
theorem Fr.blank {s : Dk} {l : Lo} {q : Nat → Option (Nat × List (List Int))} (h : Fr s l q) (hi : LI s l q) (hd' : s.dn = false) (hw : s.wt = []) : q ((l.t + 1) % 2) = none ∧ s.st (hfF s.n (l.t + 1)) = z64 := by
  have hn := h.n
  have ht := h.t
  by_cases h0 : l.t = 0
  · have e1 : (l.t + 1) % 2 = 1 := by omega
    refine ⟨by rw [e1]; exact (hi.z h0).2.1, ?_⟩
    rw [← (hf_mod s.n (l.t + 1)).1, e1]
    have := hi.e1
    rw [rdV_st hd' hw (by rcases hf_cases s.n 1 with ⟨_, c, _⟩ | ⟨_, c, _⟩ <;> omega)] at this
    rw [← this]; exact h.f1 h0
  · have e1 : (l.t + 1) % 2 = 0 := by omega
    refine ⟨by rw [e1]; exact h.q0, ?_⟩
    rw [← (hf_mod s.n (l.t + 1)).1, e1]
    have := hi.e0
    rw [rdV_st hd' hw (by rcases hf_cases s.n 0 with ⟨_, c, _⟩ | ⟨_, c, _⟩ <;> omega)] at this
    rw [← this]; exact h.f0
theorem js_few {ns : List (List Int)} (h : ns.length ≤ 6) (hs : ∀ j, j < ns.length → (mi ns j).length ≤ 300) : ∀ k, k ≤ ns.length → js ns k ≤ 8 + 308 * k
  | 0, _ => by simp [js]
  | k + 1, hk => by
    have h1 := js_few h hs k (by omega)
    have h2 := hs k (by omega)
    simp only [js]; omega
/-- The log behind the checkpoint, opened anew: the old one or the new one. -/
theorem LI.after {s s2 : Dk} {l : Lo} {q : Nat → Option (Nat × List (List Int))} {n : Nat} {z : Int} (h : LI s l q) (hS : Sby s) (hd' : s.dn = false) (hz : s.fz = none) (hfu : s.fu = false) (hw : s.wt = []) {ns : List (List Int)} (hf : hfF s.n (l.t + 1) + fl (JS ns) < hfT s.n (l.t + 1)) (hR : Rok ns) (ht : l.t + 1 < 18446744073709551616) (hJ : JS ns < 18446744073709551616)
    (hq : q ((l.t + 1) % 2) = none) (hb : s.st (hfF s.n (l.t + 1)) = z64) (hl : LayF { s with fz := some n } (hfF s.n (l.t + 1)) (JN ((l.t + 1 : Nat) : Int) ns) z s2) (cs : List Int) :
    ∃ l3 q3, LI (rsS s2 cs) l3 q3 ∧ l3.g = l.g ∧ (rsS s2 cs).dn = false ∧ (rsS s2 cs).fz = none ∧ (rsS s2 cs).wt = [] ∧ ((z = 0 ∧ l3.rs = ns) ∨ (z = 9 ∧ (l3.rs = l.rs ∨ l3.rs = ns))) := by
  rcases hl.z with e | e
  · subst e
    obtain ⟨b1, b2, b3, b4, b5, b6⟩ := h.begin hS ⟨hd', hz, hfu⟩ hw hf hR ht hJ
    cases hl with
    | ok m =>
      have e2 : rsS { s with st := layS s.st (hfF s.n (l.t + 1)) (JN ((l.t + 1 : Nat) : Int) ns), wt := [], fz := some m } cs = { s with st := layS s.st (hfF s.n (l.t + 1)) (JN ((l.t + 1 : Nat) : Int) ns), wt := [] } := by
        show ({ s with st := layS s.st (hfF s.n (l.t + 1)) (JN ((l.t + 1 : Nat) : Int) ns), wt := [], dn := false, fz := none } : Dk) = _
        rw [← hz, ← hd']
      refine ⟨(bgR s l ns).2.2, qs q ((l.t + 1) % 2) (l.t + 1, ns), ?_, b5, rfl, rfl, rfl, .inl ⟨rfl, b3⟩⟩
      have e3 : rsS { n := s.n, st := layS s.st (hfF s.n (l.t + 1)) (JN ((l.t + 1 : Nat) : Int) ns), wt := [], fu := s.fu, dn := s.dn, fz := some m } cs = (bgR s l ns).2.1 := by rw [b2]; exact e2
      rw [show rsS { ({ s with fz := some n } : Dk) with st := layS ({ s with fz := some n } : Dk).st (hfF s.n (l.t + 1)) (JN ((l.t + 1 : Nat) : Int) ns), wt := [], fz := some m } cs = (bgR s l ns).2.1 from e3]
      exact b6
  · subst e
    obtain ⟨l3, q3, h1, h2, h3, h4, h5⟩ := h.crash hS hd' hw hf hR ht hJ hq hb hl cs
    exact ⟨l3, q3, h1, h2, rfl, rfl, rfl, .inr ⟨rfl, h3⟩⟩
theorem rs_one (w : World) (u : Value) (t : TypeId) : RS (w.alloc (.cells #[u] t)) (.slice (some ⟨w.heap.size, 0, none⟩) 1 1) [u] := by
  refine ⟨_, 1, rfl, Nat.le_refl _, .inr ⟨w.heap.size, 0, rfl, by simp, fun i y hy => ?_⟩⟩
  have hi : i = 0 := by have := (List.getElem?_eq_some_iff.1 hy).1; simp at this; omega
  subst hi
  simp at hy
  subst hy
  simp only [World.cell?, row_new, Nat.zero_add, Option.isSome_none, Bool.false_eq_true, if_false]; rfl
theorem LQ.ll {w w' : World} {v : Value} {xss : List (List Int)} (h : LQ w v xss) (hb : Below w.heap.size w w') (hn : v = .slice none 0 0 ∨ ∃ a l c, v = .slice (some a) l c) : LL w' v xss := by
  obtain ⟨ad, cap, rfl, hc, hm⟩ := h
  refine ⟨ad, cap, rfl, hc, ?_⟩
  rcases hm with rfl | ⟨b, o, rfl, hlt, hm⟩
  · refine .inl ⟨rfl, fun e => ?_⟩
    rcases hn with k | ⟨a, l', c', k⟩
    · cases k; rfl
    · rw [e] at k; cases k
  · refine .inr ⟨b, o, rfl, Nat.lt_of_lt_of_le hlt hb.size, fun i hi => ?_⟩
    obtain ⟨u, h1, h2⟩ := hm i hi
    exact ⟨u, (hb.cell (p := ⟨b, o + i, none⟩) hlt).trans h1, h2.sl.below hb (Nat.le_refl _)⟩
set_option maxHeartbeats 8000000 in
theorem checks_any (hs ns : List (List Int)) (cs : List Int) (v0 v1 v2 : Value) (w : World) (hT : Tb w) (h0 : LQ w v0 hs) (h1 : LQ w v1 ns) (h2 : Sl w v2 cs) (hb0 : ∀ m ∈ hs, Byt m ∧ m.length ≤ 140737488351232) (hb1 : ∀ m ∈ ns, Byt m ∧ m.length ≤ 140737488351232) (hl0 : hs.length ≤ 5864062014805) (hl1 : ns.length ≤ 5864062014805) (hlc : cs.length ≤ 140737488351232) (hn1 : v1 = .slice none 0 0 ∨ ∃ a l c, v1 = .slice (some a) l c) :
    Calls Tryd.prog 6 #[v0, v1, v2] w fun e w' => e = .returned (.bool true) ∧ Below w.heap.size w w' := by
  have HT : Hid (Tb w) := hT
  have HY0 : Hid (∀ m ∈ hs, Byt m ∧ m.length ≤ 140737488351232) := hb0
  have HY1 : Hid (∀ m ∈ ns, Byt m ∧ m.length ≤ 140737488351232) := hb1
  have HQ1 : Hid (∀ w', Below w.heap.size w w' → LL w' v1 ns) := fun w' hb => h1.ll hb hn1
  clear hn1
  have HC : Hid (Sl w v2 cs) := h2
  obtain ⟨ad0, cap0, rfl, hc0, hm0⟩ := h0
  obtain ⟨ad1, cap1, rfl, hc1, hm1⟩ := h1
  obtain ⟨ad2, cap2, rfl, -, -⟩ := h2
  have HM0 : Hid (hs = [] ∨ ∃ b o, ad0 = some ⟨b, o, none⟩ ∧ b < w.heap.size ∧ ∀ i, i < hs.length → ∃ u, w.cell? ⟨b, o + i, none⟩ = some u ∧ Sq w u (mi hs i)) := hm0
  have HM1 : Hid (ns = [] ∨ ∃ b o, ad1 = some ⟨b, o, none⟩ ∧ b < w.heap.size ∧ ∀ i, i < ns.length → ∃ u, w.cell? ⟨b, o + i, none⟩ = some u ∧ Sq w u (mi ns i)) := hm1
  clear hT hb0 hb1 hm0 hm1
  by_cases g0 : (6 : Int) < (hs.length : Int)
  · go_enter Tryd.func6, Tryd.ntmps6
    go_wp2_with fail
    refine (awake_any w HT.out).mono ?_
    rintro e w1 ⟨rfl, hb1⟩
    have HB1 : Hid (Below w.heap.size w w1) := hb1
    clear hb1
    go_wp2_with fail
    go_ret
    exact ⟨rfl, HB1.out⟩
  by_cases g1 : (6 : Int) < (ns.length : Int)
  · go_enter Tryd.func6, Tryd.ntmps6
    go_wp2_with fail
    refine (awake_any w HT.out).mono ?_
    rintro e w1 ⟨rfl, hb1⟩
    have HB1 : Hid (Below w.heap.size w w1) := hb1
    clear hb1
    go_wp2_with fail
    go_ret
    exact ⟨rfl, HB1.out⟩
  go_enter Tryd.func6, Tryd.ntmps6
  go_wp2_with fail
  refine (awake_any w HT.out).mono ?_
  rintro e w1 ⟨rfl, hb1⟩
  have HB1 : Hid (Below w.heap.size w w1) := hb1
  clear hb1
  go_wp2_with fail
  go_loopw [29] (fun i wr => ∃ k : Nat, k ≤ ns.length ∧ i = .int .i64 (k : Int) ∧ wr = w1 ∧ ∀ j, j < k → (mi ns j).length ≤ 300) (fun i _ => ns.length - (intOf i).toNat)
  case atStart => exact ⟨0, Nat.zero_le _, rfl, rfl, fun j hj => by omega⟩
  case round =>
    obtain ⟨k, hk, rfl, rfl, hsm⟩ := hrel
    have HSM : Hid (∀ j, j < k → (mi ns j).length ≤ 300) := hsm
    clear hsm
    by_cases hlt : k < ns.length
    · rcases HM1.out with h00 | ⟨b, o, rfl, hlb, hmm⟩
      · rw [h00] at hlt; simp at hlt
      · obtain ⟨u, hcu, hu⟩ := hmm k hlt
        have hcw : wr.cell? ⟨b, o + k, none⟩ = some u := (HB1.out.cell (p := ⟨b, o + k, none⟩) hlb).trans hcu
        obtain ⟨uad, ucp, hue, -, -⟩ := hu.sl
        subst hue
        obtain ⟨M, hM⟩ : ∃ M, (mi ns k).length = M := ⟨_, rfl⟩
        have HMM : Hid ((mi ns k).length = M) := hM
        rw [hM] at hcw
        have hkk : (k : Int) < (ns.length : Int) := by omega
        clear hmm hcu hu hM
        by_cases h300 : (300 : Int) < (M : Int)
        · go_wp2_with fail
          go_ret
          exact ⟨rfl, HB1.out⟩
        · go_wp2_with fail
          exact ⟨⟨k + 1, hlt, by go_num, trivial, fun j hj => by
            rcases Nat.lt_or_ge j k with x | x
            · exact HSM.out j x
            · have : j = k := by omega
              rw [this, HMM.out]; omega⟩, by simp [intOf]; omega⟩
    · obtain rfl : k = ns.length := by omega
      have HSN : Hid (∀ j, j < ns.length → (mi ns j).length ≤ 300) := HSM.out
      clear HSM
      have HRN : Hid (Rok ns) := fun m hm => by
        obtain ⟨j, hj, rfl⟩ := List.getElem_of_mem hm
        have := HSN.out j hj
        rw [mi_get hj] at this
        exact ⟨(HY1.out _ (List.getElem_mem hj)).1, by omega⟩
      have HJN : Hid (JS ns ≤ 1856) := by
        show _ ≤ _
        have := js_few (by omega) HSN.out ns.length (Nat.le_refl _)
        unfold JS; omega
      go_wp2_with fail
      go_loopw [8] (fun i wx => ∃ at' : Nat, at' ≤ 101 ∧ i = .int .i64 (at' : Int) ∧ Below w.heap.size w wx) (fun i _ => 102 - (intOf i).toNat)
      case atStart => exact ⟨0, by omega, rfl, HB1.out⟩
      case round =>
        obtain ⟨at', hat, rfl, hbx⟩ := hrel
        have HBX : Hid (Below w.heap.size w wr) := hbx
        clear hbx HB1
        go_wp2_with fail
        refine (new_any wr 512 (by omega) (by omega)).mono ?_
        rintro e w2 ⟨g, rfl, F, h1, h2, h3⟩
        have HP : Hid (PD F w2 g (dk0 512)) := h1
        have HB2 : Hid (Below w.heap.size w w2) := HBX.out.trans (h2.mono HBX.out.size)
        have HF : Hid (∀ b, F b → w.heap.size ≤ b) := fun b x => Nat.le_trans HBX.out.size (h3 b x)
        clear h1 h2 h3
        go_wp2_with fail
        refine (opened_new (B := w.heap.size) (w0 := w) _ HP.out (HT.out.below HB2.out) (by omega) HF.out HB2.out HB2.out.size HT.out.lt).mono ?_
        rintro e w3 ⟨lg, rfl, S3, h31, h32, h33⟩
        have L3 : Hid (Lg S3 w.heap.size w w3 g (dk0 512) lg (l0 g) (fun _ => none)) := ⟨h31, h32, h33, h33.size, LI.new 512 g (by omega), rfl, rfl, rfl⟩
        clear h31 h32 h33 HP HF HB2 HBX
        go_wp2_with fail
        go_loopw [13, 54] (fun wv i wy => ∃ (k : Nat) (us : List Value) (s : Dk) (l : Lo) (q : Nat → Option (Nat × List (List Int))) (S : Nat → Prop), k ≤ hs.length ∧ i = .int .i64 (k : Int) ∧ Lg S w.heap.size w wy g s lg l q ∧ Wo S w.heap.size wy wv us l.rs ∧ Fr s l q) (fun _ i _ => hs.length - (intOf i).toNat)
        case atStart => exact ⟨0, [], _, _, _, S3, Nat.zero_le _, rfl, L3.out, Wo.nil _ _ _, ⟨rfl, rfl, rfl, rfl, Nat.zero_le _, fun _ => rfl⟩⟩
        case round =>
          obtain ⟨k, us, s, l, q, S, hk, rfl, hL, hW, hFr⟩ := hrel
          have L4 : Hid (Lg S w.heap.size w wr g s lg l q) := hL
          have W4 : Hid (Wo S w.heap.size wr u13 us l.rs) := hW
          have F4 : Hid (Fr s l q) := hFr
          clear hL hW hFr L3
          by_cases hlt : k < hs.length
          · rcases HM0.out with h00 | ⟨b, o, rfl, hlb, hmm⟩
            · rw [h00] at hlt; simp at hlt
            · obtain ⟨u, hcu, hu⟩ := hmm k hlt
              obtain ⟨p, hp⟩ : ∃ p, mi hs k = p := ⟨_, rfl⟩
              have hpm : p ∈ hs := by rw [← hp, mi_get hlt]; exact List.getElem_mem hlt
              have HPY : Hid (Byt p ∧ p.length ≤ 140737488351232) := HY0.out p hpm
              rw [hp] at hu
              obtain ⟨uad, ucp, hue, -, -⟩ := hu.sl
              subst hue
              have HU : Hid (Sq w (.slice uad p.length ucp) p) := hu
              have HCU : Hid (w.cell? ⟨b, o + k, none⟩ = some (.slice uad p.length ucp)) := hcu
              have HLB : Hid (b < w.heap.size) := hlb
              have hcw : wr.cell? ⟨b, o + k, none⟩ = some (.slice uad p.length ucp) := (L4.out.bel.cell (p := ⟨b, o + k, none⟩) hlb).trans hcu
              have hkk : (k : Int) < (hs.length : Int) := by omega
              have UR : Hid (Sq wr (.slice uad p.length ucp) p) := ⟨hu.sl.below L4.out.bel (Nat.le_refl _), fun A l c e h0 => ⟨(hu.some' A l c e h0).1, Nat.lt_of_lt_of_le (hu.some' A l c e h0).2 L4.out.bs⟩, hu.none'⟩
              have UN : Hid (∀ b', slB (.slice uad p.length ucp) = some b' → b' < wr.heap.size ∧ ¬ S b') := fun b' e => ⟨Nat.lt_of_lt_of_le (hu.own e) L4.out.bs, fun x => by have h1 := hu.own e; have h2 := L4.out.lo b' x; omega⟩
              have hpl := HPY.out.2
              clear hmm hcu hu hp hpm hlb
              by_cases h200 : (p.length : Int) ≤ 200
              · go_wp2_with fail
                refine (append_lgx L4.out (by have := F4.out.t; omega) p _ UR.out HPY.out.1 UN.out).mono ?_
                rintro e W5 ⟨z, s5, l5, q5, S5, rfl, h51, h52, h53, h54, h55, hap, hxt⟩
                have L5 : Hid (Lg S5 w.heap.size w W5 g s5 lg l5 q5) := h51
                have F5 : Hid (Fr s5 l5 q5) := F4.out.next hxt h53 h54
                have V5 : Hid (Wo S5 w.heap.size W5 u13 us l.rs) := W4.out.nx L4.out.lo h52
                have hc5 := (h51.bel.cell (p := ⟨b, o + k, none⟩) HLB.out).trans HCU.out
                clear h51 h52 h53 h54 h55 hxt L4 F4 W4 UR UN hcw
                cases hap with
                | ok hz hrs hfu' hp6 =>
                  subst hz
                  have BA : Below W5.heap.size W5 (W5.alloc (.cells #[.slice uad p.length ucp] 32)) := (Below.refl _ W5).alloc (Nat.le_refl _) _
                  have VA : Hid (Wo S5 w.heap.size (W5.alloc (.cells #[.slice uad p.length ucp] 32)) u13 us l.rs) := V5.out.nx L5.out.lo (Nx.below BA)
                  have LA5 : Hid (Lg S5 w.heap.size w (W5.alloc (.cells #[.slice uad p.length ucp] 32)) g s5 lg l5 q5) := L5.out.below BA
                  have UA : Hid (Sq (W5.alloc (.cells #[.slice uad p.length ucp] 32)) (.slice uad p.length ucp) p) := ⟨HU.out.sl.below LA5.out.bel (Nat.le_refl _), fun A l c e h0 => ⟨(HU.out.some' A l c e h0).1, Nat.lt_of_lt_of_le (HU.out.some' A l c e h0).2 LA5.out.bs⟩, HU.out.none'⟩
                  have HUL : Hid (us.length ≤ 999999999) := by
                    show _ ≤ _
                    obtain ⟨h1, h2, -⟩ := L5.out.sby
                    have h3 := L5.out.li.rsl h1 h2
                    rw [hrs] at h3
                    rw [VA.out.len]
                    simp at h3
                    omega
                  clear BA V5
                  go_wp2_with (at_builtin; refine app_us (B0 := w.heap.size) rfl (.tmp 72) (.tmp 77) rfl LA5.out.bs _ us rfl VA.out.ov _ rfl [.slice uad p.length ucp] (rs_one W5 _ _) (fun y hy => by simp at hy; subst hy; rfl) (by have := HUL.out; simp; omega) ?_; intro v13 W6 o1 g1 e1; have P6 : Hid (Wo S5 w.heap.size W6 v13 (us ++ [.slice uad p.length ucp]) (l.rs ++ [p])) := VA.out.push (fun b' x => LA5.out.wl.lt x) g1 o1 e1 UA.out (fun b' e => HU.out.own e); have L6 : Hid (Lg S5 w.heap.size w W6 g s5 lg l5 q5) := LA5.out.oth (G := fun x => u13.ownBlock = some x) HT.out.lt ⟨g1.os, g1.tape, g1.output, g1.size, fun b' hb' hn' => g1.block b' hb' (fun e => hn' e.symm)⟩ (fun b' e => ⟨(VA.out.ov.rs.2 b' e).1, VA.out.nb b' e⟩); clear o1 g1 e1)
                  exact ⟨⟨k + 1, _, s5, l5, q5, S5, hlt, by go_num, L6.out, by rw [hrs]; exact P6.out, F5.out⟩, by simp [intOf]; omega⟩
                | full hz hrs hp6 hor =>
                  subst hz
                  have V5' : Hid (Wo S5 w.heap.size W5 u13 us l5.rs) := by show Wo _ _ _ _ _ _; rw [hrs]; exact V5.out
                  clear hor hrs
                  go_wp2_with fail
                  exact ⟨⟨k + 1, us, s5, l5, q5, S5, hlt, by go_num, L5.out, V5'.out, F5.out⟩, by simp [intOf]; omega⟩
                | large hz hrs hp6 => omega
              · go_wp2_with fail
                exact ⟨⟨k + 1, us, s, l, q, S, hlt, by go_num, L4.out, W4.out, F4.out⟩, by simp [intOf]; omega⟩
          · obtain rfl : k = hs.length := by omega
            have HG4 : Hid (Sby s ∧ s.n ≤ 65536 ∧ l.g = g) := L4.out.sby
            have HFT : Hid (hfF s.n (l.t + 1) + fl (JS ns) < hfT s.n (l.t + 1)) := by
              show _ < _
              have h1 := HJN.out
              have h2 := F4.out.n
              have h3 : hfT s.n (l.t + 1) = hfF s.n (l.t + 1) + s.n / 2 := rfl
              have h4 : fl (JS ns) ≤ 30 := by unfold fl; omega
              omega
            have hrs4 := L4.out.li.rsl HG4.out.1 HG4.out.2.1
            go_wp2_with fail
            refine (setFuse_lg L4.out at' (by omega)).mono ?_
            rintro e W5 ⟨rfl, S5, h51, h52⟩
            have L5 : Hid (Lw S5 w.heap.size w W5 g { s with fz := some at' } lg l) := h51
            have V5 : Hid (Wo S5 w.heap.size W5 u13 us l.rs) := W4.out.nx L4.out.lo h52
            clear h51 h52
            go_wp2_with fail
            refine (checkpoint_fz L5.out L4.out.li HG4.out.1 HG4.out.2.1 L4.out.dn F4.out.fu L4.out.wt (by have := F4.out.t; omega) ns _ (fun w' c => HQ1.out w' (L5.out.bel.trans (c.below L5.out.bs L5.out.lo))) HRN.out (by omega) HFT.out).mono ?_
            rintro e W6 ⟨z, s2, l2, S6, rfl, h61, h62, hz, hlay⟩
            have L6 : Hid (Lw S6 w.heap.size w W6 g s2 lg l2) := h61
            have V6 : Hid (Wo S6 w.heap.size W6 u13 us l.rs) := V5.out.nx L5.out.lo h62
            obtain ⟨hbl1, hbl2⟩ := F4.out.blank L4.out.li L4.out.dn L4.out.wt
            obtain ⟨l3, q3, hi3, hg3, d1, d2, d3, hor⟩ := L4.out.li.after HG4.out.1 L4.out.dn L4.out.fz F4.out.fu L4.out.wt HFT.out HRN.out (by have := F4.out.t; omega) (by have := HJN.out; omega) hbl1 hbl2 hlay cs
            have HI3 : Hid (LI (rsS s2 cs) l3 q3 ∧ l3.g = g ∧ (rsS s2 cs).dn = false ∧ (rsS s2 cs).fz = none ∧ (rsS s2 cs).wt = []) := ⟨hi3, hg3.trans HG4.out.2.2, d1, d2, d3⟩
            clear h61 h62 hlay hbl1 hbl2 hi3 hg3 d1 d2 d3 L5 V5 hz
            rcases hor with ⟨hz, hrs3⟩ | ⟨hz, hrs3 | hrs3⟩
            · subst hz
              go_wp2_with fail
              refine (restart_lw L6.out cs _ (HC.out.below L6.out.bel (Nat.le_refl _)) (fun b' e hne x => by
                obtain ⟨ad', cap', hv', -, hcc⟩ := HC.out
                rw [hv'] at e
                rcases hcc with ⟨h0, _⟩ | ⟨b'', o'', rfl, hlt', _⟩
                · exact hne h0
                · cases e; have h9 : w.heap.size ≤ b'' := L6.out.lo _ x; omega) (by omega)).mono ?_
              rintro e W7 ⟨rfl, F7, h71, h72⟩
              have P7 : Hid (Pq F7 w.heap.size w W7 g (rsS s2 cs)) := h71
              have V7 : Hid (Wo F7 w.heap.size W7 u13 us l.rs) := V6.out.nx L6.out.lo h72
              clear h71 h72 L6 V6
              go_wp2_with fail
              refine (open_pq P7.out HI3.out.1 HI3.out.2.1 HI3.out.2.2.1 HI3.out.2.2.2.1 HI3.out.2.2.2.2 _).mono ?_
              rintro e W8 ⟨lg', rfl, S8, h81, h82⟩
              have L8 : Hid (Lg S8 w.heap.size w W8 g (rsS s2 cs) lg' l3 q3) := h81
              have V8 : Hid (Wo S8 w.heap.size W8 u13 us l.rs) := V7.out.nx P7.out.lo h82
              clear h81 h82 P7 V7
              go_wp2_with fail
              refine (records_lg L8.out).mono ?_
              rintro e W9 ⟨v9, S9, us9, B9, rfl, h91, h92, h93⟩
              have L9 : Hid (Lg S9 w.heap.size w W9 g (rsS s2 cs) lg' l3 q3) := h91
              have V9 : Hid (Wo S9 w.heap.size W9 u13 us l.rs) := V8.out.nx L8.out.lo h92
              have O9 : Hid (LL W9 v9 l3.rs) := h93.ll
              clear h91 h92 h93 L8 V8
              have O9' : Hid (LL W9 v9 ns) := by show LL _ _ _; rw [← hrs3]; exact O9.out
              go_wp2_with fail
              refine (sameList_same ns _ _ W9 O9'.out (HQ1.out W9 L9.out.bel) (by omega)).mono ?_
              rintro e W10 ⟨rfl, hb10⟩
              have B10 : Hid (Below w.heap.size w W10) := L9.out.bel.trans (hb10.mono L9.out.bs)
              clear hb10
              go_wp2_with fail
              go_ret
              exact ⟨rfl, B10.out⟩
            · subst hz
              go_wp2_with fail
              refine (restart_lw L6.out cs _ (HC.out.below L6.out.bel (Nat.le_refl _)) (fun b' e hne x => by
                obtain ⟨ad', cap', hv', -, hcc⟩ := HC.out
                rw [hv'] at e
                rcases hcc with ⟨h0, _⟩ | ⟨b'', o'', rfl, hlt', _⟩
                · exact hne h0
                · cases e; have h9 : w.heap.size ≤ b'' := L6.out.lo _ x; omega) (by omega)).mono ?_
              rintro e W7 ⟨rfl, F7, h71, h72⟩
              have P7 : Hid (Pq F7 w.heap.size w W7 g (rsS s2 cs)) := h71
              have V7 : Hid (Wo F7 w.heap.size W7 u13 us l.rs) := V6.out.nx L6.out.lo h72
              clear h71 h72 L6 V6
              go_wp2_with fail
              refine (open_pq P7.out HI3.out.1 HI3.out.2.1 HI3.out.2.2.1 HI3.out.2.2.2.1 HI3.out.2.2.2.2 _).mono ?_
              rintro e W8 ⟨lg', rfl, S8, h81, h82⟩
              have L8 : Hid (Lg S8 w.heap.size w W8 g (rsS s2 cs) lg' l3 q3) := h81
              have V8 : Hid (Wo S8 w.heap.size W8 u13 us l.rs) := V7.out.nx P7.out.lo h82
              clear h81 h82 P7 V7
              go_wp2_with fail
              refine (records_lg L8.out).mono ?_
              rintro e W9 ⟨v9, S9, us9, B9, rfl, h91, h92, h93⟩
              have L9 : Hid (Lg S9 w.heap.size w W9 g (rsS s2 cs) lg' l3 q3) := h91
              have V9 : Hid (Wo S9 w.heap.size W9 u13 us l.rs) := V8.out.nx L8.out.lo h92
              have O9 : Hid (LL W9 v9 l3.rs) := h93.ll
              clear h91 h92 h93 L8 V8
              have O9' : Hid (LL W9 v9 l.rs) := by show LL _ _ _; rw [← hrs3]; exact O9.out
              go_wp2_with fail
              refine (sameList_same l.rs _ _ W9 O9'.out (V9.out.wt L9.out.lo).ll (by omega)).mono ?_
              rintro e W10 ⟨rfl, hb10⟩
              have B10 : Hid (Below w.heap.size w W10) := L9.out.bel.trans (hb10.mono L9.out.bs)
              clear hb10
              by_cases ha : (100 : Int) < (at' : Int)
              · go_wp2_with fail
                go_ret
                exact ⟨rfl, B10.out⟩
              · go_wp2_with fail
                exact ⟨⟨at' + 1, by omega, by go_num, B10.out⟩, by simp [intOf]; omega⟩
            · subst hz
              go_wp2_with fail
              refine (restart_lw L6.out cs _ (HC.out.below L6.out.bel (Nat.le_refl _)) (fun b' e hne x => by
                obtain ⟨ad', cap', hv', -, hcc⟩ := HC.out
                rw [hv'] at e
                rcases hcc with ⟨h0, _⟩ | ⟨b'', o'', rfl, hlt', _⟩
                · exact hne h0
                · cases e; have h9 : w.heap.size ≤ b'' := L6.out.lo _ x; omega) (by omega)).mono ?_
              rintro e W7 ⟨rfl, F7, h71, h72⟩
              have P7 : Hid (Pq F7 w.heap.size w W7 g (rsS s2 cs)) := h71
              have V7 : Hid (Wo F7 w.heap.size W7 u13 us l.rs) := V6.out.nx L6.out.lo h72
              clear h71 h72 L6 V6
              go_wp2_with fail
              refine (open_pq P7.out HI3.out.1 HI3.out.2.1 HI3.out.2.2.1 HI3.out.2.2.2.1 HI3.out.2.2.2.2 _).mono ?_
              rintro e W8 ⟨lg', rfl, S8, h81, h82⟩
              have L8 : Hid (Lg S8 w.heap.size w W8 g (rsS s2 cs) lg' l3 q3) := h81
              have V8 : Hid (Wo S8 w.heap.size W8 u13 us l.rs) := V7.out.nx P7.out.lo h82
              clear h81 h82 P7 V7
              go_wp2_with fail
              refine (records_lg L8.out).mono ?_
              rintro e W9 ⟨v9, S9, us9, B9, rfl, h91, h92, h93⟩
              have L9 : Hid (Lg S9 w.heap.size w W9 g (rsS s2 cs) lg' l3 q3) := h91
              have V9 : Hid (Wo S9 w.heap.size W9 u13 us l.rs) := V8.out.nx L8.out.lo h92
              have O9 : Hid (LL W9 v9 l3.rs) := h93.ll
              clear h91 h92 h93 L8 V8
              have O9' : Hid (LL W9 v9 ns) := by show LL _ _ _; rw [← hrs3]; exact O9.out
              go_wp2_with fail
              refine (sameList_bool ns l.rs _ _ W9 O9'.out (V9.out.wt L9.out.lo).ll (by omega) (by omega)).mono ?_
              rintro e W10 ⟨bb, rfl, hb10⟩
              have B10 : Hid (Below w.heap.size w W10) := L9.out.bel.trans (hb10.mono L9.out.bs)
              have OX : Hid (LL W10 v9 ns) := O9'.out.below hb10
              clear hb10
              cases bb with
              | true =>
                by_cases ha : (100 : Int) < (at' : Int)
                · go_wp2_with fail
                  go_ret
                  exact ⟨rfl, B10.out⟩
                · go_wp2_with fail
                  exact ⟨⟨at' + 1, by omega, by go_num, B10.out⟩, by simp [intOf]; omega⟩
              | false =>
                go_wp2_with fail
                refine (sameList_same ns _ _ W10 OX.out (HQ1.out W10 B10.out) (by omega)).mono ?_
                rintro e W11 ⟨rfl, hb11⟩
                have B11 : Hid (Below w.heap.size w W11) := B10.out.trans (hb11.mono B10.out.size)
                clear hb11
                by_cases ha : (100 : Int) < (at' : Int)
                · go_wp2_with fail
                  go_ret
                  exact ⟨rfl, B11.out⟩
                · go_wp2_with fail
                  exact ⟨⟨at' + 1, by omega, by go_num, B11.out⟩, by simp [intOf]; omega⟩
end Go.Proofs.YthfpakjfdncphaaDoor
