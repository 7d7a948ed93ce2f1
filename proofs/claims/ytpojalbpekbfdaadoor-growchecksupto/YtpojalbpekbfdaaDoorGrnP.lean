/- The reference's Among. -/
import Derived.Test.YtpojalbpekbfdaaDoorGrnN
import Derived.Test.YtpojalbpekbfdaaDoorTrhB
namespace Go.Proofs.YtpojalbpekbfdaaDoor
open Go Go.RowKit
set_option linter.unusedSimpArgs false
set_option linter.unusedVariables false
set_option maxRecDepth 100000

theorem insA_eq {s : List Nd} {y : Nd} {a : Nat} (ha : a ≤ s.length) (hi : ∀ (j : Nat) (x : Nd), a ≤ j → s[j]? = some x → ltb y.p x.p = true) (lo : ∀ z : Nd, 0 < a → s[a - 1]? = some z → ltb y.p z.p = false) : insA s y = a := by
  rcases Nat.lt_trichotomy (insA s y) a with h | h | h
  · obtain ⟨z, hz⟩ : ∃ z, s[a - 1]? = some z := ⟨s[a - 1]'(by omega), List.getElem?_eq_getElem _⟩
    have hm : z ∈ s.drop (insA s y) := List.mem_of_getElem? (i := a - 1 - insA s y) (by rw [List.getElem?_drop, show insA s y + (a - 1 - insA s y) = a - 1 by omega]; exact hz)
    have h1 := insA_hi hm
    rw [lo z (by omega) hz] at h1
    cases h1
  · exact h
  · have hle : insA s y ≤ s.length := by unfold insA; omega
    obtain ⟨z, hz⟩ : ∃ z, s[insA s y - 1]? = some z := ⟨s[insA s y - 1]'(by omega), List.getElem?_eq_getElem _⟩
    have h1 := insA_lo (by omega) hz
    rw [hi _ z (by omega) hz] at h1
    cases h1
theorem lit_ownn (w : World) : NO w.heap.size (w.alloc (.cells #[] 44)) (.slice (some ⟨w.heap.size, 0, none⟩) 0 0) [] := by
  have hh : (w.alloc (.cells #[] 44)).heap[w.heap.size]? = some (.cells #[] 44 (0, 0)) := by show (w.heap.push _)[w.heap.size]? = _; simp
  exact ⟨⟨rfl, .inr ⟨w.heap.size, 0, _, rfl, Nat.le_refl _, hh, Nat.le_refl _, by unfold maxLen; omega, rfl, rfl⟩⟩, (fun x hx => by cases hx), by simp⟩
def am70f (ad : Option Addr) (b o n cp a j E : Nat) (py pz : List Int) (r : Bool) : Nat → Value
  | 0 => .int .i64 (a : Int)
  | 1 => .bool false
  | 2 => .bool false
  | 3 => undef
  | 4 => undef
  | 5 => undef
  | 6 => undef
  | 7 => undef
  | 8 => undef
  | 9 => undef
  | 10 => undef
  | 11 => undef
  | 12 => .bool false
  | _ => undef
def am71f (ad : Option Addr) (b o n cp a j E : Nat) (py pz : List Int) (r : Bool) : Nat → Value
  | 0 => .int .i64 (a : Int)
  | 1 => .bool true
  | 2 => .bool true
  | 3 => .pointer (some ⟨E, 1, none⟩)
  | 4 => .agg (bv py).toArray
  | 5 => .slice (some ⟨b, o, none⟩) n cp
  | 6 => .int .i64 (a : Int)
  | 7 => .int .i64 (j : Int)
  | 8 => .pointer (some ⟨b, o + j * 65, none⟩)
  | 9 => .pointer (some ⟨b, o + j * 65 + 1, none⟩)
  | 10 => .agg (bv pz).toArray
  | 11 => .bool r
  | 12 => .bool r
  | _ => undef
def am12f (dp : Option Addr) (g N q cq a : Nat) : Nat → Value
  | 0 => .slice (some ⟨g, 0, none⟩) N cq
  | 1 => .int .i64 (a : Int)
  | 2 => .int .i64 (q : Int)
  | 3 => .slice dp (N - q) (cq - q)
  | 4 => .slice (some ⟨g, 0, none⟩) N cq
  | 5 => .int .i64 (a : Int)
  | 6 => .slice (some ⟨g, a * 65, none⟩) (N - a) (cq - a)
  | 7 => .int .i64 ((N - q : Nat) : Int)
  | _ => undef
set_option maxHeartbeats 16000000 in
theorem rAmong_any : AmC := by
  intro l ls hkl hk hlen v0 v w hv0 hv
  have hl := lit_none w
  have hb0 : Below w.heap.size w (w.alloc (.cells #[] 44)) := (Below.refl _ w).alloc (Nat.le_refl _) _
  obtain ⟨v1, w0, hr, h1, h2, -⟩ := app_own (lit_ownn w) hkl (hv0.below hb0) (by simp; omega)
  rw [List.nil_append] at h1
  have H1 : Hid (NO w.heap.size w0 v1 l) := h1
  have H2 : Hid (Below w.heap.size w w0) := hb0.trans h2
  obtain ⟨ad0, cap0, rfl, -, -⟩ := hv0
  obtain ⟨n0, hn0⟩ : ∃ n, l.length = n := ⟨_, rfl⟩
  have HN0 : Hid (l.length = n0) := hn0
  rw [hn0] at hr hlen ⊢
  have HR : Hid ((Builtin.append_ #[24, 24] 24 #[.slice (some ⟨w.heap.size, 0, none⟩) 0 0, .slice ad0 n0 cap0]).run Tryd.prog (w.alloc (.cells #[] 44)) = .ok v1 w0) := hr
  obtain ⟨adl, cap, rfl, hc, hx⟩ := hv
  have HXX : Hid (ls = [] ∧ (adl = none → cap = 0) ∨ ∃ b o, adl = some ⟨b, o, none⟩ ∧ b < w.heap.size ∧ ∀ (i : Nat) (x : Lf), ls[i]? = some x → w.rangeAt b (o + i * 64) (lfc x)) := hx
  have HK : Hid (∀ x ∈ ls, x.Ok) := hk
  obtain ⟨len, hln⟩ : ∃ len, ls.length = len := ⟨_, rfl⟩
  have HLN : Hid (ls.length = len) := hln
  rw [hln] at hlen ⊢
  have hz := zero_nd
  obtain ⟨Z, hZ⟩ : ∃ Z, (nc ndz).toArray = Z := ⟨_, rfl⟩
  have HZS : Hid (Z.size = 65) := by show Z.size = 65; rw [← hZ]; exact nc_size ndz_ok
  rw [hZ] at hz
  clear hx hk hc hln hZ hkl h1 h2 hr hb0 hn0
  go_enter Tryd.func17, Tryd.ntmps17
  go_wp2_with (at_builtin; refine wp_app_run rfl (.tmp 9) (.tmp 10) 24 rfl 24 rfl (.slice (some ⟨w.heap.size, 0, none⟩) 0 0) (.slice ad0 n0 cap0) v1 w0 rfl rfl HR.out ?_)
  clear hl
  go_loopw [5, 14] (fun nv i wr => ∃ (k : Nat) (s : List Nd), k ≤ len ∧ i = .int .i64 (k : Int) ∧ NO w.heap.size wr nv s ∧ s = ((ls.take k).map ln).foldl ins l ∧ Below w.heap.size w wr) (fun _ i _ => len - (intOf i).toNat)
  case atStart => exact ⟨0, l, Nat.zero_le _, rfl, H1.out, by simp, H2.out⟩
  case round =>
    obtain ⟨k, s, hkl, rfl, hno, hse, h4⟩ := hrel
    have H4 : Hid (Below w.heap.size w wr) := h4
    have HNO : Hid (NO w.heap.size wr u5 s) := hno
    have HSE : Hid (s = ((ls.take k).map ln).foldl ins l) := hse
    clear h4 hno hse
    by_cases hlt : k < len
    · rcases HXX.out with ⟨h0, _⟩ | ⟨lb, lo, rfl, hlb, hm⟩
      · have := HLN.out; rw [h0] at this; simp at this; omega
      · obtain ⟨x, hx⟩ : ∃ x, ls[k]? = some x := ⟨ls[k]'(by have := HLN.out; omega), List.getElem?_eq_getElem _⟩
        have HX : Hid x.Ok := HK.out x (List.mem_of_getElem? hx)
        obtain ⟨y, hy⟩ : ∃ y, ln x = y := ⟨_, rfl⟩
        have HTK : Hid (((ls.take (k + 1)).map ln).foldl ins l = ins s y) := by show _ = _; rw [take_ln hx, List.foldl_append, ← HSE.out, hy]; rfl
        have HYO : Hid y.Ok := by rw [← hy]; exact ln_ok HX.out
        have HYN : Hid (y.n = 256) := by rw [← hy]; rfl
        have HRX : Hid (wr.rangeAt lb (lo + k * 64) (lfc x)) := range_below (hm k x hx) H4.out hlb
        have HLF : Hid (∀ W : World, Calls Tryd.prog 35 #[.agg (lfc x).toArray] W fun e w' => e = .returned (.agg (nc y).toArray) ∧ Below W.heap.size W w') := fun W => by rw [← hy]; exact rLeafNode_any x.p x.q HX.out.p HX.out.q W
        have HSL : Hid (s.length = n0 + k) := by show _ = _; rw [HSE.out, (am_go _ _).length_eq, List.length_append, List.length_map, List.length_take, HN0.out]; have := HLN.out; omega
        obtain ⟨X, hX⟩ : ∃ X, (lfc x).toArray = X := ⟨_, rfl⟩
        rw [hX] at HLF
        have HSO : Hid (∀ x ∈ s, x.Ok) := HNO.out.2.1
        obtain ⟨ad, cp, hu5, hcp, hxs⟩ := HNO.out.ns
        obtain ⟨n, hn⟩ : ∃ n, s.length = n := ⟨_, rfl⟩
        have HSN : Hid (s.length = n) := hn
        have hnl : n ≤ 2500000000000 := by have := HSL.out; omega
        rw [hn] at hu5
        subst hu5
        have HXS : Hid (s = [] ∧ (ad = none → cp = 0) ∨ ∃ b o, ad = some ⟨b, o, none⟩ ∧ b < wr.heap.size ∧ ∀ (i : Nat) (x : Nd), s[i]? = some x → wr.rangeAt b (o + i * 65) (nc x)) := hxs
        clear hm hlb hx hy hn hxs hcp
        go_upto_region 6 with (first
          | (refine load_g rfl 46 (.tmp 19) rfl lb (lo + k * 64) rfl (lfc x) _ HRX.out Tryd.underlying46 rfl (size_lfc HX.out) ?_; rw [hX])
          | (refine wpList_store_mid rfl 44 (.tmp 7) (.tmp 21) rfl w1.heap.size 0 (nc y).toArray rfl rfl (there_new w1 (by rw [nc_size HYO.out, HZS.out])) (by rw [List.size_toArray]; exact size_nc HYO.out) (nc_one _) ?_; simp only [List.toList_toArray])
          | (go_at_call 35; refine (HLF.out wr).mono ?_; rintro e w1 ⟨rfl, g1⟩; have B1 : Hid (Below wr.heap.size wr w1) := g1; clear g1))
        obtain ⟨U, hU⟩ : ∃ U, (w1.alloc (.cells Z 44)).setCells w1.heap.size 0 (nc y) = U := ⟨_, rfl⟩
        rw [hU]
        obtain ⟨r1, r2, r3⟩ := laid_row (by rw [nc_length HYO.out, HZS.out]) (by rw [nc_length HYO.out]; omega) hU
        have hes : ∃ c t fr, U.heap[w1.heap.size]? = some (.cells c t fr) ∧ c.size = 65 := by
          have q0 : (w1.alloc (.cells Z 44)).heap[w1.heap.size]? = some (.cells Z 44 (0, 0)) := by show (w1.heap.push _)[w1.heap.size]? = _; simp
          have q1 := heap_setC w1.heap.size (nc y) 0 _ Z 44 (0, 0) q0
          rw [hU] at q1
          exact ⟨_, _, _, q1, by rw [setL_size]; exact HZS.out⟩
        obtain ⟨E, hE⟩ : ∃ E, w1.heap.size = E := ⟨_, rfl⟩
        rw [hE] at hes
        have HES : Hid (∃ c t fr, U.heap[E]? = some (.cells c t fr) ∧ c.size = 65) := hes
        clear hes
        rw [hE] at r1 r3 ⊢
        have REU : Hid (U.rangeAt E 0 (nc y)) := r1
        have LEU : Hid (E < U.heap.size) := r3
        have BU : Hid (Below wr.heap.size wr U) := Below.tr' B1.out r2
        have CU : Hid (Below w.heap.size w U) := H4.out.trans (BU.out.mono H4.out.size)
        have NU : Hid (NO w.heap.size U (.slice ad n cp) s) := HNO.out.below BU.out
        have HEW : Hid (wr.heap.size ≤ E) := by rw [← hE]; exact B1.out.size
        have HROWA : Hid ((Value.slice ad n cp).ownBlock ≠ some E) := by
          intro e
          have h1 := (HNO.out.1.lt E e).2
          have h2 := HEW.out
          omega
        obtain ⟨py, hpy⟩ : ∃ p, y.p = p := ⟨_, rfl⟩
        have HPY : Hid (L32 py) := by rw [← hpy]; exact HYO.out.p
        have HYP : Hid (y.p = py) := hpy
        have REP : Hid (U.rangeAt E 1 (bv py)) := by have := nc_p REU.out; rw [hpy] at this; exact this
        clear r1 r2 r3 hU hX hE hpy
        go_wp2_with fail
        go_loopw [8] (fun i wr2 => ∃ a : Nat, a ≤ n ∧ i = .int .i64 (a : Int) ∧ (∀ (j : Nat) (x : Nd), a ≤ j → s[j]? = some x → ltb y.p x.p = true) ∧ Below U.heap.size U wr2) (fun i _ => (intOf i).toNat)
        case atStart => exact ⟨n, Nat.le_refl _, rfl, fun j x hj hx => by have := (List.getElem?_eq_some_iff.1 hx).1; have := HSN.out; omega, Below.refl _ _⟩
        case round =>
          obtain ⟨a, han, rfl, hhi, h5⟩ := hrel
          have HHI : Hid (∀ (j : Nat) (x : Nd), a ≤ j → s[j]? = some x → ltb y.p x.p = true) := hhi
          have H5 : Hid (Below U.heap.size U wr) := h5
          have REwr : Hid (wr.rangeAt E 1 (bv py)) := range_below REP.out H5.out LEU.out
          have LEwr : Hid (E < wr.heap.size) := Nat.lt_of_lt_of_le LEU.out H5.out.size
          clear hhi h5
          rcases Nat.eq_zero_or_pos a with ha0 | hap
          · have HA0 : Hid (a = 0) := ha0
            have HINS : Hid (insA s y = a) := insA_eq (by rw [HSN.out]; exact han) HHI.out (fun z h0 _ => by have := HA0.out; omega)
            clear ha0
            go_upto_region 7 with (fail)
            refine RU.wp_rgn' [] (am70f ad 0 0 n cp a 0 E py [] false) (fun _ => 0) (gΩ wr) (by kernel_rfl) (by kernel_rfl) (show Below wr.heap.size wr _ from (Below.refl _ _).drew) ?_ ?_
            · refine ⟨?_, ?_, ?_, ?_, ?_, ?_, ?_, ?_, ?_, ?_, ?_, ?_, ?_, trivial⟩
              · refine RU.ObT.pure rfl rfl rfl (fun aa V hf hp ev he hc W => ?_)
                have q8 : ev (.tmp 8) = .int .i64 (a : Int) := (he (.tmp 8)).trans (hf 8 rfl)
                simp only [List.getElem_toArray, List.getElem_cons_succ, List.getElem_cons_zero, execOp, Option.map_some, Option.map_none]; rw [q8]
                first | (go_simp; done) | (go_simp; rfl) | rfl
              · refine RU.ObT.pure rfl rfl rfl (fun aa V hf hp ev he hc W => ?_)
                have q24 : ev (.tmp 24) = .int .i64 (a : Int) := (he (.tmp 24)).trans (hp 0 24 rfl)
                simp only [List.getElem_toArray, List.getElem_cons_succ, List.getElem_cons_zero, execOp, Option.map_some, Option.map_none]; rw [q24]
                try simp only [hc]
                have hkp : ¬ 0 < a := by have := HA0.out; omega
                first | (go_simp; done) | (go_simp; rfl) | rfl
              · refine RU.ObT.pure rfl rfl rfl (fun aa V hf hp ev he hc W => ?_)
                have q25 : ev (.tmp 25) = .bool false := (he (.tmp 25)).trans (hp 1 25 rfl)
                simp only [List.getElem_toArray, List.getElem_cons_succ, List.getElem_cons_zero, execOp, Option.map_some, Option.map_none]; rw [q25]
                first | (go_simp; done) | (go_simp; rfl) | rfl
              · exact RU.ObT.skip (g := 2) (d := 26) rfl rfl rfl rfl rfl rfl (fun U h => by cases h) rfl
              · exact RU.ObT.skip (g := 2) (d := 26) rfl rfl rfl rfl rfl rfl (fun U h => by cases h) rfl
              · exact RU.ObT.skip (g := 2) (d := 26) rfl rfl rfl rfl rfl rfl (fun U h => by cases h) rfl
              · exact RU.ObT.skip (g := 2) (d := 26) rfl rfl rfl rfl rfl rfl (fun U h => by cases h) rfl
              · exact RU.ObT.skip (g := 2) (d := 26) rfl rfl rfl rfl rfl rfl (fun U h => by cases h) rfl
              · exact RU.ObT.skip (g := 2) (d := 26) rfl rfl rfl rfl rfl rfl (fun U h => by cases h) rfl
              · exact RU.ObT.skip (g := 2) (d := 26) rfl rfl rfl rfl rfl rfl (fun U h => by cases h) rfl
              · exact RU.ObT.skip (g := 2) (d := 26) rfl rfl rfl rfl rfl rfl (fun U h => by cases h) rfl
              · exact RU.ObT.skip (g := 2) (d := 26) rfl rfl rfl rfl rfl rfl (fun U h => by cases h) rfl
              · refine RU.ObT.pure rfl rfl rfl (fun aa V hf hp ev he hc W => ?_)
                have q26 : ev (.tmp 26) = .bool false := (he (.tmp 26)).trans (hp 2 26 rfl)
                have q35 : ev (.tmp 35) = undef := (he (.tmp 35)).trans (hp 11 35 rfl)
                simp only [List.getElem_toArray, List.getElem_cons_succ, List.getElem_cons_zero, execOp, Option.map_some, Option.map_none]; rw [q26, q35]
                try simp only [hc]
                first | (go_simp; done) | (go_simp; rfl) | rfl
            intro W1 VW1 hOW1
            have BW1 : Hid (Below wr.heap.size wr W1) := hOW1
            clear hOW1
            simp only [RU.lay, RU.val, RU.at', am70f, Act.put]
            simp only [List.setIfInBounds_toArray, List.set_cons_succ, List.set_cons_zero]
            have C2 : Hid (Below U.heap.size U W1) := Below.tr' H5.out BW1.out
            have NV : Hid (NO w.heap.size W1 (.slice ad n cp) s) := NU.out.below C2.out
            have RE2 : Hid (W1.rangeAt E 0 (nc y)) := range_below REU.out C2.out LEU.out
            have LE2 : Hid (E < W1.heap.size) := Nat.lt_of_lt_of_le LEU.out C2.out.size
            go_upto_region 9 with (fail)
            refine wp_region_list ?_
            go_wp2_with (first
              | (refine wp_build0 44 rfl rfl _ (build_n0 W1) ?_)
              | (refine wpList_onen rfl (.tmp 40) rfl ndz ndz_ok rfl ?_)
              | (at_builtin; refine wp_appg rfl (.tmp 39) (.tmp 41) rfl rfl w.heap.size (.slice ad n cp) (.slice (some ⟨W1.heap.size, 0, none⟩) 1 1) s [ndz] rfl rfl (NV.out.alloc _) (fun z hz => by simp at hz; subst hz; exact ndz_ok) (ns_one W1 ndz _) (by have h1 := HSN.out; simp only [List.length_cons, List.length_nil]; omega) ?_; intro v3 w3 g1 g2 g3; have hgr : Hid ((World.alloc _ _).grownBy w3 _) := g3; have hg1 : Hid (NO w.heap.size w3 v3 (s ++ [ndz])) := g1; have hg2 : Hid (Below w.heap.size W1 w3) := (Below.alloc (Below.refl _ _) NV.out.2.2 _).trans g2; clear g1 g2 g3))
            obtain ⟨g, cq, hv3, hcq'⟩ := hg1.out.sl (by simp)
            rw [List.length_append, HSN.out] at hv3 hcq'
            obtain ⟨N, hN⟩ : ∃ N, N = n + 1 := ⟨_, rfl⟩
            have HN : Hid (N = n + 1) := hN
            have hcq : N ≤ cq := by rw [hN]; exact hcq'
            have hv3' : v3 = .slice (some ⟨g, 0, none⟩) N cq := by rw [hN]; exact hv3
            have N3 : Hid (NO w.heap.size w3 (.slice (some ⟨g, 0, none⟩) N cq) (s ++ [ndz])) := by have := hg1.out; rw [hv3'] at this; exact this
            clear hN
            subst hv3'
            have C3 : Hid (Below w.heap.size w w3) := (CU.out.trans (C2.out.mono CU.out.size)).trans hg2.out
            obtain ⟨fe1, fe2⟩ := fresh_ne hgr.out HROWA.out (show E < (World.alloc _ _).heap.size by have := LE2.out; simp; omega) (cells_below HES.out (Below.tr' C2.out (Below.alloc (Below.refl _ _) (Nat.le_refl _) _)) LEU.out) (range_below RE2.out (Below.alloc (Below.refl _ _) (Nat.le_refl _) _) LE2.out) HYN.out N3.out HSN.out
            have HEG : Hid (E ≠ g) := fe1
            have RE3 : Hid (w3.rangeAt E 0 (nc y)) := fe2
            clear fe1 fe2
            have LE3 : Hid (E < w3.heap.size) := Nat.lt_of_lt_of_le LE2.out hg2.out.size
            clear hcq' hv3
            obtain ⟨q, hq⟩ : ∃ q, q = a + 1 := ⟨_, rfl⟩
            have HQ : Hid (q = a + 1) := hq
            have HDW : Hid (∀ W : World, Below w3.heap.size w3 W → NO w.heap.size W (.slice (some ⟨g, 0, none⟩) N cq) (s ++ [ndz])) := fun W q => N3.out.below q
            obtain ⟨dp, hdp⟩ : ∃ dp, (if cq = q then some ⟨g, 0, none⟩ else some ⟨g, q * 65, none⟩ : Option Addr) = dp := ⟨_, rfl⟩
            have HDP : Hid ((if cq = q then some ⟨g, 0, none⟩ else some ⟨g, q * 65, none⟩ : Option Addr) = dp) := hdp
            have HCP : Hid (∀ W : World, Below w3.heap.size w3 W → (Builtin.copy_ #[24, 24] 3 #[.slice dp (N - q) (cq - q), .slice (some ⟨g, a * 65, none⟩) (N - a) (cq - a)]).run Tryd.prog W = .ok (.int .i64 ((N - q : Nat) : Int)) (W.setCells g ((a + 1) * 65) (ncs (s.drop a)))) := fun W q => run_shift (HDW.out W q) HSN.out han hcq HN.out HQ.out dp hdp
            clear hdp hq
            go_upto_region 10 with (fail)
            refine RU.wp_rgn' [7] (am12f dp g N q cq a) (fun _ => 0) (cpΩ w3 g ((a + 1) * 65) (ncs (s.drop a))) (by kernel_rfl) (by kernel_rfl) (show Below w3.heap.size w3 _ from (Below.refl _ _).drew) ?_ ?_
            · refine ⟨?_, ?_, ?_, ?_, ?_, ?_, ?_, ?_, trivial⟩
              · refine RU.ObT.pure rfl rfl rfl (fun aa V hf hp ev he hc W => ?_)
                have q5 : ev (.tmp 5) = .slice (some ⟨g, 0, none⟩) N cq := (he (.tmp 5)).trans (hf 5 rfl)
                simp only [List.getElem_toArray, List.getElem_cons_succ, List.getElem_cons_zero, execOp, Option.map_some, Option.map_none]; rw [q5]
                first | (go_simp; done) | (go_simp; rfl) | rfl
              · refine RU.ObT.pure rfl rfl rfl (fun aa V hf hp ev he hc W => ?_)
                have q8 : ev (.tmp 8) = .int .i64 (a : Int) := (he (.tmp 8)).trans (hf 8 rfl)
                simp only [List.getElem_toArray, List.getElem_cons_succ, List.getElem_cons_zero, execOp, Option.map_some, Option.map_none]; rw [q8]
                first | (go_simp; done) | (go_simp; rfl) | rfl
              · refine RU.ObT.pure rfl rfl rfl (fun aa V hf hp ev he hc W => ?_)
                have q44 : ev (.tmp 44) = .int .i64 (a : Int) := (he (.tmp 44)).trans (hp 1 44 rfl)
                simp only [List.getElem_toArray, List.getElem_cons_succ, List.getElem_cons_zero, execOp, Option.map_some, Option.map_none]; rw [q44]
                try simp only [hc]
                have hw1 : IntKind.i64.wrap ((a : Int) + 1) = (q : Int) := by have := HQ.out; rw [IntKind.wrap_i64]; omega
                first | (go_simp; done) | (go_simp; rfl) | rfl
              · refine RU.ObT.pure rfl rfl rfl (fun aa V hf hp ev he hc W => ?_)
                have q43 : ev (.tmp 43) = .slice (some ⟨g, 0, none⟩) N cq := (he (.tmp 43)).trans (hp 0 43 rfl)
                have q45 : ev (.tmp 45) = .int .i64 (q : Int) := (he (.tmp 45)).trans (hp 2 45 rfl)
                simp only [List.getElem_toArray, List.getElem_cons_succ, List.getElem_cons_zero, execOp, Option.map_some, Option.map_none]; rw [q43, q45]
                have h1 := HN.out
                have h2 := HQ.out
                have hm1 : (q : Int) ≤ (N : Int) := by omega
                have hm2 : (q : Int) ≤ (cq : Int) := by omega
                have hm3 : (N : Int) ≤ (cq : Int) := by omega
                have hm4 : (a : Int) ≤ (N : Int) := by omega
                have hm5 : (a : Int) ≤ (cq : Int) := by omega
                have hm6 : ¬ cq = a := by omega
                clear h1 h2
                rw [← HDP.out]; by_cases hcm : cq = q <;> ((first | rw [if_pos hcm] | rw [if_neg hcm]); first | (go_simp; done) | (go_simp; rfl) | (subst hcm; go_simp; simp [am12f]; done) | (subst hcm; simp only [am12f]; go_simp; done))
              · refine RU.ObT.pure rfl rfl rfl (fun aa V hf hp ev he hc W => ?_)
                have q5 : ev (.tmp 5) = .slice (some ⟨g, 0, none⟩) N cq := (he (.tmp 5)).trans (hf 5 rfl)
                simp only [List.getElem_toArray, List.getElem_cons_succ, List.getElem_cons_zero, execOp, Option.map_some, Option.map_none]; rw [q5]
                first | (go_simp; done) | (go_simp; rfl) | rfl
              · refine RU.ObT.pure rfl rfl rfl (fun aa V hf hp ev he hc W => ?_)
                have q8 : ev (.tmp 8) = .int .i64 (a : Int) := (he (.tmp 8)).trans (hf 8 rfl)
                simp only [List.getElem_toArray, List.getElem_cons_succ, List.getElem_cons_zero, execOp, Option.map_some, Option.map_none]; rw [q8]
                first | (go_simp; done) | (go_simp; rfl) | rfl
              · refine RU.ObT.pure rfl rfl rfl (fun aa V hf hp ev he hc W => ?_)
                have q47 : ev (.tmp 47) = .slice (some ⟨g, 0, none⟩) N cq := (he (.tmp 47)).trans (hp 4 47 rfl)
                have q48 : ev (.tmp 48) = .int .i64 (a : Int) := (he (.tmp 48)).trans (hp 5 48 rfl)
                simp only [List.getElem_toArray, List.getElem_cons_succ, List.getElem_cons_zero, execOp, Option.map_some, Option.map_none]; rw [q47, q48]
                have h1 := HN.out
                have h2 := HQ.out
                have hm1 : (q : Int) ≤ (N : Int) := by omega
                have hm2 : (q : Int) ≤ (cq : Int) := by omega
                have hm3 : (N : Int) ≤ (cq : Int) := by omega
                have hm4 : (a : Int) ≤ (N : Int) := by omega
                have hm5 : (a : Int) ≤ (cq : Int) := by omega
                have hm6 : ¬ cq = a := by omega
                clear h1 h2
                first | (go_simp; done) | (go_simp; rfl) | rfl
              · refine RU.ObT.loud (j := 0) rfl (fun aa W V hO hf hp => ?_)
                have hO' : Below w3.heap.size w3 W := hO
                have q46 : aa.eval (.tmp 46) = .slice dp (N - q) (cq - q) := hp 3 46 rfl
                have q49 : aa.eval (.tmp 49) = .slice (some ⟨g, a * 65, none⟩) (N - a) (cq - a) := hp 6 49 rfl
                refine RU.ob_run (v := .int .i64 ((N - q : Nat) : Int)) (w' := W.setCells g ((a + 1) * 65) (ncs (s.drop a))) rfl (RU.wanted_none rfl) (fun ev he hc => ?_) ⟨_, rfl, W, hO', rfl⟩
                have e1 := (he (.tmp 46)).trans q46
                have e2 := (he (.tmp 49)).trans q49
                simp only [List.getElem_toArray, List.getElem_cons_succ, List.getElem_cons_zero, execOp, resolve, invoke, builtin, Sem.run_bind, Sem.run_pure, Result.andThen_ok, List.map_toArray, List.map_cons, List.map_nil, e1, e2, HCP.out W hO']
            intro W4 VW4 hOW4
            obtain ⟨W0, hW0, hWW⟩ := hOW4
            subst hWW
            have B4 : Hid (Below w3.heap.size w3 W0) := hW0
            clear hW0
            simp only [RU.lay, RU.val, RU.at', am12f, Act.put]
            simp only [List.setIfInBounds_toArray, List.set_cons_succ, List.set_cons_zero]
            have N4 : Hid (NO w.heap.size (W0.setCells g ((a + 1) * 65) (ncs (s.drop a))) (.slice (some ⟨g, 0, none⟩) N cq) ((s ++ [ndz]).take (a + 1) ++ s.drop a)) := by
              have := (HDW.out W0 B4.out).set (m := s.drop a) (i := a + 1) (fun x hx => HSO.out x (List.mem_of_mem_drop hx)) (by rw [List.length_append, List.length_drop, HSN.out]; simp; omega)
              rw [show a + 1 + (s.drop a).length = (s ++ [ndz]).length by rw [List.length_append, List.length_drop, HSN.out]; simp; omega, List.drop_length, List.append_nil] at this
              exact this
            obtain ⟨w4, hw4⟩ : ∃ w4, W0.setCells g ((a + 1) * 65) (ncs (s.drop a)) = w4 := ⟨_, rfl⟩
            have HGB : Hid (w.heap.size ≤ g) := (N3.out.1.lt g rfl).1
            have C4 : Hid (Below w.heap.size w w4) := by rw [← hw4]; exact below_setCells HGB.out _ _ (C3.out.trans (B4.out.mono C3.out.size))
            have RE4 : Hid (w4.rangeAt E 0 (nc y)) := by rw [← hw4]; exact World.rangeAt_setCells_apart (range_below RE3.out B4.out LE3.out) _ _ _ (.inl (fun e => HEG.out e))
            rw [hw4] at N4 ⊢
            clear hw4
            have T4 : Hid (w4.there g (a * 65) 65) := NO.there N4.out (by simp only [List.length_append, List.length_take, List.length_drop, HSN.out, List.length_cons, List.length_nil]; omega)
            have haN : a < N := by have := HN.out; omega
            go_wp2_with (first
              | (refine ld 44 (.tmp 7) rfl rfl E 0 rfl (nc y) _ RE4.out Tryd.underlying44 rfl (size_nc HYO.out) ?_)
              | (refine wpList_store_mid rfl 44 (.tmp 54) (.tmp 53) rfl g (a * 65) (nc y).toArray rfl rfl (by rw [nc_size HYO.out]; exact T4.out) (by rw [List.size_toArray]; exact size_nc HYO.out) (nc_one _) ?_; simp only [List.toList_toArray]))
            have N5 : NO w.heap.size (w4.setCells g (a * 65) (nc y)) (.slice (some ⟨g, 0, none⟩) N cq) (s.take a ++ [y] ++ s.drop a) := by
              have := N4.out.set (m := [y]) (i := a) (fun x hx => by simp at hx; subst hx; exact HYO.out) (by simp only [List.length_append, List.length_take, List.length_drop, HSN.out, List.length_cons, List.length_nil]; omega)
              rw [show ncs [y] = nc y by simp [ncs]] at this
              rw [put_shape HSN.out han] at this
              exact this
            exact ⟨⟨k + 1, _, by omega, by go_num, N5, by rw [HTK.out]; unfold ins; rw [HINS.out], below_setCells HGB.out _ _ C4.out⟩, by simp [intOf]; omega⟩
          · obtain ⟨j, hj⟩ : ∃ j, a = j + 1 := ⟨a - 1, by omega⟩
            have HJ : Hid (a = j + 1) := hj
            rcases HXS.out with ⟨h0, _⟩ | ⟨b, o, rfl, hlb, hm⟩
            · have := HSN.out; rw [h0] at this; simp at this; omega
            obtain ⟨z, hz0⟩ : ∃ z, s[j]? = some z := ⟨s[j]'(by have := HSN.out; omega), List.getElem?_eq_getElem _⟩
            have HZK : Hid (s[j]? = some z) := hz0
            have HZO : Hid z.Ok := HSO.out z (List.mem_of_getElem? hz0)
            obtain ⟨pz, hpz⟩ : ∃ p, z.p = p := ⟨_, rfl⟩
            have HZP : Hid (z.p = pz) := hpz
            have HPZ : Hid (L32 pz) := by rw [← hpz]; exact HZO.out.p
            have RJwr : Hid (wr.rangeAt b (o + j * 65 + 1) (bv pz)) := by
              have := nc_p (range_below (range_below (hm j z hz0) BU.out hlb) H5.out (Nat.lt_of_lt_of_le hlb BU.out.size)); rw [hpz] at this; exact this
            have LBwr : Hid (b < wr.heap.size) := Nat.lt_of_lt_of_le hlb (Nat.le_trans BU.out.size H5.out.size)
            obtain ⟨r, hr⟩ : ∃ r, ltb py pz = r := ⟨_, rfl⟩
            have HRR : Hid (ltb py pz = r) := hr
            have HBL : Hid (∀ W : World, Calls Tryd.prog 36 #[.agg (bv py).toArray, .agg (bv pz).toArray] W fun e w' => e = .returned (.bool r) ∧ Below W.heap.size W w') := fun W => by rw [← hr]; exact below_any py pz W HPY.out.len HPZ.out.len HPY.out.byt HPZ.out.byt
            clear hj hz0 hpz hr hm hlb hap
            go_upto_region 7 with (fail)
            refine RU.wp_rgn' [] (am71f (some ⟨b, o, none⟩) b o n cp a j E py pz r) (fun _ => 0) (gΩ wr) (by kernel_rfl) (by kernel_rfl) (show Below wr.heap.size wr _ from (Below.refl _ _).drew) ?_ ?_
            · refine ⟨?_, ?_, ?_, ?_, ?_, ?_, ?_, ?_, ?_, ?_, ?_, ?_, ?_, trivial⟩
              · refine RU.ObT.pure rfl rfl rfl (fun aa V hf hp ev he hc W => ?_)
                have q8 : ev (.tmp 8) = .int .i64 (a : Int) := (he (.tmp 8)).trans (hf 8 rfl)
                simp only [List.getElem_toArray, List.getElem_cons_succ, List.getElem_cons_zero, execOp, Option.map_some, Option.map_none]; rw [q8]
                first | (go_simp; done) | (go_simp; rfl) | rfl
              · refine RU.ObT.pure rfl rfl rfl (fun aa V hf hp ev he hc W => ?_)
                have q24 : ev (.tmp 24) = .int .i64 (a : Int) := (he (.tmp 24)).trans (hp 0 24 rfl)
                simp only [List.getElem_toArray, List.getElem_cons_succ, List.getElem_cons_zero, execOp, Option.map_some, Option.map_none]; rw [q24]
                try simp only [hc]
                have hkp : 0 < a := by have := HJ.out; omega
                first | (go_simp; done) | (go_simp; rfl) | rfl
              · refine RU.ObT.pure rfl rfl rfl (fun aa V hf hp ev he hc W => ?_)
                have q25 : ev (.tmp 25) = .bool true := (he (.tmp 25)).trans (hp 1 25 rfl)
                simp only [List.getElem_toArray, List.getElem_cons_succ, List.getElem_cons_zero, execOp, Option.map_some, Option.map_none]; rw [q25]
                first | (go_simp; done) | (go_simp; rfl) | rfl
              · refine RU.ObT.silent rfl (fun aa W k0 V hO hf hp hk => ?_)
                have hg : aa.eval (.tmp 26) = .bool true := hp 2 26 rfl
                refine RU.ob_val rfl (RU.wanted_some rfl rfl rfl hg) (fun ev he hc => ?_) ⟨rfl, hO⟩
                have q7 : ev (.tmp 7) = .pointer (some ⟨E, 0, none⟩) := (he (.tmp 7)).trans (hf 7 rfl)
                simp only [List.getElem_toArray, List.getElem_cons_succ, List.getElem_cons_zero, execOp, Option.map_some, Option.map_none]; rw [q7]
                first | (go_simp; done) | (go_simp; rfl) | rfl
              · refine RU.ObT.silent rfl (fun aa W k0 V hO hf hp hk => ?_)
                have hg : aa.eval (.tmp 26) = .bool true := hp 2 26 rfl
                have hO' : Below wr.heap.size wr W := hO
                have q27 : aa.eval (.tmp 27) = .pointer (some ⟨E, 1, none⟩) := hp 3 27 rfl
                exact RU.ob_op rfl (RU.wanted_some rfl rfl rfl hg) (wp_load_mid 31 (.tmp 27) rfl (E) (1) q27 (bv py) _ (range_below REwr.out hO' LEwr.out) Tryd.underlying31 rfl (size_l32 HPY.out) ⟨rfl, hO⟩)
              · refine RU.ObT.silent rfl (fun aa W k0 V hO hf hp hk => ?_)
                have hg : aa.eval (.tmp 26) = .bool true := hp 2 26 rfl
                refine RU.ob_val rfl (RU.wanted_some rfl rfl rfl hg) (fun ev he hc => ?_) ⟨rfl, hO⟩
                have q5 : ev (.tmp 5) = .slice (some ⟨b, o, none⟩) n cp := (he (.tmp 5)).trans (hf 5 rfl)
                simp only [List.getElem_toArray, List.getElem_cons_succ, List.getElem_cons_zero, execOp, Option.map_some, Option.map_none]; rw [q5]
                first | (go_simp; done) | (go_simp; rfl) | rfl
              · refine RU.ObT.silent rfl (fun aa W k0 V hO hf hp hk => ?_)
                have hg : aa.eval (.tmp 26) = .bool true := hp 2 26 rfl
                refine RU.ob_val rfl (RU.wanted_some rfl rfl rfl hg) (fun ev he hc => ?_) ⟨rfl, hO⟩
                have q8 : ev (.tmp 8) = .int .i64 (a : Int) := (he (.tmp 8)).trans (hf 8 rfl)
                simp only [List.getElem_toArray, List.getElem_cons_succ, List.getElem_cons_zero, execOp, Option.map_some, Option.map_none]; rw [q8]
                first | (go_simp; done) | (go_simp; rfl) | rfl
              · refine RU.ObT.silent rfl (fun aa W k0 V hO hf hp hk => ?_)
                have hg : aa.eval (.tmp 26) = .bool true := hp 2 26 rfl
                refine RU.ob_val rfl (RU.wanted_some rfl rfl rfl hg) (fun ev he hc => ?_) ⟨rfl, hO⟩
                have q30 : ev (.tmp 30) = .int .i64 (a : Int) := (he (.tmp 30)).trans (hp 6 30 rfl)
                simp only [List.getElem_toArray, List.getElem_cons_succ, List.getElem_cons_zero, execOp, Option.map_some, Option.map_none]; rw [q30]
                try simp only [hc]
                have hw1 : IntKind.i64.wrap ((a : Int) - 1) = (j : Int) := by have := HJ.out; rw [IntKind.wrap_i64]; omega
                first | (go_simp; done) | (go_simp; rfl) | rfl
              · refine RU.ObT.silent rfl (fun aa W k0 V hO hf hp hk => ?_)
                have hg : aa.eval (.tmp 26) = .bool true := hp 2 26 rfl
                refine RU.ob_val rfl (RU.wanted_some rfl rfl rfl hg) (fun ev he hc => ?_) ⟨rfl, hO⟩
                have q29 : ev (.tmp 29) = .slice (some ⟨b, o, none⟩) n cp := (he (.tmp 29)).trans (hp 5 29 rfl)
                have q31 : ev (.tmp 31) = .int .i64 (j : Int) := (he (.tmp 31)).trans (hp 7 31 rfl)
                simp only [List.getElem_toArray, List.getElem_cons_succ, List.getElem_cons_zero, execOp, Option.map_some, Option.map_none]; rw [q29, q31]
                have hj9 : (j : Int) < (n : Int) := by have := HJ.out; omega
                first | (go_simp; done) | (go_simp; rfl) | rfl
              · refine RU.ObT.silent rfl (fun aa W k0 V hO hf hp hk => ?_)
                have hg : aa.eval (.tmp 26) = .bool true := hp 2 26 rfl
                refine RU.ob_val rfl (RU.wanted_some rfl rfl rfl hg) (fun ev he hc => ?_) ⟨rfl, hO⟩
                have q32 : ev (.tmp 32) = .pointer (some ⟨b, o + j * 65, none⟩) := (he (.tmp 32)).trans (hp 8 32 rfl)
                simp only [List.getElem_toArray, List.getElem_cons_succ, List.getElem_cons_zero, execOp, Option.map_some, Option.map_none]; rw [q32]
                first | (go_simp; done) | (go_simp; rfl) | rfl
              · refine RU.ObT.silent rfl (fun aa W k0 V hO hf hp hk => ?_)
                have hg : aa.eval (.tmp 26) = .bool true := hp 2 26 rfl
                have hO' : Below wr.heap.size wr W := hO
                have q33 : aa.eval (.tmp 33) = .pointer (some ⟨b, o + j * 65 + 1, none⟩) := hp 9 33 rfl
                exact RU.ob_op rfl (RU.wanted_some rfl rfl rfl hg) (wp_load_mid 31 (.tmp 33) rfl (b) (o + j * 65 + 1) q33 (bv pz) _ (range_below RJwr.out hO' LBwr.out) Tryd.underlying31 rfl (size_l32 HPZ.out) ⟨rfl, hO⟩)
              · refine RU.ObT.silent rfl (fun aa W k0 V hO hf hp hk => ?_)
                have hg : aa.eval (.tmp 26) = .bool true := hp 2 26 rfl
                have hO' : Below wr.heap.size wr W := hO
                have e28 : aa.eval (.tmp 28) = .agg (bv py).toArray := hp 4 28 rfl
                have e34 : aa.eval (.tmp 34) = .agg (bv pz).toArray := hp 10 34 rfl
                refine RU.ob_call (g := 36) (args := #[.agg (bv py).toArray, .agg (bv pz).toArray]) rfl (RU.wanted_some rfl rfl rfl hg) (fun ev he hc => ?_) ((HBL.out W).mono ?_)
                · have h28 := (he (.tmp 28)).trans e28
                  have h34 := (he (.tmp 34)).trans e34
                  have hfn := he (.func 36)
                  simp only [List.getElem_toArray, List.getElem_cons_succ, List.getElem_cons_zero, execOp, Option.map_some, Option.map_none]
                  simp only [resolve, invoke, Sem.run_bind, Sem.run_pure, Result.andThen_ok, List.map_toArray, List.map_cons, List.map_nil, h28, h34, hfn, Act.eval, hc]
                  rfl
                · rintro e' W9 ⟨rfl, hb2⟩
                  exact ⟨_, rfl, rfl, (hO'.trans (hb2.mono hO'.size) : Below wr.heap.size wr W9)⟩
              · refine RU.ObT.pure rfl rfl rfl (fun aa V hf hp ev he hc W => ?_)
                have q26 : ev (.tmp 26) = .bool true := (he (.tmp 26)).trans (hp 2 26 rfl)
                have q35 : ev (.tmp 35) = .bool r := (he (.tmp 35)).trans (hp 11 35 rfl)
                simp only [List.getElem_toArray, List.getElem_cons_succ, List.getElem_cons_zero, execOp, Option.map_some, Option.map_none]; rw [q26, q35]
                try simp only [hc]
                first | (go_simp; done) | (go_simp; rfl) | rfl
            intro W1 VW1 hOW1
            have BW1 : Hid (Below wr.heap.size wr W1) := hOW1
            clear hOW1
            simp only [RU.lay, RU.val, RU.at', am71f, Act.put]
            simp only [List.setIfInBounds_toArray, List.set_cons_succ, List.set_cons_zero]
            cases r with
            | true =>
              go_wp2_with fail
              have hw1 : IntKind.i64.wrap ((a : Int) - 1) = (j : Int) := by have := HJ.out; rw [IntKind.wrap_i64]; omega
              exact ⟨⟨j, by have := HJ.out; omega, by first | rw [hw1] | (have := HJ.out; go_num), fun i x hi hx => by
                rcases Nat.lt_or_ge j i with q | q
                · exact HHI.out i x (by have := HJ.out; omega) hx
                · obtain rfl : i = j := by omega
                  rw [HZK.out] at hx; cases hx
                  rw [HYP.out, HZP.out]; exact HRR.out, Below.tr' H5.out BW1.out⟩, by have := HJ.out; simp [intOf]; omega⟩
            | false =>
              have HINS : Hid (insA s y = a) := insA_eq (by rw [HSN.out]; exact han) HHI.out (fun z' h0 hz' => by
                have hj := HJ.out
                rw [show a - 1 = j by omega, HZK.out] at hz'
                cases hz'
                rw [HYP.out, HZP.out]; exact HRR.out)
              have C2 : Hid (Below U.heap.size U W1) := Below.tr' H5.out BW1.out
              have NV : Hid (NO w.heap.size W1 (.slice (some ⟨b, o, none⟩) n cp) s) := NU.out.below C2.out
              have RE2 : Hid (W1.rangeAt E 0 (nc y)) := range_below REU.out C2.out LEU.out
              have LE2 : Hid (E < W1.heap.size) := Nat.lt_of_lt_of_le LEU.out C2.out.size
              go_upto_region 9 with (fail)
              refine wp_region_list ?_
              go_wp2_with (first
                | (refine wp_build0 44 rfl rfl _ (build_n0 W1) ?_)
                | (refine wpList_onen rfl (.tmp 40) rfl ndz ndz_ok rfl ?_)
                | (at_builtin; refine wp_appg rfl (.tmp 39) (.tmp 41) rfl rfl w.heap.size (.slice (some ⟨b, o, none⟩) n cp) (.slice (some ⟨W1.heap.size, 0, none⟩) 1 1) s [ndz] rfl rfl (NV.out.alloc _) (fun z hz => by simp at hz; subst hz; exact ndz_ok) (ns_one W1 ndz _) (by have h1 := HSN.out; simp only [List.length_cons, List.length_nil]; omega) ?_; intro v3 w3 g1 g2 g3; have hgr : Hid ((World.alloc _ _).grownBy w3 _) := g3; have hg1 : Hid (NO w.heap.size w3 v3 (s ++ [ndz])) := g1; have hg2 : Hid (Below w.heap.size W1 w3) := (Below.alloc (Below.refl _ _) NV.out.2.2 _).trans g2; clear g1 g2 g3))
              obtain ⟨g, cq, hv3, hcq'⟩ := hg1.out.sl (by simp)
              rw [List.length_append, HSN.out] at hv3 hcq'
              obtain ⟨N, hN⟩ : ∃ N, N = n + 1 := ⟨_, rfl⟩
              have HN : Hid (N = n + 1) := hN
              have hcq : N ≤ cq := by rw [hN]; exact hcq'
              have hv3' : v3 = .slice (some ⟨g, 0, none⟩) N cq := by rw [hN]; exact hv3
              have N3 : Hid (NO w.heap.size w3 (.slice (some ⟨g, 0, none⟩) N cq) (s ++ [ndz])) := by have := hg1.out; rw [hv3'] at this; exact this
              clear hN
              subst hv3'
              have C3 : Hid (Below w.heap.size w w3) := (CU.out.trans (C2.out.mono CU.out.size)).trans hg2.out
              obtain ⟨fe1, fe2⟩ := fresh_ne hgr.out HROWA.out (show E < (World.alloc _ _).heap.size by have := LE2.out; simp; omega) (cells_below HES.out (Below.tr' C2.out (Below.alloc (Below.refl _ _) (Nat.le_refl _) _)) LEU.out) (range_below RE2.out (Below.alloc (Below.refl _ _) (Nat.le_refl _) _) LE2.out) HYN.out N3.out HSN.out
              have HEG : Hid (E ≠ g) := fe1
              have RE3 : Hid (w3.rangeAt E 0 (nc y)) := fe2
              clear fe1 fe2
              have LE3 : Hid (E < w3.heap.size) := Nat.lt_of_lt_of_le LE2.out hg2.out.size
              clear hcq' hv3
              obtain ⟨q, hq⟩ : ∃ q, q = a + 1 := ⟨_, rfl⟩
              have HQ : Hid (q = a + 1) := hq
              have HDW : Hid (∀ W : World, Below w3.heap.size w3 W → NO w.heap.size W (.slice (some ⟨g, 0, none⟩) N cq) (s ++ [ndz])) := fun W q => N3.out.below q
              obtain ⟨dp, hdp⟩ : ∃ dp, (if cq = q then some ⟨g, 0, none⟩ else some ⟨g, q * 65, none⟩ : Option Addr) = dp := ⟨_, rfl⟩
              have HDP : Hid ((if cq = q then some ⟨g, 0, none⟩ else some ⟨g, q * 65, none⟩ : Option Addr) = dp) := hdp
              have HCP : Hid (∀ W : World, Below w3.heap.size w3 W → (Builtin.copy_ #[24, 24] 3 #[.slice dp (N - q) (cq - q), .slice (some ⟨g, a * 65, none⟩) (N - a) (cq - a)]).run Tryd.prog W = .ok (.int .i64 ((N - q : Nat) : Int)) (W.setCells g ((a + 1) * 65) (ncs (s.drop a)))) := fun W q => run_shift (HDW.out W q) HSN.out han hcq HN.out HQ.out dp hdp
              clear hdp hq
              go_upto_region 10 with (fail)
              refine RU.wp_rgn' [7] (am12f dp g N q cq a) (fun _ => 0) (cpΩ w3 g ((a + 1) * 65) (ncs (s.drop a))) (by kernel_rfl) (by kernel_rfl) (show Below w3.heap.size w3 _ from (Below.refl _ _).drew) ?_ ?_
              · refine ⟨?_, ?_, ?_, ?_, ?_, ?_, ?_, ?_, trivial⟩
                · refine RU.ObT.pure rfl rfl rfl (fun aa V hf hp ev he hc W => ?_)
                  have q5 : ev (.tmp 5) = .slice (some ⟨g, 0, none⟩) N cq := (he (.tmp 5)).trans (hf 5 rfl)
                  simp only [List.getElem_toArray, List.getElem_cons_succ, List.getElem_cons_zero, execOp, Option.map_some, Option.map_none]; rw [q5]
                  first | (go_simp; done) | (go_simp; rfl) | rfl
                · refine RU.ObT.pure rfl rfl rfl (fun aa V hf hp ev he hc W => ?_)
                  have q8 : ev (.tmp 8) = .int .i64 (a : Int) := (he (.tmp 8)).trans (hf 8 rfl)
                  simp only [List.getElem_toArray, List.getElem_cons_succ, List.getElem_cons_zero, execOp, Option.map_some, Option.map_none]; rw [q8]
                  first | (go_simp; done) | (go_simp; rfl) | rfl
                · refine RU.ObT.pure rfl rfl rfl (fun aa V hf hp ev he hc W => ?_)
                  have q44 : ev (.tmp 44) = .int .i64 (a : Int) := (he (.tmp 44)).trans (hp 1 44 rfl)
                  simp only [List.getElem_toArray, List.getElem_cons_succ, List.getElem_cons_zero, execOp, Option.map_some, Option.map_none]; rw [q44]
                  try simp only [hc]
                  have hw1 : IntKind.i64.wrap ((a : Int) + 1) = (q : Int) := by have := HQ.out; rw [IntKind.wrap_i64]; omega
                  first | (go_simp; done) | (go_simp; rfl) | rfl
                · refine RU.ObT.pure rfl rfl rfl (fun aa V hf hp ev he hc W => ?_)
                  have q43 : ev (.tmp 43) = .slice (some ⟨g, 0, none⟩) N cq := (he (.tmp 43)).trans (hp 0 43 rfl)
                  have q45 : ev (.tmp 45) = .int .i64 (q : Int) := (he (.tmp 45)).trans (hp 2 45 rfl)
                  simp only [List.getElem_toArray, List.getElem_cons_succ, List.getElem_cons_zero, execOp, Option.map_some, Option.map_none]; rw [q43, q45]
                  have h1 := HN.out
                  have h2 := HQ.out
                  have hm1 : (q : Int) ≤ (N : Int) := by omega
                  have hm2 : (q : Int) ≤ (cq : Int) := by omega
                  have hm3 : (N : Int) ≤ (cq : Int) := by omega
                  have hm4 : (a : Int) ≤ (N : Int) := by omega
                  have hm5 : (a : Int) ≤ (cq : Int) := by omega
                  have hm6 : ¬ cq = a := by omega
                  clear h1 h2
                  rw [← HDP.out]; by_cases hcm : cq = q <;> ((first | rw [if_pos hcm] | rw [if_neg hcm]); first | (go_simp; done) | (go_simp; rfl) | (subst hcm; go_simp; simp [am12f]; done) | (subst hcm; simp only [am12f]; go_simp; done))
                · refine RU.ObT.pure rfl rfl rfl (fun aa V hf hp ev he hc W => ?_)
                  have q5 : ev (.tmp 5) = .slice (some ⟨g, 0, none⟩) N cq := (he (.tmp 5)).trans (hf 5 rfl)
                  simp only [List.getElem_toArray, List.getElem_cons_succ, List.getElem_cons_zero, execOp, Option.map_some, Option.map_none]; rw [q5]
                  first | (go_simp; done) | (go_simp; rfl) | rfl
                · refine RU.ObT.pure rfl rfl rfl (fun aa V hf hp ev he hc W => ?_)
                  have q8 : ev (.tmp 8) = .int .i64 (a : Int) := (he (.tmp 8)).trans (hf 8 rfl)
                  simp only [List.getElem_toArray, List.getElem_cons_succ, List.getElem_cons_zero, execOp, Option.map_some, Option.map_none]; rw [q8]
                  first | (go_simp; done) | (go_simp; rfl) | rfl
                · refine RU.ObT.pure rfl rfl rfl (fun aa V hf hp ev he hc W => ?_)
                  have q47 : ev (.tmp 47) = .slice (some ⟨g, 0, none⟩) N cq := (he (.tmp 47)).trans (hp 4 47 rfl)
                  have q48 : ev (.tmp 48) = .int .i64 (a : Int) := (he (.tmp 48)).trans (hp 5 48 rfl)
                  simp only [List.getElem_toArray, List.getElem_cons_succ, List.getElem_cons_zero, execOp, Option.map_some, Option.map_none]; rw [q47, q48]
                  have h1 := HN.out
                  have h2 := HQ.out
                  have hm1 : (q : Int) ≤ (N : Int) := by omega
                  have hm2 : (q : Int) ≤ (cq : Int) := by omega
                  have hm3 : (N : Int) ≤ (cq : Int) := by omega
                  have hm4 : (a : Int) ≤ (N : Int) := by omega
                  have hm5 : (a : Int) ≤ (cq : Int) := by omega
                  have hm6 : ¬ cq = a := by omega
                  clear h1 h2
                  first | (go_simp; done) | (go_simp; rfl) | rfl
                · refine RU.ObT.loud (j := 0) rfl (fun aa W V hO hf hp => ?_)
                  have hO' : Below w3.heap.size w3 W := hO
                  have q46 : aa.eval (.tmp 46) = .slice dp (N - q) (cq - q) := hp 3 46 rfl
                  have q49 : aa.eval (.tmp 49) = .slice (some ⟨g, a * 65, none⟩) (N - a) (cq - a) := hp 6 49 rfl
                  refine RU.ob_run (v := .int .i64 ((N - q : Nat) : Int)) (w' := W.setCells g ((a + 1) * 65) (ncs (s.drop a))) rfl (RU.wanted_none rfl) (fun ev he hc => ?_) ⟨_, rfl, W, hO', rfl⟩
                  have e1 := (he (.tmp 46)).trans q46
                  have e2 := (he (.tmp 49)).trans q49
                  simp only [List.getElem_toArray, List.getElem_cons_succ, List.getElem_cons_zero, execOp, resolve, invoke, builtin, Sem.run_bind, Sem.run_pure, Result.andThen_ok, List.map_toArray, List.map_cons, List.map_nil, e1, e2, HCP.out W hO']
              intro W4 VW4 hOW4
              obtain ⟨W0, hW0, hWW⟩ := hOW4
              subst hWW
              have B4 : Hid (Below w3.heap.size w3 W0) := hW0
              clear hW0
              simp only [RU.lay, RU.val, RU.at', am12f, Act.put]
              simp only [List.setIfInBounds_toArray, List.set_cons_succ, List.set_cons_zero]
              have N4 : Hid (NO w.heap.size (W0.setCells g ((a + 1) * 65) (ncs (s.drop a))) (.slice (some ⟨g, 0, none⟩) N cq) ((s ++ [ndz]).take (a + 1) ++ s.drop a)) := by
                have := (HDW.out W0 B4.out).set (m := s.drop a) (i := a + 1) (fun x hx => HSO.out x (List.mem_of_mem_drop hx)) (by rw [List.length_append, List.length_drop, HSN.out]; simp; omega)
                rw [show a + 1 + (s.drop a).length = (s ++ [ndz]).length by rw [List.length_append, List.length_drop, HSN.out]; simp; omega, List.drop_length, List.append_nil] at this
                exact this
              obtain ⟨w4, hw4⟩ : ∃ w4, W0.setCells g ((a + 1) * 65) (ncs (s.drop a)) = w4 := ⟨_, rfl⟩
              have HGB : Hid (w.heap.size ≤ g) := (N3.out.1.lt g rfl).1
              have C4 : Hid (Below w.heap.size w w4) := by rw [← hw4]; exact below_setCells HGB.out _ _ (C3.out.trans (B4.out.mono C3.out.size))
              have RE4 : Hid (w4.rangeAt E 0 (nc y)) := by rw [← hw4]; exact World.rangeAt_setCells_apart (range_below RE3.out B4.out LE3.out) _ _ _ (.inl (fun e => HEG.out e))
              rw [hw4] at N4 ⊢
              clear hw4
              have T4 : Hid (w4.there g (a * 65) 65) := NO.there N4.out (by simp only [List.length_append, List.length_take, List.length_drop, HSN.out, List.length_cons, List.length_nil]; omega)
              have haN : a < N := by have := HN.out; omega
              go_wp2_with (first
                | (refine ld 44 (.tmp 7) rfl rfl E 0 rfl (nc y) _ RE4.out Tryd.underlying44 rfl (size_nc HYO.out) ?_)
                | (refine wpList_store_mid rfl 44 (.tmp 54) (.tmp 53) rfl g (a * 65) (nc y).toArray rfl rfl (by rw [nc_size HYO.out]; exact T4.out) (by rw [List.size_toArray]; exact size_nc HYO.out) (nc_one _) ?_; simp only [List.toList_toArray]))
              have N5 : NO w.heap.size (w4.setCells g (a * 65) (nc y)) (.slice (some ⟨g, 0, none⟩) N cq) (s.take a ++ [y] ++ s.drop a) := by
                have := N4.out.set (m := [y]) (i := a) (fun x hx => by simp at hx; subst hx; exact HYO.out) (by simp only [List.length_append, List.length_take, List.length_drop, HSN.out, List.length_cons, List.length_nil]; omega)
                rw [show ncs [y] = nc y by simp [ncs]] at this
                rw [put_shape HSN.out han] at this
                exact this
              exact ⟨⟨k + 1, _, by omega, by go_num, N5, by rw [HTK.out]; unfold ins; rw [HINS.out], below_setCells HGB.out _ _ C4.out⟩, by simp [intOf]; omega⟩
    · obtain rfl : k = len := by omega
      have HTA : Hid (s = am l ls) := by show _ = _; rw [HSE.out, ← HLN.out, List.take_length]; rfl
      go_wp2_with fail
      go_ret
      exact ⟨_, rfl, by rw [← HTA.out]; exact HNO.out.ns, H4.out⟩
end Go.Proofs.YtpojalbpekbfdaaDoor
