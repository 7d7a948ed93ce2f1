/- Package tree: opened. -/
import Derived.Test.YtkeobajlikhghabDoorTrmB
import Derived.Test.YtkeobajlikhghabDoorTrsB
import Derived.Test.YtkeobajlikhghabDoorTraA
import Derived.Shelf.SlSortCmp.WholeK
import Derived.Shelf.Lay
import Derived.Ground.SlsfProg
namespace Go.Proofs.YtkeobajlikhghabDoor
open Go Go.RowKit
set_option linter.unusedSimpArgs false
set_option linter.unusedVariables false
set_option maxRecDepth 100000

theorem NO.mono {B B' : Nat} {w : World} {v : Value} {l : List Nd} (h : NO B w v l) (hb : B' ≤ B) : NO B' w v l := by
  obtain ⟨⟨h1, h2⟩, hk, hB⟩ := h
  refine ⟨⟨h1, ?_⟩, hk, Nat.le_trans hb hB⟩
  rcases h2 with h2 | ⟨g, cap, cur, e, hg, r⟩
  · exact .inl h2
  · exact .inr ⟨g, cap, cur, e, Nat.le_trans hb hg, r⟩
def lenV : Value → Nat | .slice _ n _ => n | _ => 0
set_option maxHeartbeats 8000000 in
theorem opened_any (l : List Nd) (hr : Rsn l) (hlen : l.length ≤ 2900000000000) (y : List Int) (hy : L32 y) (v : Value) (w : World) (hv : NS w v l) (hT : Tb w) :
    Calls Tryd.prog 17 #[v, .agg (bv y).toArray] w fun e w' => ∃ v', e = .returned v' ∧ NO w.heap.size w' v' (opl y l) ∧ Below w.heap.size w w' := by
  have sy : (bv y).toArray.size = 32 := by rw [List.size_toArray, bv_length, hy.len]
  have ra := range_alloc w (bv y) 23 (0, 0)
  obtain ⟨A, hA⟩ : ∃ A, (bv y).toArray = A := ⟨_, rfl⟩
  rw [hA] at ra sy ⊢
  obtain ⟨U, hU⟩ : ∃ U, w.alloc (.cells A 23) = U := ⟨_, rfl⟩
  have sU : U.heap.size = w.heap.size + 1 := by rw [← hU]; simp
  have bU : Below w.heap.size w U := by rw [← hU]; exact (Below.refl _ w).alloc (Nat.le_refl _) _
  rw [hU] at ra
  have BU : Hid (Below w.heap.size w U) := bU
  have NU : Hid (NS U v l) := hv.below bU
  have TU : Hid (Tb U) := hT.below bU
  have HY : Hid (L32 y) := hy
  have HR : Hid (Rsn l) := hr
  have HLL : Hid (l.length ≤ 2900000000000) := hlen
  obtain ⟨D, hD⟩ : ∃ D, w.heap.size = D := ⟨_, rfl⟩
  have HD : Hid (w.heap.size = D) := hD
  rw [hD] at ra sU ⊢
  have RY : Hid (U.rangeAt D 0 (bv y)) := ra
  have hDU : Hid (D < U.heap.size) := by show D < _; omega
  have HN0 : Hid (NO U.heap.size U (.slice none 0 0) []) := NO.nil U
  clear ra bU hy hr sU hT hv hlen hA
  go_enter Tryd.func17, Tryd.ntmps17
  go_upto_region 1 with (fail)
  try rw [hU]
  try rw [hD]
  clear hU hD
  go_wp2_with fail
  go_loopw [0, 5] (fun nv lv wr => ∃ (m acc : List Nd), NS U nv m ∧ NO U.heap.size wr lv acc ∧ acc ++ opl y m = opl y l ∧ m.Sublist l ∧ acc.length + m.length ≤ l.length ∧ Below U.heap.size U wr) (fun nv _ _ => lenV nv)
  case atStart => exact ⟨l, [], NU.out, HN0.out, rfl, List.Sublist.refl _, by simp, Below.refl _ _⟩
  case round =>
    obtain ⟨m, acc, hns, hno, heq, hsub, hcnt, h4⟩ := hrel
    have H4 : Hid (Below U.heap.size U wr) := h4
    have HNO : Hid (NO U.heap.size wr u5 acc) := hno
    have HEQ : Hid (acc ++ opl y m = opl y l) := heq
    have HSB : Hid (m.Sublist l) := hsub
    have HCN : Hid (acc.length + m.length ≤ l.length) := hcnt
    have HNS : Hid (NS U u0 m) := hns
    clear h4 hno heq hsub hcnt
    obtain ⟨ad, cap, rfl, hcp, hxx⟩ := hns
    by_cases hm0 : m = []
    · have HM : Hid (m = []) := hm0
      have hl0 : m.length = 0 := by rw [hm0]; rfl
      rw [hl0] at HNS hcp ⊢
      clear hxx hm0 hl0
      go_wp2_with fail
      go_ret
      have hbl : Below w.heap.size w wr := BU.out.trans (H4.out.mono BU.out.size)
      have hst := HD.out
      rw [hst] at hbl
      refine ⟨_, rfl, ?_, hbl⟩
      have := HEQ.out
      rw [HM.out, opl_nil, List.append_nil] at this
      rw [← this]; exact HNO.out.mono (by have := hDU.out; omega)
    · rcases hxx with ⟨h0, _⟩ | ⟨b, o, rfl, hlb, hmm⟩
      · exact absurd h0 hm0
      have hrm : Rsn m := HR.out.sub HSB.out
      have HRM : Hid (Rsn m) := hrm
      have HME : Hid (m ≠ []) := hm0
      have hmk : ∀ x ∈ m, x.Ok := hrm.ris.ok
      obtain ⟨len, hln⟩ : ∃ len, m.length = len := ⟨_, rfl⟩
      have HLN : Hid (m.length = len) := hln
      have hlle : len ≤ 2900000000000 := by have h1 := HCN.out; have h2 := HLL.out; omega
      have hl1 : 0 < len := by rw [← hln]; exact List.length_pos_iff.2 hm0
      obtain ⟨k, hk⟩ : ∃ k, lvg y m = k := ⟨_, rfl⟩
      have HKK : Hid (lvg y m = k) := hk
      have hk1 : 1 ≤ k := by
        rw [← hk]
        cases m with
        | nil => exact absurd rfl hm0
        | cons x r => exact lvg_pos y x r
      have hk2 : k ≤ len := by rw [← hk, ← hln]; exact lvg_le y m
      have HLV : Hid (Calls Tryd.prog 29 #[.slice (some ⟨b, o, none⟩) len cap, .agg (bv y).toArray] wr fun e w' => e = .returned (.int .i64 (k : Int)) ∧ Below wr.heap.size wr w') := by
        have := leaving_any m hmk hm0 (by omega) y HY.out _ wr (HNS.out.below H4.out)
        rw [hk, hln] at this; exact this
      obtain ⟨R, hRo⟩ : ∃ R, ovl (m.take k) = R := ⟨_, rfl⟩
      have HRO : Hid (ovl (m.take k) = R) := hRo
      have htl : (m.take k).length = k := by rw [List.length_take]; omega
      have htn : m.take k ≠ [] := fun e => by rw [e] at htl; simp at htl; omega
      have HTN : Hid (∀ W : World, Below wr.heap.size wr W → NS W (.slice (some ⟨b, o, none⟩) k cap) (m.take k)) := fun W q => NS.take ((HNS.out.below H4.out).below q) hm0 (by omega)
      have hrt : Rsn (m.take k) := hrm.sub (List.take_sublist _ _)
      have HOV : Hid (∀ W : World, Below wr.heap.size wr W → Calls Tryd.prog 21 #[.slice (some ⟨b, o, none⟩) k cap] W fun e w' => e = .returned (.agg (nc R).toArray) ∧ Below W.heap.size W w') := fun W q => by
        have := over_any _ (m.take k) (Nat.le_refl _) hrt htn (by omega) _ W (HTN.out W q) (TU.out.below (Below.tr' H4.out q))
        rw [hRo] at this; exact this
      have HRK : Hid R.Ok := by rw [← hRo]; exact (ov_ok hrt htn _ (Nat.le_refl _)).1
      have HCA : Hid (acc.length + 1 ≤ 3000000000000) := by have h1 := HCN.out; have h2 := HLL.out; show acc.length + 1 ≤ _; omega
      rw [hln] at hcp HNS ⊢
      have hRY := range_below RY.out H4.out hDU.out
      have HRY : Hid (wr.rangeAt D 0 (bv y)) := hRY
      clear hln hk htl htn hrt hRo hrm hmk hlb hmm hm0 hRY
      have hkc : (k : Int) ≤ (cap : Int) := by omega
      have hkl : (k : Int) ≤ (len : Int) := by omega
      have hlc : (len : Int) ≤ (cap : Int) := by omega
      have hkc' : k ≤ cap := by omega
      go_upto_region 5 with (first
        | (refine ld 23 (.tmp 3) rfl rfl D 0 rfl (bv y) _ HRY.out Tryd.underlying23 rfl (size_l32 HY.out) ?_)
        | (go_at_call 29; refine HLV.out.mono ?_; rintro e w1 ⟨rfl, g1⟩; have B1 : Hid (Below wr.heap.size wr w1) := g1; clear g1)
        | (go_at_call 21; refine (HOV.out w1 B1.out).mono ?_; rintro e w2 ⟨rfl, g1⟩; have B2 : Hid (Below wr.heap.size wr w2) := Below.tr' B1.out g1; have N2 : Hid (NO U.heap.size w2 u5 acc) := HNO.out.below (Below.tr' B1.out g1); clear g1)
        | (refine wpList_onen rfl (.tmp 17) rfl R HRK.out rfl ?_)
        | (at_builtin; refine wp_appn rfl (.tmp 13) (.tmp 18) rfl rfl U.heap.size u5 (.slice (some ⟨w2.heap.size, 0, none⟩) 1 1) acc [R] rfl rfl (N2.out.alloc _) (fun z hz => by simp at hz; subst hz; exact HRK.out) (ns_one w2 R _) (by have h1 := HCA.out; simp only [List.length_cons, List.length_nil]; omega) ?_; intro v3 w3 g1 g2; have N3 : Hid (NO U.heap.size w3 v3 (acc ++ [R])) := g1; have B3 : Hid (Below U.heap.size w2 w3) := (Below.alloc (Below.refl _ w2) N2.out.2.2 _).trans g2; clear g1 g2))
      have C3 : Hid (Below U.heap.size U w3) := ((Below.tr' H4.out B2.out)).trans B3.out
      have HOP : Hid ((acc ++ [R]) ++ opl y (m.drop k) = opl y l) := by
        show _ = _
        rw [← HEQ.out, opl_cons y HME.out, HKK.out, HRO.out, List.append_assoc]; rfl
      have HDS : Hid ((m.drop k).Sublist l) := (List.drop_sublist _ _).trans HSB.out
      have HDC : Hid ((acc ++ [R]).length + (m.drop k).length ≤ l.length) := by
        show _ ≤ _
        rw [List.length_append, List.length_drop, HLN.out]; have h1 := HCN.out; have h2 := HLN.out; simp; omega
      rcases Nat.lt_or_ge k len with hkn | hkn
      · have hcm : ¬ cap = k := by omega
        have HND : Hid (NS U (.slice (some ⟨b, o + k * 65, none⟩) (len - k) (cap - k)) (m.drop k)) := by
          have := NS.drop (m := k) (l := m) (by have := HNS.out; rw [HLN.out]; exact this) HME.out (by rw [HLN.out]; omega)
          rw [HLN.out] at this; exact this
        go_wp2_with fail
        exact ⟨⟨m.drop k, acc ++ [R], HND.out, N3.out, HOP.out, HDS.out, HDC.out, C3.out⟩, by simp [lenV]; omega⟩
      · obtain rfl : k = len := by omega
        have HDN : Hid (m.drop k = []) := by show _ = _; rw [← HLN.out]; exact List.drop_length
        by_cases hcm : cap = k
        · subst hcm
          go_wp2_with fail
          exact ⟨⟨m.drop cap, acc ++ [R], by rw [HDN.out]; exact ⟨_, _, rfl, Nat.zero_le _, .inl ⟨rfl, fun h => by cases h⟩⟩, N3.out, HOP.out, HDS.out, HDC.out, C3.out⟩, by simp [lenV]; omega⟩
        · go_wp2_with fail
          exact ⟨⟨m.drop k, acc ++ [R], by rw [HDN.out]; exact ⟨some ⟨b, o + k * 65, none⟩, cap - k, by simp, Nat.zero_le _, .inl ⟨rfl, fun h => by cases h⟩⟩, N3.out, HOP.out, HDS.out, HDC.out, C3.out⟩, by simp [lenV]; omega⟩
end Go.Proofs.YtkeobajlikhghabDoor
/- Package tree: byPrefix, to the block; slices.SortFunc of nodes. -/
namespace Go.Proofs.YtkeobajlikhghabDoor
open Go Go.RowKit Go.Shelf
set_option linter.unusedSimpArgs false
set_option linter.unusedVariables false
set_option maxRecDepth 100000

shelf_lay_g SlLaysF0.n6 Slsf 6 at Tryd 26 as sortNd

theorem sl_drewN {W : World} {v : Value} {x : List Int} (h : Sl W v x) (n : Nat) : Sl (W.drewN n) v x := h
set_option maxHeartbeats 2000000 in
theorem byPrefix_lays (a b : Nd) (ha : a.Ok) (hb : b.Ok) (w : World) :
    Calls Tryd.prog 27 #[.agg (nc a).toArray, .agg (nc b).toArray] w fun e w' => e = .returned (.int .i64 (cmpI a.p b.p)) ∧ ∃ q os', w' = Go.Sort.grow (w.drewN q) os' := by
  have s1 := nc_size ha
  have s2 := nc_size hb
  obtain ⟨ra, rb, rs, rl⟩ := two_rows w (nc a) (nc b) 35 35
  obtain ⟨A, hA⟩ : ∃ A, (nc a).toArray = A := ⟨_, rfl⟩
  obtain ⟨B, hB⟩ : ∃ B, (nc b).toArray = B := ⟨_, rfl⟩
  rw [hA, hB] at ra rb rs rl
  rw [hA] at s1 ⊢
  rw [hB] at s2 ⊢
  have HA : Hid a.Ok := ha
  have HB : Hid b.Ok := hb
  obtain ⟨z, hz⟩ : ∃ z, cmpI a.p b.p = z := ⟨_, rfl⟩
  have HZ : Hid (cmpI a.p b.p = z) := hz
  rw [hz]
  clear ha hb hz
  go_enter Tryd.func27, Tryd.ntmps27
  go_wp2_with fail
  obtain ⟨U, hU⟩ : ∃ U, (w.alloc (.cells A 35)).alloc (.cells B 35) = U := ⟨_, rfl⟩
  have HU : Hid (∃ os, U = Go.Sort.grow w os) := ⟨_, by rw [← hU, Go.Sort.alloc_eq_grow, Go.Sort.alloc_eq_grow, Go.Sort.grow_grow]⟩
  rw [hU] at ra rb rs rl ⊢
  obtain ⟨D, hD⟩ : ∃ D, w.heap.size = D := ⟨_, rfl⟩
  rw [hD] at ra rb rs ⊢
  have hDX : Hid (D < U.heap.size) := by show D < _; omega
  have hDY : Hid (D + 1 < U.heap.size) := by show D + 1 < _; omega
  have RA : Hid (U.rangeAt D 1 (bv a.p)) := nc_p ra
  have RB : Hid (U.rangeAt (D + 1) 1 (bv b.p)) := nc_p rb
  have HCM : Hid (∀ n, Calls Tryd.prog 45 #[.slice (some ⟨D, 1, none⟩) 32 32, .slice (some ⟨D + 1, 1, none⟩) 32 32] (U.drewN n) fun e w' => e = .returned (.int .i64 z) ∧ w' = U.drewN n) := fun n => by
    have := compare_any a.p b.p _ _ (U.drewN n) (sl_drewN (sl_range HA.out.p RA.out hDX.out) n) (sl_drewN (sl_range HB.out.p RB.out hDY.out) n)
    rw [HZ.out] at this; exact this
  clear hU ra rb rs rl hD hA hB
  go_quiet ((go_at_call 45; exact Calls.quiet_of_same (HCM.out _)))
  go_wp2_with fail
  go_ret
  obtain ⟨os, rfl⟩ := HU.out
  exact ⟨rfl, nq, os, rfl⟩
end Go.Proofs.YtkeobajlikhghabDoor
/- Package tree: leafNodes, where sorting is as it should be. -/
namespace Go.Proofs.YtkeobajlikhghabDoor
open Go Go.RowKit
set_option linter.unusedSimpArgs false
set_option linter.unusedVariables false
set_option maxRecDepth 100000

/-- What sorting nodes gives. -/
def SortC : Prop := ∀ (B : Nat) (w : World) (v : Value) (l : List Nd), NO B w v l → l.length ≤ 3000000000000 →
  Calls Tryd.prog 26 #[v, .func (.func 27) #[] #[]] w fun e w' => e = .returned (.tuple #[]) ∧ ∃ s, s.Perm l ∧ s.Pairwise (fun a b => pf a.p 256 ≤ pf b.p 256) ∧ NS w' v s ∧ Below B w w'
theorem take_ln {ls : List Lf} {k : Nat} {x : Lf} (hx : ls[k]? = some x) : (ls.take (k + 1)).map ln = (ls.take k).map ln ++ [ln x] := by
  obtain ⟨h, rfl⟩ := List.getElem?_eq_some_iff.1 hx
  rw [List.take_succ_eq_append_getElem h, List.map_append]; rfl
/-- What leafNodes gives. -/
def LNo (ls : List Lf) (v' : Value) (er : Int) (w' : World) : Prop := (okl ls ∧ er = 0 ∧ NS w' v' (so ls)) ∨ (¬ okl ls ∧ er = 1 ∧ v' = .slice none 0 0)
set_option maxHeartbeats 4000000 in
theorem leafNodes_core (HS : SortC) (ls : List Lf) (hk : ∀ x ∈ ls, x.Ok) (hlen : ls.length ≤ 2500000000000) (v : Value) (w : World) (hv : LS w v ls) (hT : Tb w) :
    Calls Tryd.prog 15 #[v] w fun e w' => ∃ v' er, e = .returned (.tuple #[v', .int .i64 er]) ∧ LNo ls v' er w' ∧ Below w.heap.size w w' := by
  have HSO : Hid SortC := HS
  obtain ⟨ad, cap, rfl, hc, hx⟩ := hv
  have HXX : Hid (ls = [] ∧ (ad = none → cap = 0) ∨ ∃ b o, ad = some ⟨b, o, none⟩ ∧ b < w.heap.size ∧ ∀ (i : Nat) (x : Lf), ls[i]? = some x → w.rangeAt b (o + i * 64) (lfc x)) := hx
  have HK : Hid (∀ x ∈ ls, x.Ok) := hk
  have HT : Hid (Tb w) := hT
  obtain ⟨len, hln⟩ : ∃ len, ls.length = len := ⟨_, rfl⟩
  have HLN : Hid (ls.length = len) := hln
  have HLE : Hid (len ≤ 2500000000000) := by rw [← hln]; exact hlen
  rw [hln]
  have hz := zero_lf
  obtain ⟨Z, hZ⟩ : ∃ Z, (lfc lfz).toArray = Z := ⟨_, rfl⟩
  have HZS : Hid (Z.size = 64) := by show Z.size = 64; rw [← hZ, List.size_toArray]; exact lfc_length lfz_ok
  rw [hZ] at hz
  obtain ⟨w0, hmk, mk1, mk2⟩ := make_own w len (by have := HLE.out; omega)
  have MK1 : Hid (NO w.heap.size w0 (.slice (some ⟨w.heap.size, 0, none⟩) 0 len) []) := mk1
  have MK2 : Hid (Below w.heap.size w w0) := mk2
  have HMN : Hid (∀ (s : List Nd) (W : World) (v : Value), (∀ x ∈ s, x.Ok) → s.length ≤ 140737488355328 → NS W v s → Calls Tryd.prog 20 #[v] W fun e w' => e = .returned (.bool (apt s)) ∧ Below W.heap.size W w') := fun s W v h1 h2 h3 => Apart_any s h1 v W h3 h2
  clear hx hk hT hc hln hlen mk1 mk2 hZ
  go_enter Tryd.func15, Tryd.ntmps15
  go_wp2_with fail
  go_loopw [4, 12] (fun nv i wr => ∃ k : Nat, k ≤ len ∧ i = .int .i64 (k : Int) ∧ NO w.heap.size wr nv ((ls.take k).map ln) ∧ Below w.heap.size w wr) (fun _ i _ => len - (intOf i).toNat)
  case atStart => exact ⟨0, Nat.zero_le _, rfl, MK1.out, MK2.out⟩
  case round =>
    obtain ⟨k, hkl, rfl, hno, h4⟩ := hrel
    have H4 : Hid (Below w.heap.size w wr) := h4
    have HNO : Hid (NO w.heap.size wr u4 ((ls.take k).map ln)) := hno
    clear h4 hno hmk
    by_cases hlt : k < len
    · rcases HXX.out with ⟨h0, _⟩ | ⟨b, o, rfl, hlb, hm⟩
      · have := HLN.out; rw [h0] at this; simp at this; omega
      · obtain ⟨x, hx⟩ : ∃ x, ls[k]? = some x := ⟨ls[k]'(by have := HLN.out; omega), List.getElem?_eq_getElem _⟩
        have HX : Hid x.Ok := HK.out x (List.mem_of_getElem? hx)
        obtain ⟨y, hy⟩ : ∃ y, ln x = y := ⟨_, rfl⟩
        have HTK : Hid ((ls.take (k + 1)).map ln = (ls.take k).map ln ++ [y]) := by rw [← hy]; exact take_ln hx
        have HYO : Hid y.Ok := by rw [← hy]; exact ln_ok HX.out
        have HRX : Hid (wr.rangeAt b (o + k * 64) (lfc x)) := range_below (hm k x hx) H4.out hlb
        have HLF : Hid (∀ W : World, Tb W → Calls Tryd.prog 14 #[.agg (lfc x).toArray] W fun e w' => e = .returned (.agg (nc y).toArray) ∧ Below W.heap.size W w') := fun W q => by rw [← hy]; exact leafNode_any x.p x.q HX.out.p HX.out.q W q
        have HTL : Hid (((ls.take k).map ln).length = k) := by show _ = _; rw [List.length_map, List.length_take]; have := HLN.out; omega
        obtain ⟨X, hX⟩ : ∃ X, (lfc x).toArray = X := ⟨_, rfl⟩
        have HXA : Hid ((lfc x).toArray = X) := hX
        obtain ⟨L, hL⟩ : ∃ L, (ls.take k).map ln = L := ⟨_, rfl⟩
        rw [hL] at HTK HNO HTL
        have hl2 := HLE.out
        clear hm hlb hx hy hL
        go_upto_region 5 with (first
          | (refine load_g rfl 27 (.tmp 14) rfl b (o + k * 64) rfl (lfc x) _ HRX.out Tryd.underlying27 rfl (size_lfc HX.out) ?_; rw [hX])
          | (refine wpList_store_mid rfl 27 (.tmp 6) (.tmp 15) rfl wr.heap.size 0 (lfc x).toArray rfl (by rw [HXA.out]; rfl) (there_new wr (by rw [List.size_toArray, lfc_length HX.out, HZS.out])) (by rw [List.size_toArray]; exact size_lfc HX.out) (lfc_one x) ?_; simp only [List.toList_toArray]))
        obtain ⟨U, hU⟩ : ∃ U, (wr.alloc (.cells Z 27)).setCells wr.heap.size 0 (lfc x) = U := ⟨_, rfl⟩
        rw [hU]
        obtain ⟨r1, r2, r3⟩ := laid_row (by rw [lfc_length HX.out, HZS.out]) (by rw [lfc_length HX.out]; omega) hU
        have RU' : Hid (U.rangeAt wr.heap.size 0 (lfc x)) := r1
        have CU : Hid (Below w.heap.size w U) := H4.out.trans (r2.mono H4.out.size)
        have NU : Hid (NO w.heap.size U u4 L) := HNO.out.below r2
        have TU : Hid (Tb U) := HT.out.below CU.out
        clear r1 r2 r3 hU hX
        go_wp2_with (first
          | (refine ld 27 (.tmp 6) rfl rfl wr.heap.size 0 rfl (lfc x) _ RU'.out Tryd.underlying27 rfl (size_lfc HX.out) ?_)
          | (go_at_call 14; refine (HLF.out U TU.out).mono ?_; rintro e w1 ⟨rfl, g1⟩; have C1 : Hid (Below w.heap.size w w1) := CU.out.trans (g1.mono CU.out.size); have N1 : Hid (NO w.heap.size w1 u4 L) := NU.out.below g1; clear g1)
          | (refine wpList_onen rfl (.tmp 18) rfl y HYO.out rfl ?_)
          | (at_builtin; refine wp_appn rfl (.tmp 16) (.tmp 19) rfl rfl w.heap.size u4 (.slice (some ⟨w1.heap.size, 0, none⟩) 1 1) L [y] rfl rfl (N1.out.alloc _) (fun z hz => by simp at hz; subst hz; exact HYO.out) (ns_one w1 y _) (by have h1 := HTL.out; have h2 := HLE.out; simp only [List.length_cons, List.length_nil]; omega) ?_; intro v2 w2 g1 g2; have N2 : Hid (NO w.heap.size w2 v2 ((ls.take (k + 1)).map ln)) := by rw [HTK.out]; exact g1
             have C2 : Hid (Below w.heap.size w w2) := (C1.out.alloc C1.out.size _).trans g2
             clear g1 g2))
        exact ⟨⟨k + 1, by omega, by go_num, N2.out, C2.out⟩, by simp [intOf]; omega⟩
    · obtain rfl : k = len := by omega
      have HTA : Hid ((ls.take k).map ln = ls.map ln) := by show _ = _; rw [← HLN.out, List.take_length]
      have HSC : Hid (Calls Tryd.prog 26 #[u4, .func (.func 27) #[] #[]] wr fun e w' => e = .returned (.tuple #[]) ∧ ∃ s, s.Perm (ls.map ln) ∧ s.Pairwise (fun a b => pf a.p 256 ≤ pf b.p 256) ∧ NS w' u4 s ∧ Below w.heap.size wr w') := by
        have := HNO.out; rw [HTA.out] at this
        exact HSO.out w.heap.size wr u4 (ls.map ln) this (by rw [List.length_map]; have h1 := HLN.out; have h2 := HLE.out; omega)
      go_upto_region 8 with (go_at_call 26; refine HSC.out.mono ?_; rintro e w1 ⟨rfl, s, g1, g2, g3, g4⟩; have P1 : Hid (s.Perm (ls.map ln)) := g1; have P2 : Hid (s.Pairwise (fun a b => pf a.p 256 ≤ pf b.p 256)) := g2; have N1 : Hid (NS w1 u4 s) := g3; have C1 : Hid (Below w.heap.size w w1) := H4.out.trans g4; clear g1 g2 g3 g4)
      have hsl : s.length ≤ 140737488355328 := by have := P1.out.length_eq; rw [List.length_map] at this; have h1 := HLN.out; have h2 := HLE.out; omega
      have HAC := HMN.out s w1 u4 (fun x hx => (map_ok HK.out P1.out x hx).1) hsl N1.out
      cases ha : apt s with
      | true =>
        rw [ha] at HAC
        have HAP : Hid (Calls Tryd.prog 20 #[u4] w1 fun e w' => e = .returned (.bool true) ∧ Below w1.heap.size w1 w') := HAC
        obtain ⟨o1, o2⟩ := so_uniq HK.out P1.out ha
        have HO1 : Hid (okl ls) := o1
        have HO2 : Hid (so ls = s) := o2
        clear HAC ha hsl o1 o2
        go_wp2_with (go_at_call 20; refine HAP.out.mono ?_; rintro e w2 ⟨rfl, g1⟩; have B2 : Hid (Below w1.heap.size w1 w2) := g1; clear g1)
        go_ret2
        exact ⟨_, _, rfl, .inl ⟨HO1.out, rfl, by rw [HO2.out]; exact N1.out.below B2.out⟩, C1.out.trans (B2.out.mono C1.out.size)⟩
      | false =>
        rw [ha] at HAC
        have HAP : Hid (Calls Tryd.prog 20 #[u4] w1 fun e w' => e = .returned (.bool false) ∧ Below w1.heap.size w1 w') := HAC
        have HO1 : Hid (¬ okl ls) := fun q => by have := (sorted_apt HK.out P1.out P2.out q).1; rw [ha] at this; cases this
        clear HAC ha hsl
        go_wp2_with (go_at_call 20; refine HAP.out.mono ?_; rintro e w2 ⟨rfl, g1⟩; have B2 : Hid (Below w1.heap.size w1 w2) := g1; clear g1)
        go_ret2
        exact ⟨_, _, rfl, .inr ⟨HO1.out, rfl, rfl⟩, C1.out.trans (B2.out.mono C1.out.size)⟩
end Go.Proofs.YtkeobajlikhghabDoor
