/- Package tree: byPrefix, to the block; slices.SortFunc of nodes. -/
import Derived.Test.YtkeobajlikhghaaDoorTraA
import Derived.Shelf.SlSortCmp.WholeK
import Derived.Shelf.Lay
import Derived.Ground.SlsfProg
import Derived.Test.YtkeobajlikhghaaDoorTrfA
import Derived.Test.YtkeobajlikhghaaDoorTrrH
namespace Go.Proofs.YtkeobajlikhghaaDoor
open Go Go.RowKit Go.Shelf
set_option linter.unusedSimpArgs false
set_option linter.unusedVariables false
set_option maxRecDepth 100000

shelf_lay_g SlLaysF0.n6 Slsf 6 at Tryd 63 as sortNd

theorem sl_drewN {W : World} {v : Value} {x : List Int} (h : Sl W v x) (n : Nat) : Sl (W.drewN n) v x := h
set_option maxHeartbeats 2000000 in
theorem byPrefix_lays (a b : Nd) (ha : a.Ok) (hb : b.Ok) (w : World) :
    Calls Tryd.prog 62 #[.agg (nc a).toArray, .agg (nc b).toArray] w fun e w' => e = .returned (.int .i64 (cmpI a.p b.p)) ∧ ∃ q os', w' = Go.Sort.grow (w.drewN q) os' := by
  have s1 := nc_size ha
  have s2 := nc_size hb
  obtain ⟨ra, rb, rs, rl⟩ := two_rows w (nc a) (nc b) 27 27
  obtain ⟨A, hA⟩ : ∃ A, (nc a).toArray = A := ⟨_, rfl⟩
  obtain ⟨B, hB⟩ : ∃ B, (nc b).toArray = B := ⟨_, rfl⟩
  rw [hA, hB] at ra rb rs rl
  rw [hA] at s1 ⊢
  rw [hB] at s2 ⊢
  have HA : Hid a.Ok := ha
  have HB : Hid b.Ok := hb
  obtain ⟨z, hz⟩ : ∃ z, cmpI a.p b.p = z := ⟨_, rfl⟩
  have HZ : Hid (cmpI a.p b.p = z) := hz
  rw [hz]
  clear ha hb hz
  go_enter Tryd.func62, Tryd.ntmps62
  go_wp2_with fail
  obtain ⟨U, hU⟩ : ∃ U, (w.alloc (.cells A 27)).alloc (.cells B 27) = U := ⟨_, rfl⟩
  have HU : Hid (∃ os, U = Go.Sort.grow w os) := ⟨_, by rw [← hU, Go.Sort.alloc_eq_grow, Go.Sort.alloc_eq_grow, Go.Sort.grow_grow]⟩
  rw [hU] at ra rb rs rl ⊢
  obtain ⟨D, hD⟩ : ∃ D, w.heap.size = D := ⟨_, rfl⟩
  rw [hD] at ra rb rs ⊢
  have hDX : Hid (D < U.heap.size) := by show D < _; omega
  have hDY : Hid (D + 1 < U.heap.size) := by show D + 1 < _; omega
  have RA : Hid (U.rangeAt D 1 (bv a.p)) := nc_p ra
  have RB : Hid (U.rangeAt (D + 1) 1 (bv b.p)) := nc_p rb
  have HCM : Hid (∀ n, Calls Tryd.prog 72 #[.slice (some ⟨D, 1, none⟩) 32 32, .slice (some ⟨D + 1, 1, none⟩) 32 32] (U.drewN n) fun e w' => e = .returned (.int .i64 z) ∧ w' = U.drewN n) := fun n => by
    have := compare_any a.p b.p _ _ (U.drewN n) (sl_drewN (sl_range HA.out.p RA.out hDX.out) n) (sl_drewN (sl_range HB.out.p RB.out hDY.out) n)
    rw [HZ.out] at this; exact this
  clear hU ra rb rs rl hD hA hB
  go_quiet ((go_at_call 72; exact Calls.quiet_of_same (HCM.out _)))
  go_wp2_with fail
  go_ret
  obtain ⟨os, rfl⟩ := HU.out
  exact ⟨rfl, nq, os, rfl⟩
end Go.Proofs.YtkeobajlikhghaaDoor
/- Package tree: leafNodes, where sorting is as it should be. -/
namespace Go.Proofs.YtkeobajlikhghaaDoor
open Go Go.RowKit
set_option linter.unusedSimpArgs false
set_option linter.unusedVariables false
set_option maxRecDepth 100000

/-- What sorting nodes gives. -/
def SortC : Prop := ∀ (B : Nat) (w : World) (v : Value) (l : List Nd), NO B w v l → l.length ≤ 3000000000000 →
  Calls Tryd.prog 63 #[v, .func (.func 62) #[] #[]] w fun e w' => e = .returned (.tuple #[]) ∧ ∃ s, s.Perm l ∧ s.Pairwise (fun a b => pf a.p 256 ≤ pf b.p 256) ∧ NS w' v s ∧ Below B w w'
theorem take_ln {ls : List Lf} {k : Nat} {x : Lf} (hx : ls[k]? = some x) : (ls.take (k + 1)).map ln = (ls.take k).map ln ++ [ln x] := by
  obtain ⟨h, rfl⟩ := List.getElem?_eq_some_iff.1 hx
  rw [List.take_succ_eq_append_getElem h, List.map_append]; rfl
/-- What leafNodes gives. -/
def LNo (ls : List Lf) (v' : Value) (er : Int) (w' : World) : Prop := (okl ls ∧ er = 0 ∧ NS w' v' (so ls)) ∨ (¬ okl ls ∧ er = 1 ∧ v' = .slice none 0 0)
set_option maxHeartbeats 4000000 in
theorem leafNodes_core (HS : SortC) (ls : List Lf) (hk : ∀ x ∈ ls, x.Ok) (hlen : ls.length ≤ 2500000000000) (v : Value) (w : World) (hv : LS w v ls) (hT : Tb w) :
    Calls Tryd.prog 44 #[v] w fun e w' => ∃ v' er, e = .returned (.tuple #[v', .int .i64 er]) ∧ LNo ls v' er w' ∧ Below w.heap.size w w' := by
  have HSO : Hid SortC := HS
  obtain ⟨ad, cap, rfl, hc, hx⟩ := hv
  have HXX : Hid (ls = [] ∧ (ad = none → cap = 0) ∨ ∃ b o, ad = some ⟨b, o, none⟩ ∧ b < w.heap.size ∧ ∀ (i : Nat) (x : Lf), ls[i]? = some x → w.rangeAt b (o + i * 64) (lfc x)) := hx
  have HK : Hid (∀ x ∈ ls, x.Ok) := hk
  have HT : Hid (Tb w) := hT
  obtain ⟨len, hln⟩ : ∃ len, ls.length = len := ⟨_, rfl⟩
  have HLN : Hid (ls.length = len) := hln
  have HLE : Hid (len ≤ 2500000000000) := by rw [← hln]; exact hlen
  rw [hln]
  have hz := zero_lf
  obtain ⟨Z, hZ⟩ : ∃ Z, (lfc lfz).toArray = Z := ⟨_, rfl⟩
  have HZS : Hid (Z.size = 64) := by show Z.size = 64; rw [← hZ, List.size_toArray]; exact lfc_length lfz_ok
  rw [hZ] at hz
  obtain ⟨w0, hmk, mk1, mk2⟩ := make_own w len (by have := HLE.out; omega)
  have MK1 : Hid (NO w.heap.size w0 (.slice (some ⟨w.heap.size, 0, none⟩) 0 len) []) := mk1
  have MK2 : Hid (Below w.heap.size w w0) := mk2
  have HMN : Hid (∀ (s : List Nd) (W : World) (v : Value), (∀ x ∈ s, x.Ok) → s.length ≤ 140737488355328 → NS W v s → Calls Tryd.prog 19 #[v] W fun e w' => e = .returned (.bool (apt s)) ∧ Below W.heap.size W w') := fun s W v h1 h2 h3 => Apart_any s h1 v W h3 h2
  clear hx hk hT hc hln hlen mk1 mk2 hZ
  go_enter Tryd.func44, Tryd.ntmps44
  go_wp2_with fail
  go_loopw [4, 12] (fun nv i wr => ∃ k : Nat, k ≤ len ∧ i = .int .i64 (k : Int) ∧ NO w.heap.size wr nv ((ls.take k).map ln) ∧ Below w.heap.size w wr) (fun _ i _ => len - (intOf i).toNat)
  case atStart => exact ⟨0, Nat.zero_le _, rfl, MK1.out, MK2.out⟩
  case round =>
    obtain ⟨k, hkl, rfl, hno, h4⟩ := hrel
    have H4 : Hid (Below w.heap.size w wr) := h4
    have HNO : Hid (NO w.heap.size wr u4 ((ls.take k).map ln)) := hno
    clear h4 hno hmk
    by_cases hlt : k < len
    · rcases HXX.out with ⟨h0, _⟩ | ⟨b, o, rfl, hlb, hm⟩
      · have := HLN.out; rw [h0] at this; simp at this; omega
      · obtain ⟨x, hx⟩ : ∃ x, ls[k]? = some x := ⟨ls[k]'(by have := HLN.out; omega), List.getElem?_eq_getElem _⟩
        have HX : Hid x.Ok := HK.out x (List.mem_of_getElem? hx)
        obtain ⟨y, hy⟩ : ∃ y, ln x = y := ⟨_, rfl⟩
        have HTK : Hid ((ls.take (k + 1)).map ln = (ls.take k).map ln ++ [y]) := by rw [← hy]; exact take_ln hx
        have HYO : Hid y.Ok := by rw [← hy]; exact ln_ok HX.out
        have HRX : Hid (wr.rangeAt b (o + k * 64) (lfc x)) := range_below (hm k x hx) H4.out hlb
        have HLF : Hid (∀ W : World, Tb W → Calls Tryd.prog 24 #[.agg (lfc x).toArray] W fun e w' => e = .returned (.agg (nc y).toArray) ∧ Below W.heap.size W w') := fun W q => by rw [← hy]; exact leafNode_any x.p x.q HX.out.p HX.out.q W q
        have HTL : Hid (((ls.take k).map ln).length = k) := by show _ = _; rw [List.length_map, List.length_take]; have := HLN.out; omega
        obtain ⟨X, hX⟩ : ∃ X, (lfc x).toArray = X := ⟨_, rfl⟩
        have HXA : Hid ((lfc x).toArray = X) := hX
        obtain ⟨L, hL⟩ : ∃ L, (ls.take k).map ln = L := ⟨_, rfl⟩
        rw [hL] at HTK HNO HTL
        have hl2 := HLE.out
        clear hm hlb hx hy hL
        go_upto_region 5 with (first
          | (refine load_g rfl 41 (.tmp 14) rfl b (o + k * 64) rfl (lfc x) _ HRX.out Tryd.underlying41 rfl (size_lfc HX.out) ?_; rw [hX])
          | (refine wpList_store_mid rfl 41 (.tmp 6) (.tmp 15) rfl wr.heap.size 0 (lfc x).toArray rfl (by rw [HXA.out]; rfl) (there_new wr (by rw [List.size_toArray, lfc_length HX.out, HZS.out])) (by rw [List.size_toArray]; exact size_lfc HX.out) (lfc_one x) ?_; simp only [List.toList_toArray]))
        obtain ⟨U, hU⟩ : ∃ U, (wr.alloc (.cells Z 41)).setCells wr.heap.size 0 (lfc x) = U := ⟨_, rfl⟩
        rw [hU]
        obtain ⟨r1, r2, r3⟩ := laid_row (by rw [lfc_length HX.out, HZS.out]) (by rw [lfc_length HX.out]; omega) hU
        have RU' : Hid (U.rangeAt wr.heap.size 0 (lfc x)) := r1
        have CU : Hid (Below w.heap.size w U) := H4.out.trans (r2.mono H4.out.size)
        have NU : Hid (NO w.heap.size U u4 L) := HNO.out.below r2
        have TU : Hid (Tb U) := HT.out.below CU.out
        clear r1 r2 r3 hU hX
        go_wp2_with (first
          | (refine ld 41 (.tmp 6) rfl rfl wr.heap.size 0 rfl (lfc x) _ RU'.out Tryd.underlying41 rfl (size_lfc HX.out) ?_)
          | (go_at_call 24; refine (HLF.out U TU.out).mono ?_; rintro e w1 ⟨rfl, g1⟩; have C1 : Hid (Below w.heap.size w w1) := CU.out.trans (g1.mono CU.out.size); have N1 : Hid (NO w.heap.size w1 u4 L) := NU.out.below g1; clear g1)
          | (refine wpList_onen rfl (.tmp 18) rfl y HYO.out rfl ?_)
          | (at_builtin; refine wp_appn rfl (.tmp 16) (.tmp 19) rfl rfl w.heap.size u4 (.slice (some ⟨w1.heap.size, 0, none⟩) 1 1) L [y] rfl rfl (N1.out.alloc _) (fun z hz => by simp at hz; subst hz; exact HYO.out) (ns_one w1 y _) (by have h1 := HTL.out; have h2 := HLE.out; simp only [List.length_cons, List.length_nil]; omega) ?_; intro v2 w2 g1 g2; have N2 : Hid (NO w.heap.size w2 v2 ((ls.take (k + 1)).map ln)) := by rw [HTK.out]; exact g1
             have C2 : Hid (Below w.heap.size w w2) := (C1.out.alloc C1.out.size _).trans g2
             clear g1 g2))
        exact ⟨⟨k + 1, by omega, by go_num, N2.out, C2.out⟩, by simp [intOf]; omega⟩
    · obtain rfl : k = len := by omega
      have HTA : Hid ((ls.take k).map ln = ls.map ln) := by show _ = _; rw [← HLN.out, List.take_length]
      have HSC : Hid (Calls Tryd.prog 63 #[u4, .func (.func 62) #[] #[]] wr fun e w' => e = .returned (.tuple #[]) ∧ ∃ s, s.Perm (ls.map ln) ∧ s.Pairwise (fun a b => pf a.p 256 ≤ pf b.p 256) ∧ NS w' u4 s ∧ Below w.heap.size wr w') := by
        have := HNO.out; rw [HTA.out] at this
        exact HSO.out w.heap.size wr u4 (ls.map ln) this (by rw [List.length_map]; have h1 := HLN.out; have h2 := HLE.out; omega)
      go_upto_region 8 with (go_at_call 63; refine HSC.out.mono ?_; rintro e w1 ⟨rfl, s, g1, g2, g3, g4⟩; have P1 : Hid (s.Perm (ls.map ln)) := g1; have P2 : Hid (s.Pairwise (fun a b => pf a.p 256 ≤ pf b.p 256)) := g2; have N1 : Hid (NS w1 u4 s) := g3; have C1 : Hid (Below w.heap.size w w1) := H4.out.trans g4; clear g1 g2 g3 g4)
      have hsl : s.length ≤ 140737488355328 := by have := P1.out.length_eq; rw [List.length_map] at this; have h1 := HLN.out; have h2 := HLE.out; omega
      have HAC := HMN.out s w1 u4 (fun x hx => (map_ok HK.out P1.out x hx).1) hsl N1.out
      cases ha : apt s with
      | true =>
        rw [ha] at HAC
        have HAP : Hid (Calls Tryd.prog 19 #[u4] w1 fun e w' => e = .returned (.bool true) ∧ Below w1.heap.size w1 w') := HAC
        obtain ⟨o1, o2⟩ := so_uniq HK.out P1.out ha
        have HO1 : Hid (okl ls) := o1
        have HO2 : Hid (so ls = s) := o2
        clear HAC ha hsl o1 o2
        go_wp2_with (go_at_call 19; refine HAP.out.mono ?_; rintro e w2 ⟨rfl, g1⟩; have B2 : Hid (Below w1.heap.size w1 w2) := g1; clear g1)
        go_ret2
        exact ⟨_, _, rfl, .inl ⟨HO1.out, rfl, by rw [HO2.out]; exact N1.out.below B2.out⟩, C1.out.trans (B2.out.mono C1.out.size)⟩
      | false =>
        rw [ha] at HAC
        have HAP : Hid (Calls Tryd.prog 19 #[u4] w1 fun e w' => e = .returned (.bool false) ∧ Below w1.heap.size w1 w') := HAC
        have HO1 : Hid (¬ okl ls) := fun q => by have := (sorted_apt HK.out P1.out P2.out q).1; rw [ha] at this; cases this
        clear HAC ha hsl
        go_wp2_with (go_at_call 19; refine HAP.out.mono ?_; rintro e w2 ⟨rfl, g1⟩; have B2 : Hid (Below w1.heap.size w1 w2) := g1; clear g1)
        go_ret2
        exact ⟨_, _, rfl, .inr ⟨HO1.out, rfl, rfl⟩, C1.out.trans (B2.out.mono C1.out.size)⟩
end Go.Proofs.YtkeobajlikhghaaDoor
/- Package tree: nodes sorted by slices.SortFunc. -/
namespace Go.Proofs.YtkeobajlikhghaaDoor
open Go Go.RowKit Go.Shelf
set_option linter.unusedSimpArgs false
set_option linter.unusedVariables false
set_option maxRecDepth 100000

/-- A node whose rows are 32 bytes each. -/
abbrev NdK := {x : Nd // x.Ok}
instance : Inhabited NdK := ⟨⟨ndz, ndz_ok⟩⟩
def encN (x : NdK) : List Value := nc x.1
def cfN (x y : NdK) : Int := cmpI x.1.p y.1.p
theorem lt_cfN (x y : NdK) : ltOf cfN x y = decide (pf x.1.p 256 < pf y.1.p 256) := by
  unfold ltOf cfN
  exact decide_eq_decide.2 (cmp_swo x.2.p y.2.p)
theorem swoN : Go.Sort.SWO (ltOf cfN) where
  irrefl x := by rw [lt_cfN]; simp
  trans x y z h1 h2 := by rw [lt_cfN] at *; simp at *; omega
  ntrans x y z h1 h2 := by rw [lt_cfN] at *; simp at *; omega
/-- Nodes as an array. -/
def arrN (l : List Nd) (hk : ∀ x ∈ l, x.Ok) : Array NdK := (l.attachWith _ hk).toArray
theorem arrN_size (l : List Nd) (hk : ∀ x ∈ l, x.Ok) : (arrN l hk).size = l.length := by simp [arrN]
theorem arrN_get (l : List Nd) (hk : ∀ x ∈ l, x.Ok) {i : Nat} (hi : i < l.length) : ((arrN l hk)[i]!).1 = l[i] := by
  rw [getElem!_pos _ i (by rw [arrN_size]; exact hi)]
  simp [arrN]
theorem arrN_list (l : List Nd) (hk : ∀ x ∈ l, x.Ok) : (arrN l hk).toList.map (·.1) = l := by
  simp [arrN, List.attachWith_map_val]
theorem below_sort (w : World) (g off n : Nat) (d : Array NdK) (os : Array Obj) {B : Nat} (hB : B ≤ w.heap.size) (hg : B ≤ g) : Below B w (sortWorldK encN 65 w g off n d os) := by
  refine ⟨rfl, rfl, rfl, ?_, fun k hk => ?_⟩
  · show w.heap.size ≤ (_ ++ os).size
    rw [Array.size_append]
    have : (Go.Sort.putRowK encN 65 (Go.Sort.ahead w n) g off d).heap.size = w.heap.size := Go.Sort.size_putRow _ _ _ _ _
    omega
  · show (_ ++ os)[k]? = _
    have hs : (Go.Sort.putRowK encN 65 (Go.Sort.ahead w n) g off d).heap.size = w.heap.size := Go.Sort.size_putRow _ _ _ _ _
    rw [Array.getElem?_append_left (by omega)]
    show (w.heap.modify g _)[k]? = _
    rw [Array.getElem?_modify, if_neg (by omega)]
set_option maxHeartbeats 2000000 in
theorem sort_nodes : SortC := by
  intro B w v l h hlen
  obtain ⟨ho, hk, hB⟩ := h
  have ho' := ho
  obtain ⟨h1, ⟨rfl, h2⟩ | ⟨g, cap, cur, rfl, hBg, hg, hnc, -, hcs, -⟩⟩ := ho
  · have e : l = [] := List.length_eq_zero_iff.1 h2
    subst e
    refine (sort_none none 0 _ w).mono ?_
    rintro e w' ⟨rfl, rfl⟩
    exact ⟨rfl, [], List.Perm.refl _, List.Pairwise.nil, ⟨none, 0, rfl, Nat.le_refl _, .inl ⟨rfl, fun _ => rfl⟩⟩, Below.refl _ _⟩
  · have hgl : g < w.heap.size := (Array.getElem?_eq_some_iff.1 hg).1
    have hsz := arrN_size l hk
    have hlk : ∀ x : NdK, (encN x).length = 65 := fun x => nc_length x.2
    have hone : ∀ x : NdK, ∀ v ∈ encN x, v.oneCell' = true := fun x v hv => ncs_one [x.1] v (by have hv : v ∈ nc x.1 := hv; simpa [ncs] using hv)
    have hH : Go.Sort.HoldsK encN 65 w g 0 (arrN l hk) := by
      intro j hj
      rw [Go.Sort.size_flatK, hsz] at hj
      have hi : j / 65 < l.length := by omega
      refine ⟨?_, ?_⟩
      · rw [Go.Sort.get_flatK _ _ _ j (by rw [hsz]; exact hj)]
        have hm : j % 65 < (encN (arrN l hk)[j / 65]!).length := by rw [hlk]; omega
        have e := ncs_get hk (j / 65) (j % 65) l[j / 65] (List.getElem?_eq_getElem hi) (by omega)
        rw [show j / 65 * 65 + j % 65 = j by omega] at e
        have e2 : (nc l[j / 65])[j % 65]? = some (encN (arrN l hk)[j / 65]!)[j % 65]! := by
          rw [getElem!_pos (encN (arrN l hk)[j / 65]!) (j % 65) hm, ← List.getElem?_eq_getElem hm]
          unfold encN; rw [arrN_get l hk hi]
        have := ho'.cells (g := g) rfl j _ (by rw [e]; exact e2)
        rw [addr_add0] at this
        exact this
      · show w.frozen? _ = false
        unfold World.frozen?
        show (match w.heap[g]? with | some (.cells _ _ (lo, hi)) => _ | _ => _) = false
        rw [hg]
        simp
    have eg : ∀ args w, (callFunc 62 args).run Tryd.prog w = .ok (.enter 62 args) w := enters_of Tryd.func62 (by kernel_rfl) rfl
    have hcon := AnyQ.slices_SortFunc sortNd 65 (fun w => by first | exact Tryd.isAgg27 w | kernel_rfl) (fun w => by first | exact Tryd.sizeOf27 w | kernel_rfl) encN hlk hone cfN swoN 62 #[] g 0 cap (arrN l hk) w eg (fun _ _ _ _ x y => byPrefix_lays x.1 y.1 x.2 y.2 _) hH hgl (by rw [hsz]; omega)
    rw [hsz] at hcon
    change Calls Tryd.prog 63 _ _ _ at hcon
    refine hcon.mono ?_
    rintro e w' ⟨rfl, d', n, os, hp, hs, rfl⟩
    obtain ⟨p1, p2, p3⟩ := hp
    have hd : d'.size = l.length := by rw [p1, hsz]
    have hperm : d'.toList.Perm (arrN l hk).toList := by
      rw [← hsz] at p3
      rw [Array.extract_size] at p3
      rw [show (arrN l hk).size = d'.size from p1.symm, Array.extract_size] at p3
      exact p3
    have hH' := holdsK_sortWorldK encN 65 w g 0 n (arrN l hk) d' os hgl hH p1
    refine ⟨rfl, d'.toList.map (·.1), ?_, ?_, ?_, below_sort w g 0 n d' os hB hBg⟩
    · have := hperm.map (·.1); rwa [arrN_list] at this
    · rw [List.pairwise_map, List.pairwise_iff_getElem]
      intro i j hi hj hij
      rw [Array.length_toList] at hi hj
      have := hs i j (Nat.zero_le _) hij (by omega)
      rw [lt_cfN] at this
      rw [getElem!_pos d' i hi, getElem!_pos d' j hj] at this
      simp only [Array.getElem_toList]
      simpa using this
    · have hll : (d'.toList.map (·.1)).length = l.length := by rw [List.length_map, Array.length_toList]; exact hd
      refine ⟨_, cap, by rw [hll], by rw [hll]; exact hnc, .inr ⟨g, 0, rfl, ?_, ?_⟩⟩
      · exact Nat.lt_of_lt_of_le hgl (below_sort w g 0 n d' os (B := 0) (Nat.zero_le _) (Nat.zero_le _)).size
      · intro i x hi j u hu
        rw [List.getElem?_map] at hi
        obtain ⟨y, hy, rfl⟩ := Option.map_eq_some_iff.1 hi
        obtain ⟨hil, rfl⟩ := List.getElem?_eq_some_iff.1 hy
        rw [Array.length_toList] at hil
        have hj : j < 65 := by have := (List.getElem?_eq_some_iff.1 hu).1; rw [nc_length (d'.toList[i]).2] at this; exact this
        have hc := (hH' (i * 65 + j) (by rw [Go.Sort.size_flatK]; have : (i + 1) * 65 ≤ d'.size * 65 := Nat.mul_le_mul_right 65 hil; omega)).1
        rw [Go.Sort.get_flatK _ _ _ _ (by have : (i + 1) * 65 ≤ d'.size * 65 := Nat.mul_le_mul_right 65 hil; omega), show (i * 65 + j) / 65 = i by omega, show (i * 65 + j) % 65 = j by omega] at hc
        rw [show 0 + i * 65 + j = 0 + (i * 65 + j) by omega, hc]
        rw [getElem!_pos d' i hil]
        have hm : j < (encN d'[i]).length := by rw [hlk]; exact hj
        rw [getElem!_pos (encN d'[i]) j hm]
        rw [Array.getElem_toList] at hu
        rw [show id (encN d'[i])[j] = (encN d'[i])[j] from rfl, ← List.getElem?_eq_getElem hm]
        exact hu
theorem leafNodes_any (ls : List Lf) (hk : ∀ x ∈ ls, x.Ok) (hlen : ls.length ≤ 2500000000000) (v : Value) (w : World) (hv : LS w v ls) (hT : Tb w) :
    Calls Tryd.prog 44 #[v] w fun e w' => ∃ v' er, e = .returned (.tuple #[v', .int .i64 er]) ∧ LNo ls v' er w' ∧ Below w.heap.size w w' := leafNodes_core sort_nodes ls hk hlen v w hv hT
end Go.Proofs.YtkeobajlikhghaaDoor
/- Nodes of a call's own, written over; a leaf put among others. -/
namespace Go.Proofs.YtkeobajlikhghaaDoor
open Go Go.RowKit
set_option linter.unusedSimpArgs false
set_option linter.unusedVariables false
set_option maxRecDepth 100000

/-- An array with a row of cells written over. -/
def setL (cur : Array Value) : Nat → List Value → Array Value
  | _, [] => cur
  | o, v :: r => setL (cur.setIfInBounds o v) (o + 1) r
theorem setL_size : ∀ (vs : List Value) (o : Nat) (cur : Array Value), (setL cur o vs).size = cur.size
  | [], _, _ => rfl
  | v :: r, o, cur => by rw [setL, setL_size r]; simp
theorem setL_list : ∀ (vs : List Value) (o : Nat) (cur : Array Value), o + vs.length ≤ cur.size → (setL cur o vs).toList = cur.toList.take o ++ vs ++ cur.toList.drop (o + vs.length)
  | [], o, cur, _ => by simp [setL]
  | v :: r, o, cur, h => by
    simp only [List.length_cons] at h
    rw [setL, setL_list r (o + 1) _ (by simp; omega), Array.toList_setIfInBounds]
    have ho : o < cur.toList.length := by rw [Array.length_toList]; omega
    rw [List.drop_set_of_lt (by omega)]
    have e : (cur.toList.set o v).take (o + 1) = cur.toList.take o ++ [v] := by
      rw [List.take_succ_eq_append_getElem (by rw [List.length_set]; exact ho), List.getElem_set_self, List.take_set_of_le (Nat.le_refl _)]
    rw [e, List.length_cons, show o + 1 + r.length = o + (r.length + 1) by omega]
    simp
theorem heap_setC (g : Nat) : ∀ (vs : List Value) (o : Nat) (w : World) (cur : Array Value) (t : TypeId) (fr : Nat × Nat), w.heap[g]? = some (.cells cur t fr) → (w.setCells g o vs).heap[g]? = some (.cells (setL cur o vs) t fr)
  | [], _, _, _, _, _, h => h
  | v :: r, o, w, cur, t, fr, h => by
    rw [World.setCells, setL]
    refine heap_setC g r (o + 1) _ _ t fr ?_
    show (w.heap.modify g _)[g]? = _
    rw [Array.getElem?_modify, if_pos rfl, h]
    simp
theorem ncs_take {l : List Nd} (hk : ∀ x ∈ l, x.Ok) (i : Nat) (hi : i ≤ l.length) : (ncs l).take (i * 65) = ncs (l.take i) := by
  have e : ncs l = ncs (l.take i) ++ ncs (l.drop i) := by rw [← ncs_app, List.take_append_drop]
  have hl : (ncs (l.take i)).length = i * 65 := by rw [ncs_length (fun x hx => hk x (List.mem_of_mem_take hx)), List.length_take]; congr 1; omega
  rw [e, ← hl, List.take_left]
theorem ncs_drop {l : List Nd} (hk : ∀ x ∈ l, x.Ok) (i : Nat) (hi : i ≤ l.length) : (ncs l).drop (i * 65) = ncs (l.drop i) := by
  have e : ncs l = ncs (l.take i) ++ ncs (l.drop i) := by rw [← ncs_app, List.take_append_drop]
  have hl : (ncs (l.take i)).length = i * 65 := by rw [ncs_length (fun x hx => hk x (List.mem_of_mem_take hx)), List.length_take]; congr 1; omega
  rw [e, ← hl, List.drop_left]
/-- Nodes of the call's own, some written over. -/
theorem NO.set {B : Nat} {w : World} {g n cap : Nat} {l : List Nd} (h : NO B w (.slice (some ⟨g, 0, none⟩) n cap) l) {m : List Nd} (hm : ∀ x ∈ m, x.Ok) {i : Nat} (hi : i + m.length ≤ l.length) :
    NO B (w.setCells g (i * 65) (ncs m)) (.slice (some ⟨g, 0, none⟩) n cap) (l.take i ++ m ++ l.drop (i + m.length)) := by
  obtain ⟨ho, hk, hB⟩ := h
  have hk' : ∀ x ∈ l.take i ++ m ++ l.drop (i + m.length), x.Ok := fun x hx => by
    simp only [List.mem_append] at hx
    rcases hx with (hx | hx) | hx
    · exact hk x (List.mem_of_mem_take hx)
    · exact hm x hx
    · exact hk x (List.mem_of_mem_drop hx)
  have hlen : (l.take i ++ m ++ l.drop (i + m.length)).length = l.length := by simp only [List.length_append, List.length_take, List.length_drop]; omega
  have hml := ncs_length hm
  refine ⟨?_, hk', by rw [size_setC]; exact hB⟩
  obtain ⟨h1, ⟨he, _⟩ | ⟨g', cap', cur, he, hBg, hg, hnc, hcm, hcs, htk⟩⟩ := ho
  · cases he
  · simp only [Value.slice.injEq, Option.some.injEq, Addr.mk.injEq, and_true] at he
    obtain ⟨rfl, rfl, rfl⟩ := he
    have hsz : l.length * 65 ≤ cur.size := by rw [hcs]; exact Nat.mul_le_mul_right 65 hnc
    have hfit : i * 65 + (ncs m).length ≤ l.length * 65 := by rw [hml, ← Nat.add_mul]; exact Nat.mul_le_mul_right 65 hi
    rw [hlen]
    refine ⟨by rw [ncs_length hk', hlen], .inr ⟨g, cap, _, rfl, hBg, heap_setC g _ _ w cur _ _ hg, hnc, hcm, by rw [setL_size]; exact hcs, ?_⟩⟩
    rw [setL_list _ _ _ (by omega)]
    have hct : cur.toList.take (i * 65) = ncs (l.take i) := by
      rw [← ncs_take hk i (by omega), ← htk, List.take_take, Nat.min_eq_left (Nat.mul_le_mul_right 65 (by omega))]
    have hcl : cur.toList.length = cur.size := Array.length_toList
    rw [hct, ncs_app, ncs_app, hml, ← Nat.add_mul]
    have hp : (ncs (l.take i) ++ ncs m).length = (i + m.length) * 65 := by
      rw [List.length_append, hml, ncs_length (fun x hx => hk x (List.mem_of_mem_take hx)), List.length_take, Nat.add_mul]; congr 2; omega
    rw [List.take_append, hp, List.take_of_length_le (by rw [hp]; exact Nat.mul_le_mul_right 65 hi)]
    congr 1
    rw [← ncs_drop hk (i + m.length) hi, ← htk, List.drop_take]
/-- copy of nodes. -/
theorem run_copy_nd (w : World) (ty : TypeId) (b o dLen dCap : Nat) (a : Addr) (sLen sCap : Nat) (cs : List Value) (hn : cs.length = Nat.min sLen dLen * 65)
    (hsrc : ∀ j v, cs[j]? = some v → w.cell? (a.add j) = some v) (hc : ∀ j, j < cs.length → (w.cell? ⟨b, o + j, none⟩).isSome = true) (hf : ∀ j, j < cs.length → w.frozen? ⟨b, o + j, none⟩ = false) (h1 : ∀ v ∈ cs, v.oneCell' = true) :
    (Builtin.copy_ #[22, 22] ty #[.slice (some ⟨b, o, none⟩) dLen dCap, .slice (some a) sLen sCap]).run Tryd.prog w = .ok (goInt (Nat.min sLen dLen)) (w.setCells b o cs) := by
  have hl := run_loadCells_list (P := Tryd.prog) w a cs hsrc
  have hst := run_storeCells_cells (P := Tryd.prog) b o cs 0 w (by simpa using hc) (by simpa using hf) h1
  obtain ⟨i, z, hi, hz, hs, -, -⟩ := info_nd
  rw [hn] at hl
  simp [Builtin.copy_, run_underlying Tryd.underlying22, Builtin.lenOf, Builtin.firstCells, sizeOf, typeInfo, hi, hs, hl, hst]
theorem run_copy_no (w : World) (ty : TypeId) (d a : Option Addr) (dCap sLen sCap : Nat) :
    (Builtin.copy_ #[22, 22] ty #[.slice d 0 dCap, .slice a sLen sCap]).run Tryd.prog w = .ok (goInt 0) w := by
  obtain ⟨i, z, hi, hz, hs, -, -⟩ := info_nd
  have hl : ∀ (x : Addr), (loadCells x 0).run Tryd.prog w = .ok #[] w := fun x => by simpa using run_loadCells_list (P := Tryd.prog) w x [] (by simp)
  cases d <;> cases a <;> simp [Builtin.copy_, run_underlying Tryd.underlying22, Builtin.lenOf, Builtin.firstCells, sizeOf, typeInfo, hi, hs, storeCells, hl]
/-- A node put among nodes that rise. -/
theorem put_perm {s t : List Nd} (h : s.Perm t) (y : Nd) (a : Nat) : (s.take a ++ [y] ++ s.drop a).Perm (t ++ [y]) := by
  have h1 : (s.take a ++ [y] ++ s.drop a).Perm (y :: (s.take a ++ s.drop a)) := by
    rw [List.append_assoc]; exact List.perm_middle
  rw [List.take_append_drop] at h1
  exact h1.trans ((List.Perm.cons y h).trans (List.perm_append_singleton y t).symm)
theorem put_rise {s : List Nd} (hs : s.Pairwise (fun a b => pf a.p 256 < pf b.p 256)) {y : Nd} {a : Nat} (hlo : ∀ (j : Nat) (x : Nd), j < a → s[j]? = some x → pf x.p 256 < pf y.p 256) (hhi : ∀ (j : Nat) (x : Nd), a ≤ j → s[j]? = some x → pf y.p 256 < pf x.p 256) :
    (s.take a ++ [y] ++ s.drop a).Pairwise (fun a b => pf a.p 256 < pf b.p 256) := by
  have lo : ∀ x ∈ s.take a, pf x.p 256 < pf y.p 256 := fun x hx => by
    obtain ⟨i, hi, rfl⟩ := List.getElem_of_mem hx
    have hi' := hi; rw [List.length_take] at hi'
    rw [List.getElem_take]
    exact hlo i _ (by omega) (List.getElem?_eq_getElem (by omega))
  have hi : ∀ x ∈ s.drop a, pf y.p 256 < pf x.p 256 := fun x hx => by
    obtain ⟨i, hi, rfl⟩ := List.getElem_of_mem hx
    have hi' := hi; rw [List.length_drop] at hi'
    rw [List.getElem_drop]
    exact hhi (a + i) _ (by omega) (List.getElem?_eq_getElem (by omega))
  rw [List.append_assoc]
  refine List.pairwise_append.2 ⟨hs.sublist (List.take_sublist _ _), List.pairwise_append.2 ⟨List.pairwise_singleton _ _, hs.sublist (List.drop_sublist _ _), fun x hx z hz => ?_⟩, fun x hx z hz => ?_⟩
  · simp at hx; subst hx; exact hi z hz
  · rcases List.mem_append.1 hz with q | q
    · simp at q; subst q; exact lo x hx
    · exact Nat.lt_trans (lo x hx) (hi z q)
/-- One below the rest is below a place: all ahead of it are. -/
theorem rise_lo {s : List Nd} (hs : s.Pairwise (fun a b => pf a.p 256 < pf b.p 256)) {y : Nd} {a : Nat} {z : Nd} (hz : s[a - 1]? = some z) (ha : 0 < a) (h : pf z.p 256 < pf y.p 256) (j : Nat) (x : Nd) (hj : j < a) (hx : s[j]? = some x) : pf x.p 256 < pf y.p 256 := by
  obtain ⟨h1, rfl⟩ := List.getElem?_eq_some_iff.1 hz
  obtain ⟨h2, rfl⟩ := List.getElem?_eq_some_iff.1 hx
  rcases Nat.lt_or_ge j (a - 1) with q | q
  · exact Nat.lt_trans (List.pairwise_iff_getElem.1 hs j (a - 1) h2 h1 q) h
  · obtain rfl : j = a - 1 := by omega
    exact h
/-- Two of one label: no list of them rises. -/
theorem dup_not {ls : List Lf} (hk : ∀ x ∈ ls, x.Ok) {k : Nat} {x : Lf} (hx : ls[k]? = some x) {s : List Nd} (hs : s.Perm ((ls.take k).map ln)) {z : Nd} (hz : z ∈ s) (e : z.p = x.p) : ¬ okl ls := by
  intro h
  have hn := okl_ne hk h
  obtain ⟨y, hy, rfl⟩ := List.mem_map.1 (hs.mem_iff.1 hz)
  obtain ⟨i, hi, rfl⟩ := List.getElem_of_mem hy
  have hi' := hi; rw [List.length_take] at hi'
  obtain ⟨hkl, rfl⟩ := List.getElem?_eq_some_iff.1 hx
  rw [List.getElem_take] at e
  have := List.pairwise_iff_getElem.1 hn i k (by omega) hkl (by omega)
  exact this (congrArg (fun q => pf q 256) e)
end Go.Proofs.YtkeobajlikhghaaDoor
