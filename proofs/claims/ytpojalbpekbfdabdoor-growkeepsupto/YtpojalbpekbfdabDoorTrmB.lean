/- Plain mathematics: leaves' nodes in order. -/
import Derived.Test.YtpojalbpekbfdabDoorTraB
import Derived.Lib.AppendZeros
namespace Go.Proofs.YtpojalbpekbfdabDoor
open Go Go.RowKit
set_option linter.unusedSimpArgs false
set_option linter.unusedVariables false
set_option maxRecDepth 100000

/-- Leaves' nodes of which no two have one label, in order. -/
def okl (ls : List Lf) : Prop := ∃ s : List Nd, s.Perm (ls.map ln) ∧ apt s = true
open Classical in
noncomputable def so (ls : List Lf) : List Nd := if h : okl ls then Classical.choose h else []
theorem so_spec {ls : List Lf} (h : okl ls) : (so ls).Perm (ls.map ln) ∧ apt (so ls) = true := by
  unfold so; rw [dif_pos h]; exact Classical.choose_spec h
theorem map_ok {ls : List Lf} (hk : ∀ x ∈ ls, x.Ok) {s : List Nd} (h : s.Perm (ls.map ln)) : ∀ x ∈ s, x.Ok ∧ gd x = true ∧ x.n = 256 := fun x hx => by
  obtain ⟨y, hy, rfl⟩ := List.mem_map.1 (h.mem_iff.1 hx)
  exact ⟨ln_ok (hk y hy), ln_gd (hk y hy), rfl⟩
theorem leaf_apt : ∀ (s : List Nd), (∀ x ∈ s, x.Ok ∧ gd x = true ∧ x.n = 256) → s.Pairwise (fun a b => pf a.p 256 < pf b.p 256) → apt s = true
  | [], _, _ => rfl
  | [a], h, _ => (h a (by simp)).2.1
  | a :: b :: r, h, hp => by
    have hab := (List.pairwise_cons.1 hp).1 b (by simp)
    obtain ⟨ka, ga, na⟩ := h a (by simp)
    obtain ⟨kb, gb, nb⟩ := h b (by simp)
    have ih := leaf_apt (b :: r) (fun x hx => h x (List.mem_cons_of_mem _ hx)) (List.pairwise_cons.1 hp).2
    simp only [apt, ap2, Bool.and_eq_true]
    refine ⟨ga, ⟨(ltb_iff ka.p kb.p).2 hab, ?_⟩, ih⟩
    unfold hl
    rw [ga, Bool.true_and, na]
    have : ¬ (256 : Int).toNat ≤ cm a.p b.p 256 := fun q => by
      have := ((cm_ge (a := a.p) (b := b.p) (m := 256) (r := 256) (Nat.le_refl _)).1 q).pf
      omega
    rw [decide_eq_false this]; rfl
theorem rise_uniq {s t : List Nd} (h : s.Perm t) (hs : s.Pairwise (fun a b => pf a.p 256 < pf b.p 256)) (ht : t.Pairwise (fun a b => pf a.p 256 < pf b.p 256)) : s = t := by
  induction s generalizing t with
  | nil => exact (List.nil_perm.1 h).symm
  | cons a s ih =>
    cases t with
    | nil => exact absurd h.length_eq (by simp)
    | cons b t =>
      have h1 := (List.pairwise_cons.1 hs)
      have h2 := (List.pairwise_cons.1 ht)
      have e : a = b := by
        rcases List.mem_cons.1 (h.mem_iff.1 (List.mem_cons_self (a := a) (l := s))) with q | q
        · exact q
        · rcases List.mem_cons.1 (h.mem_iff.2 (List.mem_cons_self (a := b) (l := t))) with r | r
          · exact r.symm
          · have := h2.1 a q; have := h1.1 b r; omega
      subst e
      rw [ih ((List.perm_cons a).1 h) h1.2 h2.2]
theorem so_uniq {ls : List Lf} (hk : ∀ x ∈ ls, x.Ok) {s : List Nd} (h : s.Perm (ls.map ln)) (ha : apt s = true) : okl ls ∧ so ls = s := by
  have ho : okl ls := ⟨s, h, ha⟩
  obtain ⟨h1, h2⟩ := so_spec ho
  exact ⟨ho, rise_uniq (h1.trans h.symm) (apt_ris (fun x hx => (map_ok hk h1 x hx).1) h2).up (apt_ris (fun x hx => (map_ok hk h x hx).1) ha).up⟩
theorem so_rise {ls : List Lf} (hk : ∀ x ∈ ls, x.Ok) {s : List Nd} (h : s.Perm (ls.map ln)) (hs : s.Pairwise (fun a b => pf a.p 256 < pf b.p 256)) : okl ls ∧ so ls = s :=
  so_uniq hk h (leaf_apt s (map_ok hk h) hs)
theorem okl_ne {ls : List Lf} (hk : ∀ x ∈ ls, x.Ok) (h : okl ls) : ls.Pairwise (fun a b => pf a.p 256 ≠ pf b.p 256) := by
  obtain ⟨s, h1, h2⟩ := h
  have hr := (apt_ris (fun x hx => (map_ok hk h1 x hx).1) h2).up
  have hn : (s.map fun x => pf x.p 256).Nodup := List.pairwise_map.2 (hr.imp (fun q => by omega))
  have hn2 : ((ls.map ln).map fun x => pf x.p 256).Nodup := (h1.map _).nodup_iff.1 hn
  rw [List.map_map] at hn2
  exact List.pairwise_map.1 hn2
/-- Sorted, and apart just if no two have one label. -/
theorem sorted_apt {ls : List Lf} (hk : ∀ x ∈ ls, x.Ok) {s : List Nd} (h : s.Perm (ls.map ln)) (hs : s.Pairwise (fun a b => pf a.p 256 ≤ pf b.p 256)) (ho : okl ls) : apt s = true ∧ so ls = s := by
  have hn := okl_ne hk ho
  have hn2 : ((ls.map ln).map fun x => pf x.p 256).Nodup := by rw [List.map_map]; exact List.pairwise_map.2 hn
  have hn3 : (s.map fun x => pf x.p 256).Nodup := (h.map _).nodup_iff.2 hn2
  have hp := hs.and (List.pairwise_map.1 hn3)
  have hlt : s.Pairwise (fun a b => pf a.p 256 < pf b.p 256) := hp.imp (fun q => by have h1 := q.1; have h2 := q.2; omega)
  have ha := leaf_apt s (map_ok hk h) hlt
  exact ⟨ha, (so_uniq hk h ha).2⟩
theorem so_len {ls : List Lf} (h : okl ls) : (so ls).length = ls.length := by rw [(so_spec h).1.length_eq, List.length_map]
theorem so_ok {ls : List Lf} (hk : ∀ x ∈ ls, x.Ok) (h : okl ls) : ∀ x ∈ so ls, x.Ok := fun x hx => (map_ok hk (so_spec h).1 x hx).1
theorem so_rsn {ls : List Lf} (hk : ∀ x ∈ ls, x.Ok) (h : okl ls) : Rsn (so ls) := apt_rsn (so_ok hk h) (so_spec h).2
/-- A nought or more: how one row of bytes stands to another. -/
theorem cmp_swo {a b : List Int} (ha : L32 a) (hb : L32 b) : cmpI a b < 0 ↔ pf a 256 < pf b 256 := by
  rw [← ltb_iff ha hb]
  have := cmp_ltb a b (by rw [ha.len, hb.len]) ha.byt hb.byt
  cases h : ltb a b with
  | false => rw [h] at this; have := this.2 rfl; simp; omega
  | true => rw [h] at this; simp at this ⊢; omega
end Go.Proofs.YtpojalbpekbfdabDoor
/- Package tree: leafNodes, where sorting is as it should be. -/
namespace Go.Proofs.YtpojalbpekbfdabDoor
open Go Go.RowKit
set_option linter.unusedSimpArgs false
set_option linter.unusedVariables false
set_option maxRecDepth 100000

/-- What sorting nodes gives. -/
def SortC : Prop := ∀ (B : Nat) (w : World) (v : Value) (l : List Nd), NO B w v l → l.length ≤ 3000000000000 →
  Calls Tryd.prog 19 #[v, .func (.func 39) #[] #[]] w fun e w' => e = .returned (.tuple #[]) ∧ ∃ s, s.Perm l ∧ s.Pairwise (fun a b => pf a.p 256 ≤ pf b.p 256) ∧ NS w' v s ∧ Below B w w'
theorem take_ln {ls : List Lf} {k : Nat} {x : Lf} (hx : ls[k]? = some x) : (ls.take (k + 1)).map ln = (ls.take k).map ln ++ [ln x] := by
  obtain ⟨h, rfl⟩ := List.getElem?_eq_some_iff.1 hx
  rw [List.take_succ_eq_append_getElem h, List.map_append]; rfl
/-- What leafNodes gives. -/
def LNo (ls : List Lf) (v' : Value) (er : Int) (w' : World) : Prop := (okl ls ∧ er = 0 ∧ NS w' v' (so ls)) ∨ (¬ okl ls ∧ er = 1 ∧ v' = .slice none 0 0)
end Go.Proofs.YtpojalbpekbfdabDoor
/- Package grow: leafNodes. -/
namespace Go.Proofs.YtpojalbpekbfdabDoor
open Go Go.RowKit
set_option linter.unusedSimpArgs false
set_option linter.unusedVariables false
set_option maxRecDepth 100000

set_option maxHeartbeats 4000000 in
theorem leafN_any (ls : List Lf) (hk : ∀ x ∈ ls, x.Ok) (hlen : ls.length ≤ 2500000000000) (v : Value) (w : World) (hv : LS w v ls) (hT : Tb w) :
    Calls Tryd.prog 11 #[v] w fun e w' => ∃ v', e = .returned v' ∧ NO w.heap.size w' v' (ls.map ln) ∧ Below w.heap.size w w' := by
  obtain ⟨ad, cap, rfl, hc, hx⟩ := hv
  have HXX : Hid (ls = [] ∧ (ad = none → cap = 0) ∨ ∃ b o, ad = some ⟨b, o, none⟩ ∧ b < w.heap.size ∧ ∀ (i : Nat) (x : Lf), ls[i]? = some x → w.rangeAt b (o + i * 64) (lfc x)) := hx
  have HK : Hid (∀ x ∈ ls, x.Ok) := hk
  have HT : Hid (Tb w) := hT
  obtain ⟨len, hln⟩ : ∃ len, ls.length = len := ⟨_, rfl⟩
  have HLN : Hid (ls.length = len) := hln
  have HLE : Hid (len ≤ 2500000000000) := by rw [← hln]; exact hlen
  rw [hln]
  have hz := zero_lf
  obtain ⟨Z, hZ⟩ : ∃ Z, (lfc lfz).toArray = Z := ⟨_, rfl⟩
  have HZS : Hid (Z.size = 64) := by show Z.size = 64; rw [← hZ, List.size_toArray]; exact lfc_length lfz_ok
  rw [hZ] at hz
  obtain ⟨w0, hmk, mk1, mk2⟩ := make_own w len (by have := HLE.out; omega)
  have MK1 : Hid (NO w.heap.size w0 (.slice (some ⟨w.heap.size, 0, none⟩) 0 len) []) := mk1
  have MK2 : Hid (Below w.heap.size w w0) := mk2
  clear hx hk hT hc hln hlen mk1 mk2 hZ
  go_enter Tryd.func11, Tryd.ntmps11
  go_wp2_with fail
  go_loopw [3, 11] (fun nv i wr => ∃ k : Nat, k ≤ len ∧ i = .int .i64 (k : Int) ∧ NO w.heap.size wr nv ((ls.take k).map ln) ∧ Below w.heap.size w wr) (fun _ i _ => len - (intOf i).toNat)
  case atStart => exact ⟨0, Nat.zero_le _, rfl, MK1.out, MK2.out⟩
  case round =>
    obtain ⟨k, hkl, rfl, hno, h4⟩ := hrel
    have H4 : Hid (Below w.heap.size w wr) := h4
    have HNO : Hid (NO w.heap.size wr u3 ((ls.take k).map ln)) := hno
    clear h4 hno hmk
    by_cases hlt : k < len
    · rcases HXX.out with ⟨h0, _⟩ | ⟨b, o, rfl, hlb, hm⟩
      · have := HLN.out; rw [h0] at this; simp at this; omega
      · obtain ⟨x, hx⟩ : ∃ x, ls[k]? = some x := ⟨ls[k]'(by have := HLN.out; omega), List.getElem?_eq_getElem _⟩
        have HX : Hid x.Ok := HK.out x (List.mem_of_getElem? hx)
        obtain ⟨y, hy⟩ : ∃ y, ln x = y := ⟨_, rfl⟩
        have HTK : Hid ((ls.take (k + 1)).map ln = (ls.take k).map ln ++ [y]) := by rw [← hy]; exact take_ln hx
        have HYO : Hid y.Ok := by rw [← hy]; exact ln_ok HX.out
        have HRX : Hid (wr.rangeAt b (o + k * 64) (lfc x)) := range_below (hm k x hx) H4.out hlb
        have HLF : Hid (∀ W : World, Tb W → Calls Tryd.prog 22 #[.agg (lfc x).toArray] W fun e w' => e = .returned (.agg (nc y).toArray) ∧ Below W.heap.size W w') := fun W q => by rw [← hy]; exact leafNode_any x.p x.q HX.out.p HX.out.q W q
        have HTL : Hid (((ls.take k).map ln).length = k) := by show _ = _; rw [List.length_map, List.length_take]; have := HLN.out; omega
        obtain ⟨X, hX⟩ : ∃ X, (lfc x).toArray = X := ⟨_, rfl⟩
        have HXA : Hid ((lfc x).toArray = X) := hX
        obtain ⟨L, hL⟩ : ∃ L, (ls.take k).map ln = L := ⟨_, rfl⟩
        rw [hL] at HTK HNO HTL
        have hl2 := HLE.out
        clear hm hlb hx hy hL
        go_upto_region 5 with (first
          | (refine load_g rfl 27 (.tmp 13) rfl b (o + k * 64) rfl (lfc x) _ HRX.out Tryd.underlying27 rfl (size_lfc HX.out) ?_; rw [hX])
          | (refine wpList_store_mid rfl 27 (.tmp 5) (.tmp 14) rfl wr.heap.size 0 (lfc x).toArray rfl (by rw [HXA.out]; rfl) (there_new wr (by rw [List.size_toArray, lfc_length HX.out, HZS.out])) (by rw [List.size_toArray]; exact size_lfc HX.out) (lfc_one x) ?_; simp only [List.toList_toArray]))
        obtain ⟨U, hU⟩ : ∃ U, (wr.alloc (.cells Z 27)).setCells wr.heap.size 0 (lfc x) = U := ⟨_, rfl⟩
        rw [hU]
        obtain ⟨r1, r2, r3⟩ := laid_row (by rw [lfc_length HX.out, HZS.out]) (by rw [lfc_length HX.out]; omega) hU
        have RU' : Hid (U.rangeAt wr.heap.size 0 (lfc x)) := r1
        have CU : Hid (Below w.heap.size w U) := H4.out.trans (r2.mono H4.out.size)
        have NU : Hid (NO w.heap.size U u3 L) := HNO.out.below r2
        have TU : Hid (Tb U) := HT.out.below CU.out
        clear r1 r2 r3 hU hX
        go_wp2_with (first
          | (refine ld 27 (.tmp 5) rfl rfl wr.heap.size 0 rfl (lfc x) _ RU'.out Tryd.underlying27 rfl (size_lfc HX.out) ?_)
          | (go_at_call 22; refine (HLF.out U TU.out).mono ?_; rintro e w1 ⟨rfl, g1⟩; have C1 : Hid (Below w.heap.size w w1) := CU.out.trans (g1.mono CU.out.size); have N1 : Hid (NO w.heap.size w1 u3 L) := NU.out.below g1; clear g1)
          | (refine wpList_onen rfl (.tmp 17) rfl y HYO.out rfl ?_)
          | (at_builtin; refine wp_appn rfl (.tmp 15) (.tmp 18) rfl rfl w.heap.size u3 (.slice (some ⟨w1.heap.size, 0, none⟩) 1 1) L [y] rfl rfl (N1.out.alloc _) (fun z hz => by simp at hz; subst hz; exact HYO.out) (ns_one w1 y _) (by have h1 := HTL.out; have h2 := HLE.out; simp only [List.length_cons, List.length_nil]; omega) ?_; intro v2 w2 g1 g2; have N2 : Hid (NO w.heap.size w2 v2 ((ls.take (k + 1)).map ln)) := by rw [HTK.out]; exact g1
             have C2 : Hid (Below w.heap.size w w2) := (C1.out.alloc C1.out.size _).trans g2
             clear g1 g2))
        exact ⟨⟨k + 1, by omega, by go_num, N2.out, C2.out⟩, by simp [intOf]; omega⟩
    · obtain rfl : k = len := by omega
      have HTA : Hid ((ls.take k).map ln = ls.map ln) := by show _ = _; rw [← HLN.out, List.take_length]
      have N9 : Hid (NO w.heap.size wr u3 (ls.map ln)) := by have := HNO.out; rw [HTA.out] at this; exact this
      go_wp2_with fail
      go_ret
      exact ⟨_, rfl, N9.out, H4.out⟩
end Go.Proofs.YtpojalbpekbfdabDoor
/- slices.Grow of nil and slices.Concat, of nodes. -/
namespace Go.Proofs.YtpojalbpekbfdabDoor
open Go Go.RowKit
set_option linter.unusedSimpArgs false
set_option linter.unusedVariables false
set_option maxRecDepth 100000

/-- Noughts behind nil, and none of them taken. -/
theorem zeros_own (w : World) (n : Nat) (h0 : 0 < n) (hn : n ≤ 3000000000000) :
    ∃ cap w', (Builtin.append_ #[28, 3] 28 #[.slice none 0 0, .int .i64 (n : Int)]).run Tryd.prog w = .ok (.slice (some ⟨w.heap.size, 0, none⟩) n cap) w' ∧ NO w.heap.size w' (.slice (some ⟨w.heap.size, 0, none⟩) 0 cap) [] ∧ Below w.heap.size w w' ∧ n ≤ cap := by
  obtain ⟨i, z, hi, hz, hs, hb, hzs⟩ := info_nd
  have hr := Lib.run_append_nil_zeros (P := Tryd.prog) w 28 3 28 33 i z .i64 .i64 Tryd.underlying28 Tryd.underlying3 hi hz n h0 (by rw [hs]; omega) (by omega) (by rw [hb]; omega)
  have hge : n ≤ grownCap w n 0 33 := grownCap_ge _ _ _ _
  have hcm : grownCap w n 0 33 ≤ maxLen := grownCap_le_maxLen w n 0 _ (by unfold maxLen; omega)
  have hh : (w.drew.alloc (.cells (Builtin.zeroCells z.cells n ++ Builtin.zeroCells z.cells (grownCap w n 0 33 - n)) 33)).heap[w.heap.size]? = some (.cells (Builtin.zeroCells z.cells n ++ Builtin.zeroCells z.cells (grownCap w n 0 33 - n)) 33 (0, 0)) := by
    show (w.heap.push _)[w.heap.size]? = _; simp
  have hbl : Below w.heap.size w (w.drew.alloc (.cells (Builtin.zeroCells z.cells n ++ Builtin.zeroCells z.cells (grownCap w n 0 33 - n)) 33)) := ((Below.refl _ w).drew).alloc (Nat.le_refl _) _
  have hzc : ∀ m, (Builtin.zeroCells z.cells m).size = m * 65 := fun m => by simp [Builtin.zeroCells, hzs]
  refine ⟨_, _, hr, ⟨⟨rfl, .inr ⟨w.heap.size, _, _, rfl, Nat.le_refl _, hh, Nat.zero_le _, hcm, ?_, rfl⟩⟩, (fun x hx => by cases hx), hbl.size⟩, hbl, hge⟩
  rw [Array.size_append, hzc, hzc, ← Nat.add_mul]
  congr 1; omega
set_option maxHeartbeats 2000000 in
theorem Grow_any (n : Nat) (hn : n ≤ 3000000000000) (w : World) :
    Calls Tryd.prog 33 #[.slice none 0 0, .int .i64 (n : Int)] w fun e w' => ∃ v', e = .returned v' ∧ NO w.heap.size w' v' [] ∧ Below w.heap.size w w' := by
  by_cases h0 : n = 0
  · subst h0
    go_enter Tryd.func33, Tryd.ntmps33
    go_wp2_with fail
    go_ret
    exact ⟨_, rfl, NO.nil _, Below.refl _ _⟩
  · obtain ⟨cap, w1, hr, h1, h2, h3⟩ := zeros_own w n (by omega) hn
    have O1 : Hid (NO w.heap.size w1 (.slice (some ⟨w.heap.size, 0, none⟩) 0 cap) []) := h1
    have B1 : Hid (Below w.heap.size w w1) := h2
    have HR : Hid ((Builtin.append_ #[28, 3] 28 #[.slice none 0 0, .int .i64 (n : Int)]).run Tryd.prog w = .ok (.slice (some ⟨w.heap.size, 0, none⟩) n cap) w1) := hr
    have hneg : ¬ ((n : Int) < 0) := by omega
    have hpos : (0 : Int) < (n : Int) := by omega
    clear h1 h2 hr
    go_enter Tryd.func33, Tryd.ntmps33
    go_wp2_with (at_builtin; refine Lib.wpList_append_run _ rfl (.tmp 20) (.tmp 21) 28 3 rfl (.slice none 0 0) (.int .i64 (n : Int)) rfl rfl _ w1 HR.out ?_)
    go_ret
    exact ⟨_, rfl, O1.out, B1.out⟩
/-- Slices of nodes in a row. -/
def LLn (w : World) (v : Value) (us : List Value) (lss : List (List Nd)) : Prop :=
  ∃ b o cap, v = .slice (some ⟨b, o, none⟩) us.length cap ∧ us.length ≤ cap ∧ us.length = lss.length ∧ b < w.heap.size ∧ ∀ (i : Nat) (u : Value) (l : List Nd), us[i]? = some u → lss[i]? = some l → w.cell? ⟨b, o + i, none⟩ = some u ∧ NS w u l
theorem LLn.below {w w' : World} {v : Value} {us : List Value} {lss : List (List Nd)} (h : LLn w v us lss) (hb : Below w.heap.size w w') : LLn w' v us lss := by
  obtain ⟨b, o, cap, rfl, h1, h2, h3, h4⟩ := h
  exact ⟨b, o, cap, rfl, h1, h2, Nat.lt_of_lt_of_le h3 hb.size, fun i u l hu hl => ⟨(hb.cell (p := ⟨b, o + i, none⟩) h3).trans (h4 i u l hu hl).1, (h4 i u l hu hl).2.below hb⟩⟩
theorem flat_take {lss : List (List Nd)} {k : Nat} {l : List Nd} (h : lss[k]? = some l) : (lss.take (k + 1)).flatten = (lss.take k).flatten ++ l := by
  rw [List.take_add_one, h]; simp
theorem flat_le {lss : List (List Nd)} (k : Nat) : (lss.take k).flatten.length ≤ lss.flatten.length := by
  have e : lss.flatten = (lss.take k).flatten ++ (lss.drop k).flatten := by rw [← List.flatten_append, List.take_append_drop]
  rw [e, List.length_append]; omega
set_option maxHeartbeats 4000000 in
theorem Concat_any (us : List Value) (lss : List (List Nd)) (hk : ∀ l ∈ lss, ∀ x ∈ l, x.Ok) (hlen : lss.flatten.length ≤ 3000000000000) (hn : us.length ≤ 3000000000000) (v : Value) (w : World) (hv : LLn w v us lss) :
    Calls Tryd.prog 18 #[v] w fun e w' => ∃ v', e = .returned v' ∧ NO w.heap.size w' v' lss.flatten ∧ Below w.heap.size w w' := by
  have HV : Hid (LLn w v us lss) := hv
  obtain ⟨b, o, cap, rfl, hcap, hul, hlb, hm⟩ := hv
  have HM : Hid (∀ (i : Nat) (u : Value) (l : List Nd), us[i]? = some u → lss[i]? = some l → w.cell? ⟨b, o + i, none⟩ = some u ∧ NS w u l) := hm
  have HLB : Hid (b < w.heap.size) := hlb
  have HK : Hid (∀ l ∈ lss, ∀ x ∈ l, x.Ok) := hk
  have HFL : Hid (lss.flatten.length ≤ 3000000000000) := hlen
  have HUL : Hid (us.length = lss.length) := hul
  obtain ⟨n, hn'⟩ : ∃ n, us.length = n := ⟨_, rfl⟩
  have HN : Hid (us.length = n) := hn'
  rw [hn'] at hn hcap ⊢
  have HGR : Hid (∀ (m : Nat) (W : World), m ≤ 3000000000000 → Calls Tryd.prog 33 #[.slice none 0 0, .int .i64 (m : Int)] W fun e w' => ∃ v', e = .returned v' ∧ NO W.heap.size w' v' [] ∧ Below W.heap.size W w') := fun m W h => Grow_any m h W
  clear hm hlb hk hlen hul hn' HV
  go_enter Tryd.func18, Tryd.ntmps18
  go_wp2_with fail
  go_loopw [3, 11] (fun sv i wr => ∃ k : Nat, k ≤ n ∧ i = .int .i64 (k : Int) ∧ sv = .int .i64 (((lss.take k).flatten.length : Nat) : Int) ∧ wr = w) (fun _ i _ => n - (intOf i).toNat)
  case atStart => exact ⟨0, Nat.zero_le _, rfl, rfl, rfl⟩
  case round =>
    obtain ⟨k, hkn, rfl, rfl, rfl⟩ := hrel
    by_cases hlt : k < n
    · have HLT : Hid (k < n) := hlt
      obtain ⟨u, hu⟩ : ∃ u, us[k]? = some u := ⟨us[k]'(by rw [HN.out]; exact hlt), List.getElem?_eq_getElem _⟩
      obtain ⟨l, hl⟩ : ∃ l, lss[k]? = some l := ⟨lss[k]'(by rw [← HUL.out, HN.out]; exact hlt), List.getElem?_eq_getElem _⟩
      obtain ⟨c1, c2⟩ := HM.out k u l hu hl
      obtain ⟨ad, cp, hu9, -, -⟩ := id c2
      obtain ⟨nl, hnl⟩ : ∃ m, l.length = m := ⟨_, rfl⟩
      rw [hnl] at hu9
      rw [hu9] at c1
      obtain ⟨t, ht⟩ : ∃ t, (lss.take k).flatten.length = t := ⟨_, rfl⟩
      have HT1 : Hid ((lss.take (k + 1)).flatten.length = t + nl) := by show _ = _; rw [flat_take hl, List.length_append, ht, hnl]
      have hb9 : t + nl ≤ 3000000000000 := by have h1 := flat_le (lss := lss) (k + 1); have h2 := HFL.out; have h3 := HT1.out; omega
      have hng : ¬ ((t : Int) + (nl : Int) < 0) := by omega
      rw [ht]
      clear hu hl c2 hu9 hnl ht
      go_wp2_with fail
      exact ⟨⟨k + 1, HLT.out, by go_num, by rw [HT1.out]; go_num, trivial⟩, by have := HLT.out; simp [intOf]; omega⟩
    · obtain rfl : k = n := by omega
      have eT : lss.take k = lss := by rw [← HN.out, HUL.out]; exact List.take_length
      obtain ⟨t, ht⟩ : ∃ t, lss.flatten.length = t := ⟨_, rfl⟩
      have ht9 : t ≤ 3000000000000 := by rw [← ht]; exact HFL.out
      have HG : Hid (Calls Tryd.prog 33 #[.slice none 0 0, .int .i64 (t : Int)] wr fun e w' => ∃ v', e = .returned v' ∧ NO wr.heap.size w' v' [] ∧ Below wr.heap.size wr w') := HGR.out t wr ht9
      rw [eT, ht]
      clear eT ht
      go_wp2_with (go_at_call 33; refine HG.out.mono ?_; rintro e w1 ⟨v1, rfl, g1, g2⟩; have O1 : Hid (NO wr.heap.size w1 v1 []) := g1; have B1 : Hid (Below wr.heap.size wr w1) := g2; clear g1 g2)
      obtain ⟨W0, hW0⟩ : ∃ W, wr = W := ⟨_, rfl⟩
      rw [hW0] at HM HLB O1 B1
      clear HGR HG
      go_loopw [6, 27] (fun av i wx => ∃ j : Nat, j ≤ k ∧ i = .int .i64 (j : Int) ∧ NO W0.heap.size wx av (lss.take j).flatten ∧ Below W0.heap.size W0 wx) (fun _ i _ => k - (intOf i).toNat)
      case atStart => exact ⟨0, Nat.zero_le _, rfl, O1.out, B1.out⟩
      case round =>
        obtain ⟨j, hjn, rfl, q1, q2⟩ := hrel
        have O2 : Hid (NO W0.heap.size wr u6 (lss.take j).flatten) := q1
        have B2 : Hid (Below W0.heap.size W0 wr) := q2
        clear q1 q2
        by_cases hlt : j < k
        · have HLT : Hid (j < k) := hlt
          obtain ⟨u, hu⟩ : ∃ u, us[j]? = some u := ⟨us[j]'(by rw [HN.out]; exact hlt), List.getElem?_eq_getElem _⟩
          obtain ⟨l, hl⟩ : ∃ l, lss[j]? = some l := ⟨lss[j]'(by rw [← HUL.out, HN.out]; exact hlt), List.getElem?_eq_getElem _⟩
          obtain ⟨c1, c2⟩ := HM.out j u l hu hl
          have c3 : wr.cell? ⟨b, o + j, none⟩ = some u := (B2.out.cell (p := ⟨b, o + j, none⟩) HLB.out).trans c1
          obtain ⟨ad, cp, hu9, -, -⟩ := id c2
          obtain ⟨nl, hnl⟩ : ∃ m, l.length = m := ⟨_, rfl⟩
          rw [hnl] at hu9
          have NL : Hid (NS wr (.slice ad nl cp) l) := by rw [← hu9]; exact c2.below B2.out
          rw [hu9] at c3
          have HLO : Hid (∀ x ∈ l, x.Ok) := HK.out l (List.mem_of_getElem? hl)
          have HF1 : Hid ((lss.take (j + 1)).flatten = (lss.take j).flatten ++ l) := flat_take hl
          have HSZ : Hid ((lss.take j).flatten.length + l.length ≤ 3000000000000) := by show _ ≤ _; have h1 := flat_le (lss := lss) (j + 1); rw [flat_take hl, List.length_append] at h1; have h2 := HFL.out; omega
          clear hu hl c1 c2 hu9 hnl hW0
          go_wp2_with (at_builtin; refine wp_appn rfl (.tmp 31) (.tmp 32) rfl rfl W0.heap.size u6 (.slice ad nl cp) (lss.take j).flatten l rfl rfl O2.out HLO.out NL.out HSZ.out ?_; intro v3 w3 g1 g2; have O3 : Hid (NO W0.heap.size w3 v3 (lss.take (j + 1)).flatten) := (HF1.out.symm ▸ g1); have B3 : Hid (Below W0.heap.size W0 w3) := B2.out.trans g2; clear g1 g2)
          exact ⟨⟨j + 1, HLT.out, by go_num, O3.out, B3.out⟩, by have := HLT.out; simp [intOf]; omega⟩
        · obtain rfl : j = k := by omega
          have eT : lss.take j = lss := by rw [← HN.out, HUL.out]; exact List.take_length
          have O3 : Hid (NO W0.heap.size wr u6 lss.flatten) := by have := O2.out; rw [eT] at this; exact this
          clear eT
          go_wp2_with fail
          go_ret
          subst hW0
          exact ⟨_, rfl, O3.out, B2.out⟩
end Go.Proofs.YtpojalbpekbfdabDoor
