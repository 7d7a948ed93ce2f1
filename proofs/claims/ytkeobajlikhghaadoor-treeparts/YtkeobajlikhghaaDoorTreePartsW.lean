/- The walk of TreeParts. -/
import Derived.Test.YtkeobajlikhghaaDoorTrmD
import Derived.Test.YtkeobajlikhghaaDoorTroC
import Derived.Test.YtkeobajlikhghaaDoorTrdA
import Derived.Test.YtkeobajlikhghaaDoorTrrL
import Derived.Test.YtkeobajlikhghaaDoorTrgA
namespace Go.Proofs.YtkeobajlikhghaaDoor
open Go Go.RowKit
set_option linter.unusedSimpArgs false
set_option linter.unusedVariables false
set_option maxRecDepth 100000

theorem range_low {B : Nat} {w w' : World} {b o : Nat} {cs : List Value} (h : w.rangeAt b o cs) (hb : Below B w w') (hlt : b < B) : w'.rangeAt b o cs := fun j v hj => (hb.cell (p := ⟨b, o + j, none⟩) hlt).trans (h j v hj)
theorem one_own (w : World) {x : Nd} (hx : x.Ok) : NO w.heap.size (w.alloc (.cells (nc x).toArray 27)) (.slice (some ⟨w.heap.size, 0, none⟩) 1 1) [x] := by
  have hh : (w.alloc (.cells (nc x).toArray 27)).heap[w.heap.size]? = some (.cells (nc x).toArray 27 (0, 0)) := by show (w.heap.push _)[w.heap.size]? = _; simp
  refine ⟨⟨by rw [ncs_length (fun z hz => by simp at hz; subst hz; exact hx)], .inr ⟨w.heap.size, 1, _, rfl, Nat.le_refl _, hh, Nat.le_refl _, by unfold maxLen; omega, by simp [nc_length hx], ?_⟩⟩, (fun z hz => by simp at hz; subst hz; exact hx), by simp⟩
  simp [ncs, List.take_of_length_le (Nat.le_of_eq (nc_length hx))]
theorem ovE_yes {l : List Nd} (h : Apn l) (hne : l ≠ []) : ovE l = true := by
  unfold ovE
  simp [h.ap, hne]
theorem build_c (c : Int) (w : World) : (Instr.build 27 #[(0, .int .i64 c)]).run Tryd.prog w = .ok (.agg (nc ⟨c, z32, z32⟩).toArray) w := by kernel_rfl
/-- A node's Prefix written over. -/
theorem nc_over {w : World} {b : Nat} {c : Int} {p q : List Int} (hp : L32 p) (hq : L32 q) (h : w.rangeAt b 0 (nc ⟨c, p, z32⟩)) (ht : w.there b 1 32) : (w.setCells b 1 (bv q)).rangeAt b 0 (nc ⟨c, q, z32⟩) := by
  have hs := World.rangeAt_setCells_same w b 1 (bv q) (by rw [bv_length, hq.len]; exact ht)
  intro j u hj
  have hjl := (List.getElem?_eq_some_iff.1 hj).1
  rw [nc_length ⟨hq, z32_l32⟩] at hjl
  rcases Nat.eq_zero_or_pos j with q0 | q0
  · subst q0
    have := h 0 _ rfl
    have e : u = .int .i64 c := by simpa [nc] using hj.symm
    rw [e]
    rw [← this]
    exact World.cell?_setCells_out b (bv q) 1 w ⟨b, 0 + 0, none⟩ (fun _ _ => .inl (by show 0 + 0 < 1; omega))
  · rcases Nat.lt_or_ge j 33 with q1 | q1
    · have := hs (j - 1) u (by
        have e : (nc ⟨c, q, z32⟩)[j]? = (bv q)[j - 1]? := by
          obtain ⟨i, rfl⟩ : ∃ i, j = i + 1 := ⟨j - 1, by omega⟩
          simp only [nc, List.getElem?_cons_succ, Nat.add_sub_cancel]
          rw [List.getElem?_append_left (by rw [bv_length, hq.len]; omega)]
        rw [← e]; exact hj)
      rwa [show 1 + (j - 1) = 0 + j by omega] at this
    · have e : (nc ⟨c, q, z32⟩)[j]? = (nc ⟨c, p, z32⟩)[j]? := by
        obtain ⟨i, rfl⟩ : ∃ i, j = i + 1 := ⟨j - 1, by omega⟩
        simp only [nc, List.getElem?_cons_succ]
        rw [List.getElem?_append_right (by rw [bv_length, hq.len]; omega), List.getElem?_append_right (by rw [bv_length, hp.len]; omega), bv_length, bv_length, hq.len, hp.len]
      rw [e] at hj
      rw [← h j u hj]
      exact World.cell?_setCells_out b (bv q) 1 w ⟨b, 0 + j, none⟩ (fun _ _ => .inr (by show 1 + (bv q).length ≤ 0 + j; rw [bv_length, hq.len]; omega))
def tp9f (b o n cp b12 c : Nat) (p0 fp : List Int) : Nat → Option Value
  | 0 => some (.slice (some ⟨b, o, none⟩) n cp)
  | 1 => some (.pointer (some ⟨b, o, none⟩))
  | 2 => some (.pointer (some ⟨b, o + 1, none⟩))
  | 3 => some (.agg (bv p0).toArray)
  | 4 => some (.pointer (some ⟨b12, 0, none⟩))
  | 5 => some (.int .i64 (c : Int))
  | 6 => some (.agg (bv fp).toArray)
  | 7 => some (.pointer (some ⟨b12, 1, none⟩))
  | _ => none
def tp13f (b o n cp k : Nat) (P : Nd) (px : List Int) (g : Bool) : Nat → Value
  | 0 => .agg (nc P).toArray
  | 1 => .slice (some ⟨b, o, none⟩) n cp
  | 2 => .int .i64 (k : Int)
  | 3 => .pointer (some ⟨b, o + k * 65, none⟩)
  | 4 => .pointer (some ⟨b, o + k * 65 + 1, none⟩)
  | 5 => .agg (bv px).toArray
  | 6 => .bool g
  | _ => undef
set_option maxHeartbeats 32000000 in
theorem parts_any (ls : List Lf) (hk : ∀ x ∈ ls, x.Ok) (hlen : ls.length ≤ 2500000000000) (t : Int) (htr : 0 ≤ t ∧ t ≤ 255) (v : Value) (w : World) (hv : LS w v ls) (hT : Tb w) :
    Calls Tryd.prog 8 #[v, .int .u8 t] w fun e w' => e = .returned (.bool true) ∧ Below w.heap.size w w' := by
  have hz := zero_32
  rw [show List.replicate 32 (0 : Int) = z32 from rfl] at hz
  obtain ⟨Z, hZ⟩ : ∃ Z, (bv z32).toArray = Z := ⟨_, rfl⟩
  have HZS : Hid (Z.size = 32) := by show Z.size = 32; rw [← hZ]; simp [bv, z32]
  rw [hZ] at hz
  have hzn := zero_nd
  obtain ⟨Zn, hZn⟩ : ∃ Z, (nc ndz).toArray = Z := ⟨_, rfl⟩
  have HZN : Hid (Zn.size = 65) := by rw [← hZn]; exact nc_size ndz_ok
  rw [hZn] at hzn
  obtain ⟨c, hct, hc12⟩ : ∃ c : Nat, t.tmod 12 = (c : Int) ∧ c < 12 := by
    have h1 := Int.tmod_nonneg 12 htr.1
    have h2 := Int.tmod_lt_of_pos t (show (0 : Int) < 12 by omega)
    exact ⟨(t.tmod 12).toNat, by omega, by omega⟩
  have hwt : wrap64 t = t := by unfold wrap64; omega
  have TW : Hid (Tb w) := hT
  have VW : Hid (LS w v ls) := hv
  obtain ⟨Q, hQ⟩ : ∃ Q, dst ls = Q := ⟨_, rfl⟩
  have HQK : Hid (∀ x ∈ Q, x.Ok) := by rw [← hQ]; exact dst_ok hk
  have HQO : Hid (okl Q) := by rw [← hQ]; exact okl_dst hk
  have HQL : Hid (Q.length ≤ 2500000000000) := by rw [← hQ]; have := dst_len ls []; show _ ≤ _; unfold dst; simp at this; omega
  obtain ⟨S, hS⟩ : ∃ S, so Q = S := ⟨_, rfl⟩
  have HS6 : Hid (∀ x ∈ S, x.Ok ∧ gd x = true ∧ x.n = 256) := by rw [← hS]; exact map_ok HQK.out (so_spec HQO.out).1
  have HSA : Hid (Apn S) := by rw [← hS]; exact ⟨so_ok HQK.out HQO.out, (so_spec HQO.out).2⟩
  have HSL : Hid (S.length ≤ 2500000000000) := by rw [← hS]; show _ ≤ _; rw [so_len HQO.out]; exact HQL.out
  obtain ⟨R, hR⟩ : ∃ R, rt S = R := ⟨_, rfl⟩
  have HRS : Hid (rt S = R) := hR
  have HRL : Hid (L32 R) := by rw [← hR]; exact rt_l32 _
  have HAW : Hid (Calls Tryd.prog 9 #[] w fun e w' => e = .returned (.bool true) ∧ Below w.heap.size w w') := awake_any w hT
  have HDS : Hid (∀ W : World, Below w.heap.size w W → Calls Tryd.prog 31 #[v] W fun e w' => ∃ v', e = .returned v' ∧ LS w' v' Q ∧ Below W.heap.size W w') := fun W q => (distinct_any ls hk hlen v W (VW.out.below q)).mono fun e w' ⟨v', h1, h2, h3⟩ => ⟨v', h1, by rw [← hQ]; exact h2.ls, h3⟩
  have HNY : Hid (∀ (v' : Value) (W : World), LS W v' Q → Calls Tryd.prog 32 #[v'] W fun e w' => ∃ v', e = .returned (.tuple #[v', .bool true]) ∧ NS w' v' S ∧ Below W.heap.size W w') := fun v' W n1 => by rw [← hS]; exact rNodes_yes Q HQK.out HQL.out HQO.out v' W n1
  have HCN : Hid (∀ (l : List Nd) (v' : Value) (W : World), (∀ x ∈ l, x.Ok) → l.length ≤ 2900000000000 → NS W v' l → Calls Tryd.prog 15 #[v'] W fun e w' => ∃ v', e = .returned v' ∧ NS w' v' l ∧ Below W.heap.size W w') := fun l v' W h1 h2 h3 => copyNodes_any l h1 (by omega) v' W h3
  have HRT : Hid (∀ (l : List Nd) (v' : Value) (W : World), Apn l → l.length ≤ 2900000000000 → rt l = R → NS W v' l → Below w.heap.size w W → Calls Tryd.prog 17 #[v'] W fun e w' => e = .returned (.tuple #[.agg (bv R).toArray, .int .i64 0]) ∧ Below W.heap.size W w') := fun l v' W h1 h2 h3 h4 h5 => by
    have := Root_any l h1.ok (by omega) v' W h4 (TW.out.below h5); rw [h1.ap, if_pos rfl, if_pos rfl, h3] at this; exact this
  have HOV : Hid (∀ (l : List Nd) (v' : Value) (W : World), Apn l → l ≠ [] → l.length ≤ 2900000000000 → NS W v' l → Below w.heap.size w W → Calls Tryd.prog 14 #[v'] W fun e w' => e = .returned (.tuple #[.agg (nc (ovl l)).toArray, .int .i64 0]) ∧ Below W.heap.size W w') := fun l v' W h1 h2 h3 h4 h5 => by
    have := Over_any l h1.ok (by omega) v' W h4 (TW.out.below h5)
    rw [show ovE l = true from ovE_yes h1 h2, if_pos rfl, if_pos rfl] at this; exact this
  clear hk hlen hv hT hQ hS hR hZ hZn htr
  go_enter Tryd.func8, Tryd.ntmps8
  go_upto_region 6 with (first
    | (refine wpList_store_mid rfl 23 (.tmp 8) (.tmp 31) rfl w3.heap.size 0 (bv R).toArray rfl rfl (there_new w3 (by rw [List.size_toArray, bv_length, HRL.out.len, HZS.out])) (by rw [List.size_toArray]; exact size_l32 HRL.out) (bv_one' _) ?_; simp only [List.toList_toArray])
    | (go_at_call 9; refine HAW.out.mono ?_; rintro e w0 ⟨rfl, g1⟩; have Cw0 : Hid (Below w.heap.size w w0) := g1; clear g1)
    | (go_at_call 31; refine (HDS.out w0 Cw0.out).mono ?_; rintro e w1 ⟨v5, rfl, g1, g2⟩; have N5 : Hid (LS w1 v5 Q) := g1; have Cw1 : Hid (Below w.heap.size w w1) := Below.tr' Cw0.out g2; clear g1 g2)
    | (go_at_call 32; refine (HNY.out v5 w1 N5.out).mono ?_; rintro e w2 ⟨v6, rfl, g1, g2⟩; have N6 : Hid (NS w2 v6 S) := g1; have Cw2 : Hid (Below w.heap.size w w2) := Below.tr' Cw1.out g2; clear g1 g2)
    | (go_at_call 15; refine (HCN.out S v6 w2 HSA.out.ok (by have := HSL.out; omega) N6.out).mono ?_; rintro e a2 ⟨v29, rfl, g1, g2⟩; have N29 : Hid (NS a2 v29 S) := g1; have Ga2 : Hid (Below w2.heap.size w2 a2) := g2; have Ca2 : Hid (Below w.heap.size w a2) := Below.tr' Cw2.out g2; clear g1 g2)
    | (go_at_call 17; refine (HRT.out S v29 a2 HSA.out (by have := HSL.out; omega) HRS.out N29.out Ca2.out).mono ?_; rintro e w3 ⟨rfl, g1⟩; have Gw3 : Hid (Below w2.heap.size w2 w3) := Below.tr' Ga2.out g1; have Cw3 : Hid (Below w.heap.size w w3) := Below.tr' Ca2.out g1; clear g1))
  obtain ⟨a3, ha3⟩ : ∃ a9, (w3.alloc (.cells Z 23)).setCells w3.heap.size 0 (bv R) = a9 := ⟨_, rfl⟩
  rw [ha3]
  obtain ⟨r1, r2, r3⟩ := laid_row (by rw [bv_length, HRL.out.len, HZS.out]) (by rw [bv_length, HRL.out.len]; omega) ha3
  obtain ⟨b8, hBb8⟩ : ∃ q, w3.heap.size = q := ⟨_, rfl⟩
  rw [hBb8] at r1 r3 ⊢
  have Rb8 : Hid (a3.rangeAt b8 0 (bv R)) := r1
  have Ga3 : Hid (Below w3.heap.size w3 a3) := r2
  have Ca3 : Hid (Below w.heap.size w a3) := Below.tr' Cw3.out r2
  have Lb8 : Hid (b8 < a3.heap.size) := r3
  clear r1 r2 r3 ha3 hBb8
  have HPZ : Hid (Nd.Ok ⟨(c : Int), z32, z32⟩) := ⟨z32_l32, z32_l32⟩
  have HBC : Hid (∀ W : World, (Instr.build 27 #[(0, .int .i64 (c : Int))]).run Tryd.prog W = .ok (.agg (nc ⟨(c : Int), z32, z32⟩).toArray) W) := fun W => build_c _ W
  go_upto_region 7 with (fail)
  go_upto_region 8 with (first
    | (refine wp_build1 27 (.tmp 35) rfl rfl (.int .i64 (c : Int)) rfl _ (HBC.out a3) ?_)
    | (refine wpList_store_mid rfl 27 (.tmp 12) (.tmp 36) rfl a3.heap.size 0 (nc ⟨(c : Int), z32, z32⟩).toArray rfl rfl (there_new a3 (by rw [List.size_toArray, nc_length HPZ.out, HZN.out])) (by rw [List.size_toArray]; exact size_nc HPZ.out) (nc_one _) ?_; simp only [List.toList_toArray]))
  obtain ⟨w4, hw4⟩ : ∃ a9, (a3.alloc (.cells Zn 27)).setCells a3.heap.size 0 (nc ⟨(c : Int), z32, z32⟩) = a9 := ⟨_, rfl⟩
  rw [hw4]
  obtain ⟨r1, r2, r3⟩ := laid_row (by rw [nc_length HPZ.out, HZN.out]) (by rw [nc_length HPZ.out]; omega) hw4
  obtain ⟨b12, hBb12⟩ : ∃ q, a3.heap.size = q := ⟨_, rfl⟩
  rw [hBb12] at r1 r3 ⊢
  have Rb12 : Hid (w4.rangeAt b12 0 (nc ⟨(c : Int), z32, z32⟩)) := r1
  have Gw4 : Hid (Below a3.heap.size a3 w4) := r2
  have Cw4 : Hid (Below w.heap.size w w4) := Below.tr' Ca3.out r2
  have Lb12 : Hid (b12 < w4.heap.size) := r3
  have q0 : (a3.alloc (.cells Zn 27)).heap[a3.heap.size]? = some (.cells Zn 27 (0, 0)) := by show (a3.heap.push _)[a3.heap.size]? = _; simp
  have hes : ∃ q, w4.heap[b12]? = some (.cells q 27 (0, 0)) ∧ q.size = 65 := by
    rw [← hBb12, ← hw4]
    have h1 : (a3.alloc (.cells Zn 27)).there a3.heap.size 0 65 := there_new a3 (by rw [HZN.out])
    exact ⟨_, heap_setC _ _ _ _ _ _ _ q0, by rw [setL_size]; exact HZN.out⟩
  have HES : Hid (∃ q, w4.heap[b12]? = some (.cells q 27 (0, 0)) ∧ q.size = 65) := hes
  have HB12 : Hid (a3.heap.size = b12) := hBb12
  clear r1 r2 r3 hw4 hBb12 q0 hes
  have R84 : Hid (w4.rangeAt b8 0 (bv R)) := range_below Rb8.out Gw4.out Lb8.out
  have G24 : Hid (Below w2.heap.size w2 w4) := Below.tr' Gw3.out (Below.tr' Ga3.out Gw4.out)
  have L8 : Hid (b8 < b12) := by show b8 < b12; rw [← HB12.out]; exact Lb8.out
  have LW : Hid (w.heap.size ≤ b12) := by show _ ≤ b12; rw [← HB12.out]; exact Ca3.out.size
  have L2 : Hid (w2.heap.size ≤ b12) := by show _ ≤ b12; rw [← HB12.out]; exact Nat.le_trans Gw3.out.size Ga3.out.size
  clear hz hct hwt
  obtain ⟨ad, cp, hv6, hcp, hxx⟩ := N6.out
  obtain ⟨n, hn⟩ : ∃ n, S.length = n := ⟨_, rfl⟩
  have HLN : Hid (S.length = n) := hn
  have hnl : n ≤ 2500000000000 := by rw [← hn]; exact HSL.out
  rw [hn] at hv6
  subst hv6
  by_cases hS0 : S = []
  · have hn0 : n = 0 := by rw [← hn, hS0]; rfl
    subst hn0
    clear hxx hn hzn
    go_wp2_with fail
    go_loopw [50, 10, 11] (fun i oa ob wr => i = .int .i64 0 ∧ oa = .slice none 0 0 ∧ ob = .slice none 0 0 ∧ Below w4.heap.size w4 wr) (fun i _ _ _ => 0)
    case atStart => exact ⟨rfl, rfl, rfl, Below.refl _ _⟩
    case round =>
      obtain ⟨rfl, rfl, rfl, h5⟩ := hrel
      have H5 : Hid (Below w4.heap.size w4 wr) := h5
      clear h5
      go_wp2_with fail
      go_ret
      exact ⟨rfl, Cw4.out.trans (H5.out.mono Cw4.out.size)⟩
  · rcases hxx with ⟨h0, _⟩ | ⟨b, o, rfl, hlb, hm⟩
    · exact absurd h0 hS0
    have HS0 : Hid (S ≠ []) := hS0
    have hn1 : 0 < n := by rw [← hn]; exact List.length_pos_iff.2 hS0
    obtain ⟨xa, hxa⟩ : ∃ x, S[0]? = some x := ⟨S[0]'(by omega), List.getElem?_eq_getElem (by omega)⟩
    obtain ⟨p0, hp0⟩ : ∃ p, hp S = p := ⟨_, rfl⟩
    have hpa : xa.p = p0 := by rw [← hp0]; exact (hp_eq hxa).symm
    have HPS : Hid (hp S = p0) := hp0
    have HP0 : Hid (L32 p0) := by rw [← hpa]; exact (HSA.out.ok xa (List.mem_of_getElem? hxa)).p
    have LB2 : Hid (b < b12) := Nat.lt_of_lt_of_le hlb L2.out
    have R04 : Hid (w4.rangeAt b (o + 1) (bv p0)) := by have := nc_p (range_below (hm 0 xa hxa) G24.out hlb); rw [hpa, Nat.zero_mul, Nat.add_zero] at this; exact this
    have L04 : Hid (b < w4.heap.size) := Nat.lt_of_lt_of_le hlb G24.out.size
    obtain ⟨fp, hfp⟩ : ∃ p, fb p0 c = p := ⟨_, rfl⟩
    have HFP : Hid (L32 fp) := by rw [← hfp]; exact fb_l32 HP0.out c
    have HFI : Hid (∀ W : World, Calls Tryd.prog 33 #[.agg (bv p0).toArray, .int .i64 (c : Int)] W fun e w' => e = .returned (.agg (bv fp).toArray) ∧ Below W.heap.size W w') := fun W => by rw [← hfp]; exact rFirst_any p0 HP0.out c (by omega) W
    have HT12 : Hid (∀ W : World, Below w4.heap.size w4 W → W.there b12 1 32) := fun W q => by
      obtain ⟨q1, e1, e2⟩ := HES.out
      exact there_of_row' ((q.block _ Lb12.out).trans e1) 1 32 (by omega)
    have HHP : Hid (∀ x : Nd, hl ⟨(c : Int), fp, z32⟩ x.p = bgn p0 c x) := fun x => by rw [← hfp]; exact hl_first HP0.out (by omega) z32
    have HM4 : Hid (∀ (i : Nat) (x : Nd), S[i]? = some x → w4.rangeAt b (o + i * 65) (nc x)) := fun i x hi => range_below (hm i x hi) G24.out hlb
    have HC12 : Hid (c ≤ 256) := by show c ≤ 256; omega
    clear hm hlb hxa hp0 hpa hfp hS0 hn
    go_upto_region 9 with (fail)
    refine RG.wp_rgn' (GL w4 (tp9f b o n cp b12 c p0 fp) (fun _ _ _ => True) [] 8 (b12) (1) (bv fp)) (by kernel_rfl) (by kernel_rfl) GL.start ?_ ?_
    · refine ⟨?_, ?_, ?_, ?_, ?_, ?_, ?_, ?_, ?_, trivial⟩
      · refine GL.ob rfl ?_
        intro a W d V hI hd hpx hbk hf hp
        have hO' : Below w4.heap.size w4 W := hI.be
        refine RU.ob_val (v := .slice (some ⟨b, o, none⟩) n cp) rfl (RU.wanted_none rfl) (fun ev he hc => ?_) ⟨_, rfl, hI.step (fun _ _ _ _ _ _ => trivial) (Below.refl _ _) 0 _ (by simp) (fun u hu => by first | (cases hu; rfl) | cases hu) (trivial)⟩
        have q6 : ev (.tmp 6) = .slice (some ⟨b, o, none⟩) n cp := (he (.tmp 6)).trans (hf 6 rfl)
        simp only [List.getElem_toArray, List.getElem_cons_succ, List.getElem_cons_zero, execOp, Option.map_some, Option.map_none]; rw [q6]
        first | (go_simp; done) | (go_simp; rfl) | rfl
      · refine GL.ob rfl ?_
        intro a W d V hI hd hpx hbk hf hp
        have hO' : Below w4.heap.size w4 W := hI.be
        refine RU.ob_val (v := .pointer (some ⟨b, o, none⟩)) rfl (RU.wanted_none rfl) (fun ev he hc => ?_) ⟨_, rfl, hI.step (fun _ _ _ _ _ _ => trivial) (Below.refl _ _) 1 _ (by simp) (fun u hu => by first | (cases hu; rfl) | cases hu) (trivial)⟩
        have q40 : ev (.tmp 40) = .slice (some ⟨b, o, none⟩) n cp := (he (.tmp 40)).trans ((hp 0 40 rfl).trans (hI.kn 0 _ rfl (hpx 0 rfl)))
        simp only [List.getElem_toArray, List.getElem_cons_succ, List.getElem_cons_zero, execOp, Option.map_some, Option.map_none]; rw [q40]
        try simp only [hc]
        have h09 : (0 : Int) < (n : Int) := by omega
        have h08 : 0 < n := by omega
        first | (go_simp; done) | (go_simp; rfl) | rfl
      · refine GL.ob rfl ?_
        intro a W d V hI hd hpx hbk hf hp
        have hO' : Below w4.heap.size w4 W := hI.be
        refine RU.ob_val (v := .pointer (some ⟨b, o + 1, none⟩)) rfl (RU.wanted_none rfl) (fun ev he hc => ?_) ⟨_, rfl, hI.step (fun _ _ _ _ _ _ => trivial) (Below.refl _ _) 2 _ (by simp) (fun u hu => by first | (cases hu; rfl) | cases hu) (trivial)⟩
        have q41 : ev (.tmp 41) = .pointer (some ⟨b, o, none⟩) := (he (.tmp 41)).trans ((hp 1 41 rfl).trans (hI.kn 1 _ rfl (hpx 1 rfl)))
        simp only [List.getElem_toArray, List.getElem_cons_succ, List.getElem_cons_zero, execOp, Option.map_some, Option.map_none]; rw [q41]
        first | (go_simp; done) | (go_simp; rfl) | rfl
      · refine GL.ob rfl ?_
        intro a W d V hI hd hpx hbk hf hp
        have hO' : Below w4.heap.size w4 W := hI.be
        have q42 : a.eval (.tmp 42) = .pointer (some ⟨b, o + 1, none⟩) := (hp 2 42 rfl).trans (hI.kn 2 _ rfl (hpx 2 rfl))
        exact RU.ob_op rfl (RU.wanted_none rfl) (wp_load_mid 23 (.tmp 42) rfl (b) (o + 1) q42 (bv p0) _ (range_below R04.out hO' L04.out) Tryd.underlying23 rfl (size_l32 HP0.out) ⟨_, rfl, hI.step (fun _ _ _ _ _ _ => trivial) (Below.refl _ _) 3 _ (by simp) (fun u hu => by first | (cases hu; rfl) | cases hu) (trivial)⟩)
      · refine GL.ob rfl ?_
        intro a W d V hI hd hpx hbk hf hp
        have hO' : Below w4.heap.size w4 W := hI.be
        refine RU.ob_val (v := .pointer (some ⟨b12, 0, none⟩)) rfl (RU.wanted_none rfl) (fun ev he hc => ?_) ⟨_, rfl, hI.step (fun _ _ _ _ _ _ => trivial) (Below.refl _ _) 4 _ (by simp) (fun u hu => by first | (cases hu; rfl) | cases hu) (trivial)⟩
        have q12 : ev (.tmp 12) = .pointer (some ⟨b12, 0, none⟩) := (he (.tmp 12)).trans (hf 12 rfl)
        simp only [List.getElem_toArray, List.getElem_cons_succ, List.getElem_cons_zero, execOp, Option.map_some, Option.map_none]; rw [q12]
        first | (go_simp; done) | (go_simp; rfl) | rfl
      · refine GL.ob rfl ?_
        intro a W d V hI hd hpx hbk hf hp
        have hO' : Below w4.heap.size w4 W := hI.be
        have hcell := nc_n (range_below Rb12.out hO' Lb12.out)
        refine RU.ob_val (v := .int .i64 (c : Int)) rfl (RU.wanted_none rfl) (fun ev he hc => ?_) ⟨_, rfl, hI.step (fun _ _ _ _ _ _ => trivial) (Below.refl _ _) 5 _ (by simp) (fun u hu => by first | (cases hu; rfl) | cases hu) (trivial)⟩
        have q44 : ev (.tmp 44) = .pointer (some ⟨b12, 0, none⟩) := (he (.tmp 44)).trans ((hp 4 44 rfl).trans (hI.kn 4 _ rfl (hpx 4 rfl)))
        simp only [List.getElem_toArray, List.getElem_cons_succ, List.getElem_cons_zero, execOp, Option.map_some, Option.map_none]; rw [q44]
        first | (go_simp; done) | (go_simp; rfl) | rfl
      · refine GL.ob rfl ?_
        intro a W d V hI hd hpx hbk hf hp
        have hO' : Below w4.heap.size w4 W := hI.be
        have e43 : a.eval (.tmp 43) = .agg (bv p0).toArray := (hp 3 43 rfl).trans (hI.kn 3 _ rfl (hpx 3 rfl))
        have e45 : a.eval (.tmp 45) = .int .i64 (c : Int) := (hp 5 45 rfl).trans (hI.kn 5 _ rfl (hpx 5 rfl))
        have hno : ∀ x ∈ ([] : List Al), d x.2.1 = false := by simp
        refine RU.ob_call (g := 33) (args := #[.agg (bv p0).toArray, .int .i64 (c : Int)]) rfl (RU.wanted_none rfl) (fun ev he hc => ?_) ((HFI.out W).mono ?_)
        · have h43 := (he (.tmp 43)).trans e43
          have h45 := (he (.tmp 45)).trans e45
          have hfn := he (.func 33)
          simp only [List.getElem_toArray, List.getElem_cons_succ, List.getElem_cons_zero, execOp, Option.map_some, Option.map_none]
          simp only [resolve, invoke, Sem.run_bind, Sem.run_pure, Result.andThen_ok, List.map_toArray, List.map_cons, List.map_nil, h43, h45, hfn, Act.eval, hc]
          rfl
        · rintro e' W2 ⟨rfl, hb2⟩
          exact ⟨_, rfl, ⟨_, rfl, hI.step (fun _ _ _ _ _ _ => trivial) hb2 6 _ (by simp) (fun u hu => by first | (cases hu; rfl) | cases hu) (trivial)⟩⟩
      · refine GL.ob rfl ?_
        intro a W d V hI hd hpx hbk hf hp
        have hO' : Below w4.heap.size w4 W := hI.be
        refine RU.ob_val (v := .pointer (some ⟨b12, 1, none⟩)) rfl (RU.wanted_none rfl) (fun ev he hc => ?_) ⟨_, rfl, hI.step (fun _ _ _ _ _ _ => trivial) (Below.refl _ _) 7 _ (by simp) (fun u hu => by first | (cases hu; rfl) | cases hu) (trivial)⟩
        have q12 : ev (.tmp 12) = .pointer (some ⟨b12, 0, none⟩) := (he (.tmp 12)).trans (hf 12 rfl)
        simp only [List.getElem_toArray, List.getElem_cons_succ, List.getElem_cons_zero, execOp, Option.map_some, Option.map_none]; rw [q12]
        first | (go_simp; done) | (go_simp; rfl) | rfl
      · refine GL.obs (fun a W d V hI hd hpx hbk hf hp => ?_)
        have hO' : Below w4.heap.size w4 W := hI.be
        have qp : a.eval (.tmp 47) = .pointer (some ⟨b12, 1, none⟩) := (hp 7 47 rfl).trans (hI.kn 7 _ rfl (hpx 7 rfl))
        have qv : a.eval (.tmp 46) = .agg (bv fp).toArray := (hp 6 46 rfl).trans (hI.kn 6 _ rfl (hpx 6 rfl))
        exact RU.ob_op rfl (RU.wanted_none rfl) (wp_store_mid 23 (.tmp 47) (.tmp 46) rfl (b12) (1) (bv fp).toArray qp qv (by rw [List.size_toArray, bv_length, HFP.out.len]; exact HT12.out W hO') (by rw [List.size_toArray]; exact size_l32 HFP.out) (bv_one' _) ⟨_, rfl, by simp only [List.toList_toArray]; exact GL.stored hI rfl _⟩)
    intro W5x dW5 VW5 hal hG
    obtain ⟨hK, W5, W5y, hyW5⟩ := hG.fin (hal 8 (by decide))
    subst hyW5
    have BW5 : Hid (Below w4.heap.size w4 W5) := W5y
    have hs0 : VW5 0 = .slice (some ⟨b, o, none⟩) n cp := hK 0 _ rfl (hal 0 (by decide))
    have hs1 : VW5 1 = .pointer (some ⟨b, o, none⟩) := hK 1 _ rfl (hal 1 (by decide))
    have hs2 : VW5 2 = .pointer (some ⟨b, o + 1, none⟩) := hK 2 _ rfl (hal 2 (by decide))
    have hs3 : VW5 3 = .agg (bv p0).toArray := hK 3 _ rfl (hal 3 (by decide))
    have hs4 : VW5 4 = .pointer (some ⟨b12, 0, none⟩) := hK 4 _ rfl (hal 4 (by decide))
    have hs5 : VW5 5 = .int .i64 (c : Int) := hK 5 _ rfl (hal 5 (by decide))
    have hs6 : VW5 6 = .agg (bv fp).toArray := hK 6 _ rfl (hal 6 (by decide))
    have hs7 : VW5 7 = .pointer (some ⟨b12, 1, none⟩) := hK 7 _ rfl (hal 7 (by decide))
    simp only [RU.lay, Act.put, hs0, hs1, hs2, hs3, hs4, hs5, hs6, hs7]
    simp only [List.setIfInBounds_toArray, List.set_cons_succ, List.set_cons_zero]
    clear hG hK hal W5y hs0 hs1 hs2 hs3 hs4 hs5 hs6 hs7
    have Lb12w : Hid (b12 < W5.heap.size) := Nat.lt_of_lt_of_le Lb12.out BW5.out.size
    have RP0 : (W5.setCells b12 1 (bv fp)).rangeAt b12 0 (nc ⟨(c : Int), fp, z32⟩) := nc_over z32_l32 HFP.out (range_below Rb12.out BW5.out Lb12.out) (HT12.out W5 BW5.out)
    have RLO : Below b12 W5 (W5.setCells b12 1 (bv fp)) := below_setCells (Nat.le_refl _) _ _ (Below.refl _ _)
    have CU0 : Below w.heap.size w (W5.setCells b12 1 (bv fp)) := below_setCells LW.out _ _ (Below.tr' Cw4.out BW5.out)
    obtain ⟨U, hU⟩ : ∃ U, W5.setCells b12 1 (bv fp) = U := ⟨_, rfl⟩
    rw [hU] at RP0 RLO CU0 ⊢
    have CU : Hid (Below w.heap.size w U) := CU0
    have RPU : Hid (U.rangeAt b12 0 (nc ⟨(c : Int), fp, z32⟩)) := RP0
    have LPU : Hid (b12 < U.heap.size) := Nat.lt_of_lt_of_le Lb12w.out RLO.size
    have R8U : Hid (U.rangeAt b8 0 (bv R)) := range_low (range_below R84.out BW5.out (Nat.lt_trans L8.out Lb12.out)) RLO L8.out
    have L8U : Hid (b8 < U.heap.size) := Nat.lt_trans L8.out LPU.out
    have HMU : Hid (∀ (i : Nat) (x : Nd), S[i]? = some x → U.rangeAt b (o + i * 65) (nc x)) := fun i x hi => range_low (range_below (HM4.out i x hi) BW5.out L04.out) RLO LB2.out
    have LBU : Hid (b < U.heap.size) := Nat.lt_trans LB2.out LPU.out
    obtain ⟨P, hP⟩ : ∃ P : Nd, (⟨(c : Int), fp, z32⟩ : Nd) = P := ⟨_, rfl⟩
    rw [hP] at RPU HHP
    have HPO : Hid P.Ok := by rw [← hP]; exact ⟨HFP.out, z32_l32⟩
    obtain ⟨pb, hpb⟩ : ∃ pb, bgn p0 c = pb := ⟨_, rfl⟩
    have HHB : Hid (∀ x : Nd, hl P x.p = pb x) := fun x => by rw [← hpb]; exact HHP.out x
    have HCUP : Hid (S.filter pb ≠ [] ∧ Cu S (ovl (S.filter pb) :: S.filter (fun x => !pb x))) := by have := cu_part n S (Nat.le_of_eq HLN.out) HSA.out.rsn.ris HS0.out c HC12.out; rw [HPS.out, hpb] at this; exact this
    clear hU hP hpb RP0 RLO CU0
    go_wp2_with fail
    go_loopw [10, 11, 50] (fun oa ob i wr => ∃ k : Nat, k ≤ n ∧ i = .int .i64 (k : Int) ∧ Apt2 U.heap.size wr ob oa ((S.take k).filter pb) ((S.take k).filter (fun x => !pb x)) ∧ Below U.heap.size U wr) (fun _ _ i _ => n - (intOf i).toNat)
    case atStart => exact ⟨0, Nat.zero_le _, rfl, ⟨NO.nil' (Nat.le_refl _), NO.nil' (Nat.le_refl _), fun _ => rfl, fun _ => rfl, .inl rfl⟩, Below.refl _ _⟩
    case round =>
      obtain ⟨k, hkl, rfl, h3, h4⟩ := hrel
      have AP : Hid (Apt2 U.heap.size wr u11 u10 ((S.take k).filter pb) ((S.take k).filter (fun x => !pb x))) := h3
      have BR : Hid (Below U.heap.size U wr) := h4
      clear h3 h4
      by_cases hlt : k < n
      · have HLT : Hid (k < n) := hlt
        obtain ⟨x, hx⟩ : ∃ x, S[k]? = some x := ⟨S[k]'(by rw [HLN.out]; exact hlt), List.getElem?_eq_getElem (by rw [HLN.out]; exact hlt)⟩
        have HXO : Hid x.Ok := HSA.out.ok x (List.mem_of_getElem? hx)
        have HXT : Hid (S.take (k + 1) = S.take k ++ [x]) := by show S.take (k + 1) = _; rw [List.take_add_one, hx]; rfl
        have HXN : Hid (∀ y ∈ S.take k, y ≠ x) := fun y hy e => by
          subst e
          obtain ⟨i, hi, e⟩ := List.getElem_of_mem hy
          rw [List.length_take] at hi
          have h1 : S[i]? = some y := by rw [List.getElem_take] at e; rw [← e]; exact List.getElem?_eq_getElem (by omega)
          have := HSA.out.rsn.ris.lt h1 hx (by omega)
          omega
        obtain ⟨px, hpx⟩ : ∃ p, x.p = p := ⟨_, rfl⟩
        have HPX : Hid (L32 px) := by rw [← hpx]; exact HXO.out.p
        obtain ⟨g, hg⟩ : ∃ g, pb x = g := ⟨_, rfl⟩
        have HG : Hid (pb x = g) := hg
        have HHO : Hid (∀ W : World, Calls Tryd.prog 13 #[.agg (nc P).toArray, .agg (bv px).toArray] W fun e w' => e = .returned (.bool g) ∧ Below W.heap.size W w') := fun W => by
          have := rHolds_any P HPO.out px HPX.out W
          rw [← hpx, HHB.out x, hg] at this
          rw [← hpx]; exact this
        have RPW : Hid (wr.rangeAt b12 0 (nc P)) := range_below RPU.out BR.out LPU.out
        have LPW : Hid (b12 < wr.heap.size) := Nat.lt_of_lt_of_le LPU.out BR.out.size
        have RNW : Hid (wr.rangeAt b (o + k * 65) (nc x)) := range_below (HMU.out k x hx) BR.out LBU.out
        have RXW : Hid (wr.rangeAt b (o + k * 65 + 1) (bv px)) := by rw [← hpx]; exact nc_p RNW.out
        have LXW : Hid (b < wr.heap.size) := Nat.lt_of_lt_of_le LBU.out BR.out.size
        clear hx hpx hg
        go_upto_region 13 with (fail)
        refine RU.wp_rgn' [] (tp13f b o n cp k P px g) (fun _ => 0) (gΩ wr) (by kernel_rfl) (by kernel_rfl) (show Below wr.heap.size wr _ from (Below.refl _ _).drew) ?_ ?_
        · refine ⟨?_, ?_, ?_, ?_, ?_, ?_, ?_, trivial⟩
          · refine RU.ObT.silent rfl (fun a W k0 V hO hf hp hk => ?_)
            have hO' : Below wr.heap.size wr W := hO
            have q12 : a.eval (.tmp 12) = .pointer (some ⟨b12, 0, none⟩) := hf 12 rfl
            exact RU.ob_op rfl (RU.wanted_none rfl) (wp_load_mid 27 (.tmp 12) rfl (b12) (0) q12 (nc P) _ (range_below RPW.out hO' LPW.out) Tryd.underlying27 rfl (size_nc HPO.out) ⟨rfl, hO⟩)
          · refine RU.ObT.pure rfl rfl rfl (fun a V hf hp ev he hc W => ?_)
            have q6 : ev (.tmp 6) = .slice (some ⟨b, o, none⟩) n cp := (he (.tmp 6)).trans (hf 6 rfl)
            simp only [List.getElem_toArray, List.getElem_cons_succ, List.getElem_cons_zero, execOp, Option.map_some, Option.map_none]; rw [q6]
            first | (go_simp; done) | (go_simp; rfl) | rfl
          · refine RU.ObT.pure rfl rfl rfl (fun a V hf hp ev he hc W => ?_)
            have q13 : ev (.tmp 13) = .int .i64 (k : Int) := (he (.tmp 13)).trans (hf 13 rfl)
            simp only [List.getElem_toArray, List.getElem_cons_succ, List.getElem_cons_zero, execOp, Option.map_some, Option.map_none]; rw [q13]
            first | (go_simp; done) | (go_simp; rfl) | rfl
          · refine RU.ObT.pure rfl rfl rfl (fun a V hf hp ev he hc W => ?_)
            have q54 : ev (.tmp 54) = .slice (some ⟨b, o, none⟩) n cp := (he (.tmp 54)).trans (hp 1 54 rfl)
            have q55 : ev (.tmp 55) = .int .i64 (k : Int) := (he (.tmp 55)).trans (hp 2 55 rfl)
            simp only [List.getElem_toArray, List.getElem_cons_succ, List.getElem_cons_zero, execOp, Option.map_some, Option.map_none]; rw [q54, q55]
            have hk9 : (k : Int) < (n : Int) := by omega
            first | (go_simp; done) | (go_simp; rfl) | rfl
          · refine RU.ObT.pure rfl rfl rfl (fun a V hf hp ev he hc W => ?_)
            have q56 : ev (.tmp 56) = .pointer (some ⟨b, o + k * 65, none⟩) := (he (.tmp 56)).trans (hp 3 56 rfl)
            simp only [List.getElem_toArray, List.getElem_cons_succ, List.getElem_cons_zero, execOp, Option.map_some, Option.map_none]; rw [q56]
            first | (go_simp; done) | (go_simp; rfl) | rfl
          · refine RU.ObT.silent rfl (fun a W k0 V hO hf hp hk => ?_)
            have hO' : Below wr.heap.size wr W := hO
            have q57 : a.eval (.tmp 57) = .pointer (some ⟨b, o + k * 65 + 1, none⟩) := hp 4 57 rfl
            exact RU.ob_op rfl (RU.wanted_none rfl) (wp_load_mid 23 (.tmp 57) rfl (b) (o + k * 65 + 1) q57 (bv px) _ (range_below RXW.out hO' LXW.out) Tryd.underlying23 rfl (size_l32 HPX.out) ⟨rfl, hO⟩)
          · refine RU.ObT.silent rfl (fun a W k0 V hO hf hp hk => ?_)
            have hO' : Below wr.heap.size wr W := hO
            have e53 : a.eval (.tmp 53) = .agg (nc P).toArray := hp 0 53 rfl
            have e58 : a.eval (.tmp 58) = .agg (bv px).toArray := hp 5 58 rfl
            refine RU.ob_call (g := 13) (args := #[.agg (nc P).toArray, .agg (bv px).toArray]) rfl (RU.wanted_none rfl) (fun ev he hc => ?_) ((HHO.out W).mono ?_)
            · have h53 := (he (.tmp 53)).trans e53
              have h58 := (he (.tmp 58)).trans e58
              have hfn := he (.func 13)
              simp only [List.getElem_toArray, List.getElem_cons_succ, List.getElem_cons_zero, execOp, Option.map_some, Option.map_none]
              simp only [resolve, invoke, Sem.run_bind, Sem.run_pure, Result.andThen_ok, List.map_toArray, List.map_cons, List.map_nil, h53, h58, hfn, Act.eval, hc]
              rfl
            · rintro e' W9 ⟨rfl, hb2⟩
              exact ⟨_, rfl, rfl, (hO'.trans (hb2.mono hO'.size) : Below wr.heap.size wr W9)⟩
        intro W1 VW1 hOW1
        have BW1 : Hid (Below wr.heap.size wr W1) := hOW1
        clear hOW1
        simp only [RU.lay, RU.val, RU.at', tp13f, Act.put]
        simp only [List.setIfInBounds_toArray, List.set_cons_succ, List.set_cons_zero]
        have RN1 : Hid (W1.rangeAt b (o + k * 65) (nc x)) := range_below RNW.out BW1.out LXW.out
        have AP1 : Apt2 U.heap.size (W1.alloc (.cells (nc x).toArray 27)) u11 u10 ((S.take k).filter pb) ((S.take k).filter (fun x => !pb x)) := (AP.out.below BW1.out).below ((Below.refl _ W1).alloc (Nat.le_refl _) _)
        have C1 : Below U.heap.size U (W1.alloc (.cells (nc x).toArray 27)) := Below.tr' (Below.tr' BR.out BW1.out) ((Below.refl _ W1).alloc (Nat.le_refl _) _)
        have hlu : ((S.take k).filter pb).length + 1 ≤ 3000000000000 := by have := List.length_filter_le pb (S.take k); rw [List.length_take] at this; omega
        have hlo : ((S.take k).filter (fun x => !pb x)).length + 1 ≤ 3000000000000 := by have := List.length_filter_le (fun x => !pb x) (S.take k); rw [List.length_take] at this; omega
        cases g with
        | true =>
          obtain ⟨v3, w3', hr, q1, q2⟩ := AP1.swap.push HXO.out (ns_one W1 x _) hlu (fun y hy z hz => by
            rcases List.mem_append.1 hz with q | q
            · intro e
              subst e
              have a1 := (List.mem_filter.1 hy).2
              have a2 := (List.mem_filter.1 q).2
              rw [a2] at a1; cases a1
            · simp at q
              subst q
              exact HXN.out y (List.mem_filter.1 hy).1)
          have HR3 : Hid ((Builtin.append_ #[22, 22] 22 #[u11, .slice (some ⟨W1.heap.size, 0, none⟩) 1 1]).run Tryd.prog (W1.alloc (.cells (nc x).toArray 27)) = .ok v3 w3') := hr
          have AP3 : Hid (Apt2 U.heap.size w3' u10 v3 ((S.take k).filter (fun x => !pb x)) ((S.take k).filter pb ++ [x])) := q1
          have C3 : Hid (Below U.heap.size U w3') := C1.trans q2
          clear hr q1 q2 AP1 C1 hlu hlo
          go_wp2_with (first
            | (refine wpList_load_mid rfl 27 (.tmp 63) rfl b (o + k * 65) rfl (nc x) _ RN1.out Tryd.underlying27 rfl (size_nc HXO.out) ?_)
            | (refine wpList_onen rfl (.tmp 64) rfl x HXO.out rfl ?_)
            | (at_builtin; refine wp_app_run rfl (.tmp 60) (.tmp 65) 22 rfl 22 rfl u11 (.slice (some ⟨W1.heap.size, 0, none⟩) 1 1) v3 w3' rfl rfl HR3.out ?_))
          refine ⟨⟨k + 1, HLT.out, by go_num, ?_, C3.out⟩, by have := HLT.out; simp [intOf]; omega⟩
          have e1 : (S.take (k + 1)).filter pb = (S.take k).filter pb ++ [x] := by rw [HXT.out, List.filter_append]; simp [HG.out]
          have e2 : (S.take (k + 1)).filter (fun x => !pb x) = (S.take k).filter (fun x => !pb x) := by rw [HXT.out, List.filter_append]; simp [HG.out]
          rw [e1, e2]; exact AP3.out.swap
        | false =>
          obtain ⟨v3, w3', hr, q1, q2⟩ := AP1.push HXO.out (ns_one W1 x _) hlo (fun y hy z hz => by
            rcases List.mem_append.1 hz with q | q
            · intro e
              subst e
              have a1 := (List.mem_filter.1 hy).2
              have a2 := (List.mem_filter.1 q).2
              rw [a1] at a2; cases a2
            · simp at q
              subst q
              exact HXN.out y (List.mem_filter.1 hy).1)
          have HR3 : Hid ((Builtin.append_ #[22, 22] 22 #[u10, .slice (some ⟨W1.heap.size, 0, none⟩) 1 1]).run Tryd.prog (W1.alloc (.cells (nc x).toArray 27)) = .ok v3 w3') := hr
          have AP3 : Hid (Apt2 U.heap.size w3' u11 v3 ((S.take k).filter pb) ((S.take k).filter (fun x => !pb x) ++ [x])) := q1
          have C3 : Hid (Below U.heap.size U w3') := C1.trans q2
          clear hr q1 q2 AP1 C1 hlu hlo
          go_wp2_with (first
            | (refine wpList_load_mid rfl 27 (.tmp 70) rfl b (o + k * 65) rfl (nc x) _ RN1.out Tryd.underlying27 rfl (size_nc HXO.out) ?_)
            | (refine wpList_onen rfl (.tmp 71) rfl x HXO.out rfl ?_)
            | (at_builtin; refine wp_app_run rfl (.tmp 67) (.tmp 72) 22 rfl 22 rfl u10 (.slice (some ⟨W1.heap.size, 0, none⟩) 1 1) v3 w3' rfl rfl HR3.out ?_))
          refine ⟨⟨k + 1, HLT.out, by go_num, ?_, C3.out⟩, by have := HLT.out; simp [intOf]; omega⟩
          have e1 : (S.take (k + 1)).filter pb = (S.take k).filter pb := by rw [HXT.out, List.filter_append]; simp [HG.out]
          have e2 : (S.take (k + 1)).filter (fun x => !pb x) = (S.take k).filter (fun x => !pb x) ++ [x] := by rw [HXT.out, List.filter_append]; simp [HG.out]
          rw [e1, e2]; exact AP3.out
      · obtain rfl : k = n := by omega
        have eS : S.take k = S := by rw [← HLN.out]; exact List.take_length
        have APf := AP.out
        rw [eS] at APf
        obtain ⟨Un, hUn⟩ : ∃ l, S.filter pb = l := ⟨_, rfl⟩
        obtain ⟨Ot, hOt⟩ : ∃ l, S.filter (fun x => !pb x) = l := ⟨_, rfl⟩
        rw [hUn, hOt] at APf HCUP
        have HUP : Hid (Apn Un) := ⟨fun x hx => HSA.out.ok x (by rw [← hUn] at hx; exact (List.mem_filter.1 hx).1), leaf_apt Un (fun x hx => HS6.out x (by rw [← hUn] at hx; exact (List.mem_filter.1 hx).1)) (by rw [← hUn]; exact HSA.out.rsn.ris.up.sublist List.filter_sublist)⟩
        have lnU : Un.length ≤ k := by rw [← hUn, ← HLN.out]; exact List.length_filter_le _ _
        have lnO : Ot.length ≤ k := by rw [← hOt, ← HLN.out]; exact List.length_filter_le _ _
        have HUL : Hid (Un.length ≤ 2900000000000) := by show _ ≤ _; omega
        have HOL : Hid (Ot.length ≤ 2800000000000) := by show _ ≤ _; omega
        have HCM := cu_main HCUP.out.2 HSA.out
        have HAP2 : Hid (Apn (ovl Un :: Ot)) := HCM.2.1
        have HRT2 : Hid (rt (ovl Un :: Ot) = R) := (rt_cu HCUP.out.2 HSA.out HS0.out).trans HRS.out
        obtain ⟨V, hV⟩ : ∃ V, ovl Un = V := ⟨_, rfl⟩
        rw [hV] at HAP2 HRT2
        have HVO : Hid V.Ok := HAP2.out.ok V (by simp)
        have HVE : Hid (ovl Un = V) := hV
        obtain ⟨gu, cu, eu, hcu⟩ := APf.ra.sl HCUP.out.1
        have NU : Hid (NS wr u11 Un) := APf.ra.ns
        have NT : Hid (NS wr u10 Ot) := APf.rc.ns
        have HOO : Hid (∀ x ∈ Ot, x.Ok) := APf.rc.2.1
        obtain ⟨nu, hnu⟩ : ∃ m, Un.length = m := ⟨_, rfl⟩
        have hnu0 : 0 < nu := by rw [← hnu]; exact List.length_pos_iff.2 HCUP.out.1
        rw [hnu] at eu
        subst eu
        obtain ⟨ao, co, eo, -, -⟩ := id NT.out
        obtain ⟨no, hno⟩ : ∃ m, Ot.length = m := ⟨_, rfl⟩
        rw [hno] at eo
        subst eo
        have HUN : Hid (Un ≠ []) := HCUP.out.1
        have Cwr : Hid (Below w.heap.size w wr) := CU.out.trans (BR.out.mono CU.out.size)
        clear eS APf hUn hOt HCM hV hnu hno lnU lnO hcu
        go_upto_region 20 with (first
          | (go_at_call 15; refine (HCN.out Un _ wr HUP.out.ok HUL.out NU.out).mono ?_; rintro e w5 ⟨v5', rfl, g1, g2⟩; have N5' : Hid (NS w5 v5' Un) := g1; have G5 : Hid (Below wr.heap.size wr w5) := g2; have C5 : Hid (Below w.heap.size w w5) := Below.tr' Cwr.out g2; clear g1 g2)
          | (go_at_call 14; refine (HOV.out Un v5' w5 HUP.out HUN.out HUL.out N5'.out C5.out).mono ?_; rintro e w6 ⟨rfl, g1⟩; rw [HVE.out]; have G6 : Hid (Below wr.heap.size wr w6) := Below.tr' G5.out g1; have Cw6 : Hid (Below w.heap.size w w6) := Below.tr' C5.out g1; clear g1)
          | (refine wpList_store_mid rfl 27 (.tmp 14) (.tmp 89) rfl w6.heap.size 0 (nc V).toArray rfl rfl (there_new w6 (by rw [List.size_toArray, nc_length HVO.out, HZN.out])) (by rw [List.size_toArray]; exact size_nc HVO.out) (nc_one _) ?_; simp only [List.toList_toArray]))
        obtain ⟨w7, hw7⟩ : ∃ a9, (w6.alloc (.cells Zn 27)).setCells w6.heap.size 0 (nc V) = a9 := ⟨_, rfl⟩
        rw [hw7]
        obtain ⟨r1, r2, r3⟩ := laid_row (by rw [nc_length HVO.out, HZN.out]) (by rw [nc_length HVO.out]; omega) hw7
        obtain ⟨b14, hBb14⟩ : ∃ q, w6.heap.size = q := ⟨_, rfl⟩
        rw [hBb14] at r1 r3 ⊢
        have Rb14 : Hid (w7.rangeAt b14 0 (nc V)) := r1
        have Gw7 : Hid (Below w6.heap.size w6 w7) := r2
        have Cw7 : Hid (Below w.heap.size w w7) := Below.tr' Cw6.out r2
        have Lb14 : Hid (b14 < w7.heap.size) := r3
        clear r1 r2 r3 hw7 hBb14
        have NT7 : Hid (NS w7 (.slice ao no co) Ot) := NT.out.below (Below.tr' G6.out Gw7.out)
        obtain ⟨v9, w9, hr, q1, q2, -⟩ := app_own (one_own w7 HVO.out) HOO.out (NT7.out.below ((Below.refl _ w7).alloc (Nat.le_refl _) _)) (by have := HOL.out; simp only [List.length_cons, List.length_nil]; omega)
        have HR9 : Hid ((Builtin.append_ #[22, 22] 22 #[.slice (some ⟨w7.heap.size, 0, none⟩) 1 1, .slice ao no co]).run Tryd.prog (w7.alloc (.cells (nc V).toArray 27)) = .ok v9 w9) := hr
        have N9 : Hid (NS w9 v9 (V :: Ot)) := q1.ns
        have G79 : Hid (Below w7.heap.size w7 w9) := ((Below.refl _ w7).alloc (Nat.le_refl _) _).trans q2
        have C9 : Hid (Below w.heap.size w w9) := Below.tr' Cw7.out G79.out
        have HL9 : Hid ((V :: Ot).length ≤ 2900000000000) := by show _ ≤ _; have := HOL.out; simp only [List.length_cons]; omega
        clear hr q1 q2
        have hz2 := zero_32
        rw [show List.replicate 32 (0 : Int) = z32 from rfl] at hz2
        obtain ⟨Z2, hZ2⟩ : ∃ Z, (bv z32).toArray = Z := ⟨_, rfl⟩
        have HZS2 : Hid (Z2.size = 32) := by show Z2.size = 32; rw [← hZ2]; simp [bv, z32]
        rw [hZ2] at hz2
        clear hZ2
        go_upto_region 21 with (first
          | (refine wpList_load_mid rfl 27 (.tmp 14) rfl b14 0 rfl (nc V) _ Rb14.out Tryd.underlying27 rfl (size_nc HVO.out) ?_)
          | (refine wpList_onen rfl (.tmp 92) rfl V HVO.out rfl ?_)
          | (at_builtin; refine wp_app_run rfl (.tmp 93) (.tmp 94) 22 rfl 22 rfl (.slice (some ⟨w7.heap.size, 0, none⟩) 1 1) (.slice ao no co) v9 w9 rfl rfl HR9.out ?_)
          | (go_at_call 17; refine (HRT.out (V :: Ot) v9 w9 HAP2.out HL9.out HRT2.out N9.out C9.out).mono ?_; rintro e wa ⟨rfl, g1⟩; have Ga : Hid (Below w9.heap.size w9 wa) := g1; have Cwa : Hid (Below w.heap.size w wa) := Below.tr' C9.out g1; clear g1)
          | (refine wpList_store_mid rfl 23 (.tmp 16) (.tmp 97) rfl wa.heap.size 0 (bv R).toArray rfl rfl (there_new wa (by rw [List.size_toArray, bv_length, HRL.out.len, HZS2.out])) (by rw [List.size_toArray]; exact size_l32 HRL.out) (bv_one' _) ?_; simp only [List.toList_toArray]))
        obtain ⟨wb, hwb⟩ : ∃ a9, (wa.alloc (.cells Z2 23)).setCells wa.heap.size 0 (bv R) = a9 := ⟨_, rfl⟩
        rw [hwb]
        obtain ⟨r1, r2, r3⟩ := laid_row (by rw [bv_length, HRL.out.len, HZS2.out]) (by rw [bv_length, HRL.out.len]; omega) hwb
        obtain ⟨b16, hBb16⟩ : ∃ q, wa.heap.size = q := ⟨_, rfl⟩
        rw [hBb16] at r1 r3 ⊢
        have Rb16 : Hid (wb.rangeAt b16 0 (bv R)) := r1
        have Gwb : Hid (Below wa.heap.size wa wb) := r2
        have Cwb : Hid (Below w.heap.size w wb) := Below.tr' Cwa.out r2
        have Lb16 : Hid (b16 < wb.heap.size) := r3
        clear r1 r2 r3 hwb hBb16
        have R8b : Hid (wb.rangeAt b8 0 (bv R)) := range_below R8U.out (Below.tr' BR.out (Below.tr' (Below.tr' G6.out Gw7.out) (Below.tr' G79.out (Below.tr' Ga.out Gwb.out)))) L8U.out
        go_wp2_with (first
          | (refine ld 23 (.tmp 16) rfl rfl b16 0 rfl (bv R) _ Rb16.out Tryd.underlying23 rfl (size_l32 HRL.out) ?_)
          | (refine ld 23 (.tmp 8) rfl rfl b8 0 rfl (bv R) _ R8b.out Tryd.underlying23 rfl (size_l32 HRL.out) ?_)
          | (refine wp_eq_run 23 23 (.tmp 110) (.tmp 111) rfl rfl (.agg (bv R).toArray) (.agg (bv R).toArray) (.bool true) rfl rfl (eqg_32 _ _ _ _ _ wb) ((eql_32 HRL.out HRL.out wb).trans (by simp)) ?_))
        go_ret
        exact ⟨rfl, Cwb.out⟩
end Go.Proofs.YtkeobajlikhghaaDoor
