/- Package tree: leafNodes, where sorting is as it should be. -/
import Derived.Test.YtpojalbpekbfdaaDoorTrsB
import Derived.Test.YtpojalbpekbfdaaDoorTreZ
import Derived.Test.YtpojalbpekbfdaaDoorTraB
namespace Go.Proofs.YtpojalbpekbfdaaDoor
open Go Go.RowKit
set_option linter.unusedSimpArgs false
set_option linter.unusedVariables false
set_option maxRecDepth 100000

/-- What sorting nodes gives. -/
def SortC : Prop := ∀ (B : Nat) (w : World) (v : Value) (l : List Nd), NO B w v l → l.length ≤ 3000000000000 →
  Calls Tryd.prog 44 #[v, .func (.func 68) #[] #[]] w fun e w' => e = .returned (.tuple #[]) ∧ ∃ s, s.Perm l ∧ s.Pairwise (fun a b => pf a.p 256 ≤ pf b.p 256) ∧ NS w' v s ∧ Below B w w'
theorem take_ln {ls : List Lf} {k : Nat} {x : Lf} (hx : ls[k]? = some x) : (ls.take (k + 1)).map ln = (ls.take k).map ln ++ [ln x] := by
  obtain ⟨h, rfl⟩ := List.getElem?_eq_some_iff.1 hx
  rw [List.take_succ_eq_append_getElem h, List.map_append]; rfl
/-- What leafNodes gives. -/
def LNo (ls : List Lf) (v' : Value) (er : Int) (w' : World) : Prop := (okl ls ∧ er = 0 ∧ NS w' v' (so ls)) ∨ (¬ okl ls ∧ er = 1 ∧ v' = .slice none 0 0)
set_option maxHeartbeats 4000000 in
theorem leafNodes_core (HS : SortC) (ls : List Lf) (hk : ∀ x ∈ ls, x.Ok) (hlen : ls.length ≤ 2500000000000) (v : Value) (w : World) (hv : LS w v ls) (hT : Tb w) :
    Calls Tryd.prog 61 #[v] w fun e w' => ∃ v' er, e = .returned (.tuple #[v', .int .i64 er]) ∧ LNo ls v' er w' ∧ Below w.heap.size w w' := by
  have HSO : Hid SortC := HS
  obtain ⟨ad, cap, rfl, hc, hx⟩ := hv
  have HXX : Hid (ls = [] ∧ (ad = none → cap = 0) ∨ ∃ b o, ad = some ⟨b, o, none⟩ ∧ b < w.heap.size ∧ ∀ (i : Nat) (x : Lf), ls[i]? = some x → w.rangeAt b (o + i * 64) (lfc x)) := hx
  have HK : Hid (∀ x ∈ ls, x.Ok) := hk
  have HT : Hid (Tb w) := hT
  obtain ⟨len, hln⟩ : ∃ len, ls.length = len := ⟨_, rfl⟩
  have HLN : Hid (ls.length = len) := hln
  have HLE : Hid (len ≤ 2500000000000) := by rw [← hln]; exact hlen
  rw [hln]
  have hz := zero_lf
  obtain ⟨Z, hZ⟩ : ∃ Z, (lfc lfz).toArray = Z := ⟨_, rfl⟩
  have HZS : Hid (Z.size = 64) := by show Z.size = 64; rw [← hZ, List.size_toArray]; exact lfc_length lfz_ok
  rw [hZ] at hz
  obtain ⟨w0, hmk, mk1, mk2⟩ := make_own w len (by have := HLE.out; omega)
  have MK1 : Hid (NO w.heap.size w0 (.slice (some ⟨w.heap.size, 0, none⟩) 0 len) []) := mk1
  have MK2 : Hid (Below w.heap.size w w0) := mk2
  have HMN : Hid (∀ (s : List Nd) (W : World) (v : Value), (∀ x ∈ s, x.Ok) → s.length ≤ 140737488355328 → NS W v s → Calls Tryd.prog 28 #[v] W fun e w' => e = .returned (.bool (apt s)) ∧ Below W.heap.size W w') := fun s W v h1 h2 h3 => Apart_any s h1 v W h3 h2
  clear hx hk hT hc hln hlen mk1 mk2 hZ
  go_enter Tryd.func61, Tryd.ntmps61
  go_wp2_with fail
  go_loopw [4, 12] (fun nv i wr => ∃ k : Nat, k ≤ len ∧ i = .int .i64 (k : Int) ∧ NO w.heap.size wr nv ((ls.take k).map ln) ∧ Below w.heap.size w wr) (fun _ i _ => len - (intOf i).toNat)
  case atStart => exact ⟨0, Nat.zero_le _, rfl, MK1.out, MK2.out⟩
  case round =>
    obtain ⟨k, hkl, rfl, hno, h4⟩ := hrel
    have H4 : Hid (Below w.heap.size w wr) := h4
    have HNO : Hid (NO w.heap.size wr u4 ((ls.take k).map ln)) := hno
    clear h4 hno hmk
    by_cases hlt : k < len
    · rcases HXX.out with ⟨h0, _⟩ | ⟨b, o, rfl, hlb, hm⟩
      · have := HLN.out; rw [h0] at this; simp at this; omega
      · obtain ⟨x, hx⟩ : ∃ x, ls[k]? = some x := ⟨ls[k]'(by have := HLN.out; omega), List.getElem?_eq_getElem _⟩
        have HX : Hid x.Ok := HK.out x (List.mem_of_getElem? hx)
        obtain ⟨y, hy⟩ : ∃ y, ln x = y := ⟨_, rfl⟩
        have HTK : Hid ((ls.take (k + 1)).map ln = (ls.take k).map ln ++ [y]) := by rw [← hy]; exact take_ln hx
        have HYO : Hid y.Ok := by rw [← hy]; exact ln_ok HX.out
        have HRX : Hid (wr.rangeAt b (o + k * 64) (lfc x)) := range_below (hm k x hx) H4.out hlb
        have HLF : Hid (∀ W : World, Tb W → Calls Tryd.prog 47 #[.agg (lfc x).toArray] W fun e w' => e = .returned (.agg (nc y).toArray) ∧ Below W.heap.size W w') := fun W q => by rw [← hy]; exact leafNode_any x.p x.q HX.out.p HX.out.q W q
        have HTL : Hid (((ls.take k).map ln).length = k) := by show _ = _; rw [List.length_map, List.length_take]; have := HLN.out; omega
        obtain ⟨X, hX⟩ : ∃ X, (lfc x).toArray = X := ⟨_, rfl⟩
        have HXA : Hid ((lfc x).toArray = X) := hX
        obtain ⟨L, hL⟩ : ∃ L, (ls.take k).map ln = L := ⟨_, rfl⟩
        rw [hL] at HTK HNO HTL
        have hl2 := HLE.out
        clear hm hlb hx hy hL
        go_upto_region 5 with (first
          | (refine load_g rfl 46 (.tmp 14) rfl b (o + k * 64) rfl (lfc x) _ HRX.out Tryd.underlying46 rfl (size_lfc HX.out) ?_; rw [hX])
          | (refine wpList_store_mid rfl 46 (.tmp 6) (.tmp 15) rfl wr.heap.size 0 (lfc x).toArray rfl (by rw [HXA.out]; rfl) (there_new wr (by rw [List.size_toArray, lfc_length HX.out, HZS.out])) (by rw [List.size_toArray]; exact size_lfc HX.out) (lfc_one x) ?_; simp only [List.toList_toArray]))
        obtain ⟨U, hU⟩ : ∃ U, (wr.alloc (.cells Z 46)).setCells wr.heap.size 0 (lfc x) = U := ⟨_, rfl⟩
        rw [hU]
        obtain ⟨r1, r2, r3⟩ := laid_row (by rw [lfc_length HX.out, HZS.out]) (by rw [lfc_length HX.out]; omega) hU
        have RU' : Hid (U.rangeAt wr.heap.size 0 (lfc x)) := r1
        have CU : Hid (Below w.heap.size w U) := H4.out.trans (r2.mono H4.out.size)
        have NU : Hid (NO w.heap.size U u4 L) := HNO.out.below r2
        have TU : Hid (Tb U) := HT.out.below CU.out
        clear r1 r2 r3 hU hX
        go_wp2_with (first
          | (refine ld 46 (.tmp 6) rfl rfl wr.heap.size 0 rfl (lfc x) _ RU'.out Tryd.underlying46 rfl (size_lfc HX.out) ?_)
          | (go_at_call 47; refine (HLF.out U TU.out).mono ?_; rintro e w1 ⟨rfl, g1⟩; have C1 : Hid (Below w.heap.size w w1) := CU.out.trans (g1.mono CU.out.size); have N1 : Hid (NO w.heap.size w1 u4 L) := NU.out.below g1; clear g1)
          | (refine wpList_onen rfl (.tmp 18) rfl y HYO.out rfl ?_)
          | (at_builtin; refine wp_appn rfl (.tmp 16) (.tmp 19) rfl rfl w.heap.size u4 (.slice (some ⟨w1.heap.size, 0, none⟩) 1 1) L [y] rfl rfl (N1.out.alloc _) (fun z hz => by simp at hz; subst hz; exact HYO.out) (ns_one w1 y _) (by have h1 := HTL.out; have h2 := HLE.out; simp only [List.length_cons, List.length_nil]; omega) ?_; intro v2 w2 g1 g2; have N2 : Hid (NO w.heap.size w2 v2 ((ls.take (k + 1)).map ln)) := by rw [HTK.out]; exact g1
             have C2 : Hid (Below w.heap.size w w2) := (C1.out.alloc C1.out.size _).trans g2
             clear g1 g2))
        exact ⟨⟨k + 1, by omega, by go_num, N2.out, C2.out⟩, by simp [intOf]; omega⟩
    · obtain rfl : k = len := by omega
      have HTA : Hid ((ls.take k).map ln = ls.map ln) := by show _ = _; rw [← HLN.out, List.take_length]
      have HSC : Hid (Calls Tryd.prog 44 #[u4, .func (.func 68) #[] #[]] wr fun e w' => e = .returned (.tuple #[]) ∧ ∃ s, s.Perm (ls.map ln) ∧ s.Pairwise (fun a b => pf a.p 256 ≤ pf b.p 256) ∧ NS w' u4 s ∧ Below w.heap.size wr w') := by
        have := HNO.out; rw [HTA.out] at this
        exact HSO.out w.heap.size wr u4 (ls.map ln) this (by rw [List.length_map]; have h1 := HLN.out; have h2 := HLE.out; omega)
      go_upto_region 8 with (go_at_call 44; refine HSC.out.mono ?_; rintro e w1 ⟨rfl, s, g1, g2, g3, g4⟩; have P1 : Hid (s.Perm (ls.map ln)) := g1; have P2 : Hid (s.Pairwise (fun a b => pf a.p 256 ≤ pf b.p 256)) := g2; have N1 : Hid (NS w1 u4 s) := g3; have C1 : Hid (Below w.heap.size w w1) := H4.out.trans g4; clear g1 g2 g3 g4)
      have hsl : s.length ≤ 140737488355328 := by have := P1.out.length_eq; rw [List.length_map] at this; have h1 := HLN.out; have h2 := HLE.out; omega
      have HAC := HMN.out s w1 u4 (fun x hx => (map_ok HK.out P1.out x hx).1) hsl N1.out
      cases ha : apt s with
      | true =>
        rw [ha] at HAC
        have HAP : Hid (Calls Tryd.prog 28 #[u4] w1 fun e w' => e = .returned (.bool true) ∧ Below w1.heap.size w1 w') := HAC
        obtain ⟨o1, o2⟩ := so_uniq HK.out P1.out ha
        have HO1 : Hid (okl ls) := o1
        have HO2 : Hid (so ls = s) := o2
        clear HAC ha hsl o1 o2
        go_wp2_with (go_at_call 28; refine HAP.out.mono ?_; rintro e w2 ⟨rfl, g1⟩; have B2 : Hid (Below w1.heap.size w1 w2) := g1; clear g1)
        go_ret2
        exact ⟨_, _, rfl, .inl ⟨HO1.out, rfl, by rw [HO2.out]; exact N1.out.below B2.out⟩, C1.out.trans (B2.out.mono C1.out.size)⟩
      | false =>
        rw [ha] at HAC
        have HAP : Hid (Calls Tryd.prog 28 #[u4] w1 fun e w' => e = .returned (.bool false) ∧ Below w1.heap.size w1 w') := HAC
        have HO1 : Hid (¬ okl ls) := fun q => by have := (sorted_apt HK.out P1.out P2.out q).1; rw [ha] at this; cases this
        clear HAC ha hsl
        go_wp2_with (go_at_call 28; refine HAP.out.mono ?_; rintro e w2 ⟨rfl, g1⟩; have B2 : Hid (Below w1.heap.size w1 w2) := g1; clear g1)
        go_ret2
        exact ⟨_, _, rfl, .inr ⟨HO1.out, rfl, rfl⟩, C1.out.trans (B2.out.mono C1.out.size)⟩
end Go.Proofs.YtpojalbpekbfdaaDoor
/- Plain mathematics: openings of a tree at a label. -/
namespace Go.Proofs.YtpojalbpekbfdaaDoor
open Go Go.RowKit
set_option linter.unusedSimpArgs false
set_option linter.unusedVariables false
set_option maxRecDepth 100000

/-- How many first bits a node's Prefix has in common with a label. -/
def cmy (y : List Int) (x : Nd) : Nat := cm x.p y 256
/-- How many of the first leave the way at one bit. -/
def lvg (y : List Int) (l : List Nd) : Nat := (l.takeWhile (fun x => decide (cmy y x = cm (hp l) y 256))).length
def opn (y : List Int) : Nat → List Nd → List Nd
  | 0, _ => []
  | _ + 1, [] => []
  | f + 1, x :: r => ovl ((x :: r).take (lvg y (x :: r))) :: opn y f ((x :: r).drop (lvg y (x :: r)))
/-- The opening of nodes that rise at a label. -/
def opl (y : List Int) (l : List Nd) : List Nd := opn y l.length l
theorem lvg_pos (y : List Int) (x : Nd) (r : List Nd) : 1 ≤ lvg y (x :: r) := by
  unfold lvg
  rw [List.takeWhile_cons, if_pos (by simp [hp, cmy]), List.length_cons]
  omega
theorem lvg_le (y : List Int) (l : List Nd) : lvg y l ≤ l.length := (List.takeWhile_sublist _).length_le
theorem opn_nil (y : List Int) : ∀ f, opn y f [] = []
  | 0 => rfl
  | _ + 1 => rfl
theorem opn_fuel (y : List Int) : ∀ (f g : Nat) (l : List Nd), l.length ≤ f → l.length ≤ g → opn y f l = opn y g l
  | 0, g, l, hf, _ => by rw [List.length_eq_zero_iff.1 (Nat.le_zero.1 hf), opn_nil, opn_nil]
  | f + 1, 0, l, _, hg => by rw [List.length_eq_zero_iff.1 (Nat.le_zero.1 hg), opn_nil, opn_nil]
  | f + 1, g + 1, [], _, _ => rfl
  | f + 1, g + 1, x :: r, hf, hg => by
    have h1 := lvg_pos y x r
    have h2 : ((x :: r).drop (lvg y (x :: r))).length = r.length + 1 - lvg y (x :: r) := by rw [List.length_drop]; rfl
    simp only [List.length_cons] at hf hg
    simp only [opn]
    rw [opn_fuel y f g _ (by omega) (by omega)]
theorem opl_nil (y : List Int) : opl y [] = [] := rfl
theorem opl_cons (y : List Int) {l : List Nd} (h : l ≠ []) : opl y l = ovl (l.take (lvg y l)) :: opl y (l.drop (lvg y l)) := by
  cases l with
  | nil => exact absurd rfl h
  | cons x r =>
    have h1 := lvg_pos y x r
    have h2 : ((x :: r).drop (lvg y (x :: r))).length = r.length + 1 - lvg y (x :: r) := by rw [List.length_drop]; rfl
    show opn y (r.length + 1) (x :: r) = _
    simp only [opn, opl]
    rw [opn_fuel y r.length _ _ (by omega) (Nat.le_refl _)]
theorem tw_app {p : Nd → Bool} {b : List Nd} (hb : ∀ z ∈ b, p z = false) : ∀ a : List Nd, ((a ++ b).takeWhile p).length = (a.takeWhile p).length
  | [] => by
    cases b with
    | nil => rfl
    | cons z s => rw [List.nil_append, List.takeWhile_cons, if_neg (by rw [hb z List.mem_cons_self]; decide)]; rfl
  | x :: r => by
    rw [List.cons_append, List.takeWhile_cons, List.takeWhile_cons]
    cases p x with
    | false => rfl
    | true => simp only [if_true, List.length_cons]; rw [tw_app hb r]
theorem tw_all {p : Nd → Bool} : ∀ {a : List Nd}, (∀ z ∈ a, p z = true) → (a.takeWhile p).length = a.length
  | [], _ => rfl
  | x :: r, h => by
    rw [List.takeWhile_cons, if_pos (h x List.mem_cons_self), List.length_cons, tw_all (fun z hz => h z (List.mem_cons_of_mem _ hz)), List.length_cons]
theorem opl_app (y : List Int) : ∀ (n : Nat) (a b : List Nd), a.length ≤ n → (∀ x ∈ a, ∀ z ∈ b, cmy y x ≠ cmy y z) → opl y (a ++ b) = opl y a ++ opl y b
  | _, [], b, _, _ => by rw [List.nil_append, opl_nil, List.nil_append]
  | 0, x :: r, b, h, _ => absurd h (by simp)
  | n + 1, x :: r, b, hn, h => by
    have e : lvg y ((x :: r) ++ b) = lvg y (x :: r) := by
      unfold lvg
      rw [show hp ((x :: r) ++ b) = hp (x :: r) from rfl]
      exact tw_app (fun z hz => by rw [decide_eq_false_iff_not]; intro g; exact h x List.mem_cons_self z hz g.symm) _
    have k1 := lvg_pos y x r
    have k2 := lvg_le y (x :: r)
    rw [opl_cons y (l := (x :: r) ++ b) (by simp), opl_cons y (l := x :: r) (by simp), e, List.take_append_of_le_length k2, List.drop_append_of_le_length k2, List.cons_append,
      opl_app y n _ b (by rw [List.length_drop]; simp only [List.length_cons] at hn k2 ⊢; omega) (fun q hq z hz => h q (List.mem_of_mem_drop hq) z hz)]
theorem opl_same (y : List Int) {l : List Nd} {c : Nat} (hne : l ≠ []) (h : ∀ x ∈ l, cmy y x = c) : opl y l = [ovl l] := by
  have e : lvg y l = l.length := by
    unfold lvg
    refine tw_all (fun z hz => ?_)
    rw [decide_eq_true_iff, h z hz]
    cases l with
    | nil => exact absurd rfl hne
    | cons x r => exact (h x List.mem_cons_self).symm
  rw [opl_cons y hne, e, List.take_length, List.drop_length, opl_nil]
/-- What a reading from above leaves: all that no wanted node holds. -/
def wo (hd : Nd → Bool) (own : Bool) : Nat → List Nd → List Nd
  | 0, _ => []
  | _ + 1, [] => []
  | f + 1, x :: r => if hd (ovl (x :: r)) = false ∨ (r = [] ∧ own = true) then [ovl (x :: r)] else if r = [] then [] else wo hd own f ((x :: r).take (cut (cl (x :: r)) (x :: r))) ++ wo hd own f ((x :: r).drop (cut (cl (x :: r)) (x :: r)))
theorem wo_nil (hd : Nd → Bool) (own : Bool) : ∀ f, wo hd own f [] = []
  | 0 => rfl
  | _ + 1 => rfl
theorem fb_fb {x : List Int} (h : L32 x) (n : Nat) : fb (fb x n) n = fb x n :=
  l32_of_bits (fb_l32 (fb_l32 h n) n) (fb_l32 h n) (fun i hi => by rw [bt_fb (fb_l32 h n) n i hi, bt_fb h n i hi]; split <;> rfl)
theorem ovl_two {l : List Nd} (h : Ris l) (h2 : 2 ≤ l.length) : (ovl l).n = (cl l : Nat) ∧ (ovl l).p = fb (hp l) (cl l) := by
  obtain ⟨f, hf⟩ : ∃ f, l.length = f + 1 := ⟨l.length - 1, by omega⟩
  unfold ovl
  rw [hf]
  simp only [ov]
  rw [if_neg (by omega)]
  exact ⟨rfl, rfl⟩
theorem hp_l32 {l : List Nd} (h : Ris l) (hne : l ≠ []) : L32 (hp l) := by
  cases l with
  | nil => exact absurd rfl hne
  | cons x r => exact (h.ok x List.mem_cons_self).p
/-- The node over two or more holds a label that begins as they all do. -/
theorem hl_ovl {l : List Nd} (h : Ris l) (h2 : 2 ≤ l.length) (y : List Int) : hl (ovl l) y = true ↔ Shr (hp l) y (cl l) := by
  obtain ⟨e1, e2⟩ := ovl_two h h2
  have hc := h.cl_lt h2
  have hp32 := hp_l32 h (fun e => by rw [e] at h2; simp at h2)
  have g : gd (ovl l) = true := gd_iff.2 ⟨by rw [e1]; omega, by rw [e1]; omega, by rw [e1, e2, Int.toNat_natCast]; exact fb_fb hp32 _⟩
  unfold hl
  rw [g, Bool.true_and, decide_eq_true_iff, e1, e2, Int.toNat_natCast, cm_ge (by omega)]
  constructor
  · intro q i hi; have := q i hi; rwa [bt_fb hp32 _ i (by omega), if_pos hi] at this
  · intro q i hi; rw [bt_fb hp32 _ i (by omega), if_pos hi]; exact q i hi
theorem Ris.shr {l : List Nd} (h : Ris l) (h2 : 2 ≤ l.length) {x : Nd} (hx : x ∈ l) : Shr x.p (hp l) (cl l) := by
  obtain ⟨i, hi, rfl⟩ := List.getElem_of_mem hx
  exact sh_of_pf (h.share h2 (List.getElem?_eq_getElem hi))
theorem mem_lo {l : List Nd} {c : Nat} {x : Nd} (hx : x ∈ l.take (cut c l)) : bt x.p c = 0 := by
  obtain ⟨i, hi, rfl⟩ := List.getElem_of_mem hx
  have hi' := hi
  rw [List.length_take] at hi'
  refine cut_lo c l i _ ?_ (by omega)
  rw [← List.getElem?_eq_getElem hi, List.getElem?_eq_getElem hi, ← List.getElem?_eq_getElem hi, List.getElem?_take, if_pos (by omega), List.getElem?_eq_getElem (by omega)]
theorem mem_hi {l : List Nd} (h : Ris l) (h2 : 2 ≤ l.length) {x : Nd} (hx : x ∈ l.drop (cut (cl l) l)) : bt x.p (cl l) = 1 := by
  obtain ⟨i, hi, rfl⟩ := List.getElem_of_mem hx
  have hi' := hi
  rw [List.length_drop] at hi'
  exact h.cut_hi h2 (i := cut (cl l) l + i) (by rw [List.getElem?_eq_getElem (by omega), List.getElem_drop]) (by omega)
/-- Both readings of an opening are one. -/
theorem wo_opl (y : List Int) : ∀ (f : Nat) (l : List Nd), Ris l → l.length ≤ f → wo (fun n => hl n y) true f l = opl y l
  | 0, l, _, hf => by rw [List.length_eq_zero_iff.1 (Nat.le_zero.1 hf)]; rfl
  | f + 1, [], _, _ => rfl
  | f + 1, x :: r, h, hf => by
    simp only [wo]
    by_cases hr : r = []
    · subst hr
      rw [if_pos (.inr ⟨rfl, by trivial⟩)]
      exact (opl_same y (c := cmy y x) (by simp) (fun z hz => by simp at hz; rw [hz])).symm
    · have h2 : 2 ≤ (x :: r).length := by have := List.length_pos_iff.2 hr; simp only [List.length_cons]; omega
      obtain ⟨l, hl'⟩ : ∃ l, x :: r = l := ⟨_, rfl⟩
      have hne : l ≠ [] := by rw [← hl']; simp
      rw [hl'] at h h2 hf ⊢
      have hc := h.cl_lt h2
      by_cases hh : hl (ovl l) y = true
      · rw [if_neg (by rw [hh]; rintro (q | q); · cases q
                       · exact hr q.1), if_neg hr]
        obtain ⟨k1, k2⟩ := h.cut_in h2
        have hsh := (hl_ovl h h2 y).1 hh
        rw [wo_opl y f _ (h.sub (List.take_sublist _ _)) (by rw [List.length_take]; omega), wo_opl y f _ (h.sub (List.drop_sublist _ _)) (by rw [List.length_drop]; omega),
          ← opl_app y _ _ _ (Nat.le_refl _) ?_, List.take_append_drop]
        intro a ha b hb
        have a0 := mem_lo ha
        have b0 := mem_hi h h2 hb
        have sa : Shr a.p y (cl l) := fun i hi => (h.shr h2 (List.mem_of_mem_take ha) i hi).trans (hsh i hi)
        have sb : Shr b.p y (cl l) := fun i hi => (h.shr h2 (List.mem_of_mem_drop hb) i hi).trans (hsh i hi)
        have la : cl l ≤ cmy y a := (cm_ge (by omega)).2 sa
        have lb : cl l ≤ cmy y b := (cm_ge (by omega)).2 sb
        intro e
        rcases Nat.lt_or_eq_of_le la with q | q
        · have e1 := cm_sh a.p y 256 (cl l) q
          have e2 := cm_sh b.p y 256 (cl l) (by unfold cmy at e q; omega)
          omega
        · have e1 : bt a.p (cl l) ≠ bt y (cl l) := by have := cm_ne (a := a.p) (b := y) (m := 256) (by unfold cmy at q; omega); rwa [show cm a.p y 256 = cl l from q.symm] at this
          have e2 : bt b.p (cl l) ≠ bt y (cl l) := by have := cm_ne (a := b.p) (b := y) (m := 256) (by unfold cmy at e q; omega); rwa [show cm b.p y 256 = cl l by unfold cmy at e q; omega] at this
          have := bt_le y (cl l)
          omega
      · rw [if_pos (.inl (by simpa using hh))]
        have hn : ¬ Shr (hp l) y (cl l) := fun q => hh ((hl_ovl h h2 y).2 q)
        have hlt : cm (hp l) y 256 < cl l := by
          rcases Nat.lt_or_ge (cm (hp l) y 256) (cl l) with q | q
          · exact q
          · exact absurd ((cm_ge (by omega)).1 q) hn
        refine (opl_same y (c := cm (hp l) y 256) hne (fun z hz => ?_)).symm
        have hz := h.shr h2 hz
        refine cm_uniq (by omega) (fun i hi => (hz i (by omega)).trans (cm_sh (hp l) y 256 i hi)) (fun _ => ?_)
        rw [hz _ hlt]
        exact cm_ne (by omega)
end Go.Proofs.YtpojalbpekbfdaaDoor
/- Package tree: slices.IndexFunc over nodes, and its closures. -/
namespace Go.Proofs.YtpojalbpekbfdaaDoor
open Go Go.RowKit
set_option linter.unusedSimpArgs false
set_option linter.unusedVariables false
set_option maxRecDepth 100000

/-- The first place where a test holds, or -1. -/
def ixf (f : Nd → Bool) (l : List Nd) : Int := match l.findIdx? f with | some i => (i : Int) | none => -1
theorem ixf_at {f : Nd → Bool} {l : List Nd} {k : Nat} {x : Nd} (hx : l[k]? = some x) (h : f x = true) (hlo : ∀ (j : Nat) (y : Nd), j < k → l[j]? = some y → f y = false) : ixf f l = (k : Int) := by
  obtain ⟨hk, rfl⟩ := List.getElem?_eq_some_iff.1 hx
  have : l.findIdx? f = some k := List.findIdx?_eq_some_iff_getElem.2 ⟨hk, h, fun j hj => by rw [hlo j _ hj (List.getElem?_eq_getElem (by omega))]; decide⟩
  unfold ixf; rw [this]
theorem ixf_none {f : Nd → Bool} {l : List Nd} (h : ∀ x ∈ l, f x = false) : ixf f l = -1 := by
  have : l.findIdx? f = none := List.findIdx?_eq_none_iff.2 h
  unfold ixf; rw [this]
/-- An operation of two whose run is known. -/
theorem wp_bin_run {P : Program} {ops : Array Oper} {rest : List Oper} {o : Oper} {a : Act} {w : World} {Q : Exit → Act → World → Prop} (op : BinOp) (t t' : TypeId) (x y : Operand) (ho : o.op = .binOp op t x y t') (hw : Region.wanted o (yielded ops a.tmps) = true) (v u r : Value) (hx : a.eval x = v) (hy : a.eval y = u)
    (hg : (eqGuard op t x y v u).run P w = .ok () w) (hr : (binOp op t v u).run P w = .ok r w) (h : wpList P ops Q rest (a.put o.dst r) w) : wpList P ops Q (o :: rest) a w := by
  unfold wpList
  rw [if_pos hw]
  refine .inl ?_
  unfold Oper.wp execOp
  simp only [ho, hx, hy, Sem.run_bind, hg, hr, Result.andThen_ok, Sem.run_pure]
  exact h
end Go.Proofs.YtpojalbpekbfdaaDoor
/- Package tree: Found. -/
namespace Go.Proofs.YtpojalbpekbfdaaDoor
open Go Go.RowKit
set_option linter.unusedSimpArgs false
set_option linter.unusedVariables false
set_option maxRecDepth 100000

/-- What nodes tell of a label under a root. -/
def fnd (r : List Int) (l : List Nd) (y : List Int) : List Int × Bool × Int :=
  if apt l = true then (if rt l = r then (match l.find? (fun x => hl x y) with | none => (z32, false, 0) | some x => if x.n = 256 then (x.h, true, 0) else (z32, false, 2)) else (z32, false, 3)) else (z32, false, 1)
theorem rz_l32 (l : List Nd) : L32 (if apt l = true then rt l else z32) := by
  split
  · exact rt_l32 l
  · exact z32_l32
/-- Three blocks laid ahead. -/
theorem three_blocks (w : World) (a b : List Value) (Z : Array Value) (s t u : TypeId) :
    ((((w.alloc (.cells a.toArray s)).alloc (.cells b.toArray t)).alloc (.cells Z u))).rangeAt w.heap.size 0 a ∧
    ((((w.alloc (.cells a.toArray s)).alloc (.cells b.toArray t)).alloc (.cells Z u))).rangeAt (w.heap.size + 1) 0 b ∧
    ((((w.alloc (.cells a.toArray s)).alloc (.cells b.toArray t)).alloc (.cells Z u))).heap[w.heap.size + 2]? = some (.cells Z u (0, 0)) ∧
    ((((w.alloc (.cells a.toArray s)).alloc (.cells b.toArray t)).alloc (.cells Z u))).heap.size = w.heap.size + 3 ∧
    Below w.heap.size w ((((w.alloc (.cells a.toArray s)).alloc (.cells b.toArray t)).alloc (.cells Z u))) := by
  have r1 := range_alloc w a s (0, 0)
  obtain ⟨w1, h1⟩ : ∃ w1, w.alloc (.cells a.toArray s) = w1 := ⟨_, rfl⟩
  have s1 : w1.heap.size = w.heap.size + 1 := by rw [← h1]; simp
  have b1 : Below w.heap.size w w1 := by rw [← h1]; exact (Below.refl _ w).alloc (Nat.le_refl _) _
  rw [h1] at r1 ⊢
  have r2 := range_alloc w1 b t (0, 0)
  obtain ⟨w2, h2⟩ : ∃ w2, w1.alloc (.cells b.toArray t) = w2 := ⟨_, rfl⟩
  have s2 : w2.heap.size = w1.heap.size + 1 := by rw [← h2]; simp
  have b2 : Below w1.heap.size w1 w2 := by rw [← h2]; exact (Below.refl _ w1).alloc (Nat.le_refl _) _
  rw [h2] at r2 ⊢
  have s3 : (w2.alloc (.cells Z u)).heap.size = w2.heap.size + 1 := by simp
  have b3 : Below w2.heap.size w2 (w2.alloc (.cells Z u)) := (Below.refl _ w2).alloc (Nat.le_refl _) _
  have r3 : (w2.alloc (.cells Z u)).heap[w2.heap.size]? = some (.cells Z u (0, 0)) := by show (w2.heap.push _)[w2.heap.size]? = _; simp
  refine ⟨range_below (range_below r1 b2 (by omega)) b3 (by omega), ?_, ?_, by omega, b1.trans ((b2.trans (b3.mono b2.size)).mono b1.size)⟩
  · rw [s1] at r2; exact range_below r2 b3 (by omega)
  · rw [show w.heap.size + 2 = w2.heap.size by omega]; exact r3
theorem Below.tr' {a b c : World} (h1 : Below a.heap.size a b) (h2 : Below b.heap.size b c) : Below a.heap.size a c := h1.trans (h2.mono h1.size)
end Go.Proofs.YtpojalbpekbfdaaDoor
