/- Steps and their bytes undo each other. -/
import Derived.Test.YtfnmdeekenjlgaaWsS
namespace Go.Proofs.Ytfnmdeekenjlgaa
open Go Go.RowKit
set_option linter.unusedSimpArgs false
set_option linter.unusedVariables false
set_option maxRecDepth 100000

theorem cut_cut (xs : List Int) (o n p q : Nat) (h : p + q ≤ n) : cut (cut xs o n) p q = cut xs (o + p) q := by
  unfold cut
  rw [List.drop_take, List.take_take, List.drop_drop, Nat.min_eq_left (by omega)]
theorem cut_app (xs : List Int) (o p q : Nat) : cut xs o p ++ cut xs (o + p) q = cut xs o (p + q) := by
  unfold cut
  rw [← List.drop_drop, List.take_add]
/-- Pieces of one length, one behind the other. -/
theorem pieces (xs : List Int) (c : Nat) : ∀ m, (List.range m).flatMap (fun k => cut xs (k * c) c) = xs.take (m * c)
  | 0 => by simp
  | m + 1 => by
    rw [List.range_succ, List.flatMap_append, pieces xs c m, List.flatMap_cons, List.flatMap_nil, List.append_nil, Nat.add_mul, Nat.one_mul, List.take_add]; rfl
theorem pieces_all {α : Type} (f : α → List Int) (g : Nat → α) (xs : List Int) (c m : Nat) (hm : xs.length = m * c) (hf : ∀ k, k < m → f (g k) = cut xs (k * c) c) : ((List.range m).map g).flatMap f = xs := by
  have e : ((List.range m).map g).flatMap f = (List.range m).flatMap (fun k => cut xs (k * c) c) := by
    have key : ∀ l : List Nat, (∀ k ∈ l, k < m) → (l.map g).flatMap f = l.flatMap (fun k => cut xs (k * c) c) := by
      intro l
      induction l with
      | nil => intro _; rfl
      | cons a r ih => intro hl; rw [List.map_cons, List.flatMap_cons, List.flatMap_cons, ih (fun k hk => hl k (List.mem_cons_of_mem _ hk)), hf a (hl a List.mem_cons_self)]
    exact key _ (fun k hk => List.mem_range.1 hk)
  rw [e, pieces, ← hm, List.take_length]
theorem flat_at {α : Type} (f : α → List Int) (c : Nat) : ∀ {l : List α}, (∀ x ∈ l, (f x).length = c) → ∀ (k : Nat) (x : α), l[k]? = some x → cut (l.flatMap f) (k * c) c = f x
  | [], _, k, x, h => by simp at h
  | a :: r, hl, 0, x, h => by
    simp at h; subst h
    unfold cut
    rw [Nat.zero_mul, List.drop_zero, List.flatMap_cons, List.take_append_of_le_length (by rw [hl a List.mem_cons_self]; exact Nat.le_refl _), List.take_of_length_le (by rw [hl a List.mem_cons_self]; exact Nat.le_refl _)]
  | a :: r, hl, k + 1, x, h => by
    simp at h
    have ih := flat_at f c (l := r) (fun y hy => hl y (List.mem_cons_of_mem _ hy)) k x h
    unfold cut at ih ⊢
    have ha := hl a List.mem_cons_self
    have e1 : (f a ++ r.flatMap f).drop c = r.flatMap f := by rw [List.drop_append_of_le_length (by omega), List.drop_of_length_le (by omega), List.nil_append]
    rw [List.flatMap_cons, Nat.add_mul, Nat.one_mul, Nat.add_comm (k * c) c, ← List.drop_drop, e1, ih]
theorem flat_back {α : Type} (f : α → List Int) (g : List Int → Nat → α) (c : Nat) {l : List α} (hl : ∀ x ∈ l, (f x).length = c) (hg : ∀ k x, l[k]? = some x → g (l.flatMap f) k = x) : (List.range l.length).map (g (l.flatMap f)) = l := by
  apply List.ext_getElem?
  intro k
  by_cases hk : k < l.length
  · rw [List.getElem?_map, List.getElem?_range hk, Option.map_some, hg k l[k] (List.getElem?_eq_getElem hk), List.getElem?_eq_getElem hk]
  · rw [List.getElem?_eq_none (by simp; omega), List.getElem?_eq_none (by omega)]
theorem be_nm2 {xs : List Int} (hb : Byt xs) (h : xs.length = 2) : be 2 (nm xs) = xs := by
  have e := be_pv xs hb
  rw [h] at e
  rw [nm_plain xs hb (by omega), e]
theorem nm_be2 (n : Int) (h0 : 0 ≤ n) (h1 : n ≤ 256) : nm (be 2 n) = n := by
  obtain ⟨m, rfl⟩ := Int.eq_ofNat_of_zero_le h0
  rw [nm_plain _ (be_byt 2 _) (by rw [be_length]; omega), pv_be]
  have : m % 256 ^ 2 = m := Nat.mod_eq_of_lt (by omega)
  rw [this]
theorem lfb_at {xs : List Int} (k : Nat) : lfb (lfAt xs k) = cut xs (k * 64) 64 := cut_app xs (k * 64) 32 32
theorem lkb_at {xs : List Int} (k : Nat) : lkb (lkAt xs k) = cut xs (k * 96) 96 := by
  unfold lkb lkAt
  have e := cut_app xs (k * 96 + 32) 32 32
  rw [show k * 96 + 32 + 32 = k * 96 + 64 by omega] at e
  simp only
  rw [e, cut_app]
theorem ndb_at {xs : List Int} (hb : Byt xs) {k : Nat} (hk : k * 66 + 66 ≤ xs.length) : ndb (ndAt xs k) = cut xs (k * 66) 66 := by
  unfold ndb ndAt
  simp only
  rw [be_nm2 (xs := cut xs (k * 66) 2) ((hb.drop _).take _) (by simp [cut]; omega)]
  have e := cut_app xs (k * 66 + 2) 32 32
  rw [show k * 66 + 2 + 32 = k * 66 + 34 by omega] at e
  rw [e, cut_app]
theorem rdl_back {xs : List Int} (h : xs.length % 64 = 0) : (rdl xs).flatMap lfb = xs := by
  unfold rdl; rw [if_pos h]
  exact pieces_all lfb (lfAt xs) xs 64 _ (by omega) (fun k _ => lfb_at k)
theorem rdk_back {xs : List Int} (h : xs.length % 96 = 0) : (rdk xs).flatMap lkb = xs := by
  unfold rdk; rw [if_pos h]
  exact pieces_all lkb (lkAt xs) xs 96 _ (by omega) (fun k _ => lkb_at k)
theorem rdn_back {xs : List Int} (hb : Byt xs) (h : rnb xs = true) : (rdn xs).flatMap ndb = xs := by
  have h0 : xs.length % 66 = 0 := by
    unfold rnb at h
    simp only [Bool.and_eq_true, decide_eq_true_eq] at h
    exact h.1
  rw [rdn_yes h]
  unfold ndl
  exact pieces_all ndb (ndAt xs) xs 66 _ (by omega) (fun k hk => ndb_at hb (by omega))
theorem rdl_of {ls : List Lf} (hk : ∀ x ∈ ls, x.Ok) : (ls.flatMap lfb).length % 64 = 0 ∧ rdl (ls.flatMap lfb) = ls := by
  have hl := fm_len lfb 64 (fun x hx => lfb_len (hk x hx))
  have h0 : (ls.flatMap lfb).length % 64 = 0 := by rw [hl]; omega
  refine ⟨h0, ?_⟩
  unfold rdl; rw [if_pos h0, show (ls.flatMap lfb).length / 64 = ls.length by omega]
  refine flat_back lfb lfAt 64 (fun x hx => lfb_len (hk x hx)) (fun k x hx => ?_)
  have hc := flat_at lfb 64 (fun x hx => lfb_len (hk x hx)) k x hx
  have ho := hk x (List.mem_of_getElem? hx)
  have e1 : cut (ls.flatMap lfb) (k * 64) 32 = x.p := by
    have := cut_cut (ls.flatMap lfb) (k * 64) 64 0 32 (by omega)
    rw [Nat.add_zero] at this
    rw [← this, hc]; unfold cut lfb
    rw [List.drop_zero, List.take_append_of_le_length (by rw [ho.p.len]; omega), List.take_of_length_le (by rw [ho.p.len]; omega)]
  have e2 : cut (ls.flatMap lfb) (k * 64 + 32) 32 = x.q := by
    have := cut_cut (ls.flatMap lfb) (k * 64) 64 32 32 (by omega)
    rw [← this, hc]; unfold cut lfb
    rw [List.drop_append_of_le_length (by rw [ho.p.len]; omega), List.drop_of_length_le (by rw [ho.p.len]; omega), List.nil_append, List.take_of_length_le (by rw [ho.q.len]; omega)]
  unfold lfAt; rw [e1, e2]
theorem rdk_of {ls : List Lk} (hk : ∀ x ∈ ls, x.Ok) : (ls.flatMap lkb).length % 96 = 0 ∧ rdk (ls.flatMap lkb) = ls := by
  have hl := fm_len lkb 96 (fun x hx => lkb_len (hk x hx))
  have h0 : (ls.flatMap lkb).length % 96 = 0 := by rw [hl]; omega
  refine ⟨h0, ?_⟩
  unfold rdk; rw [if_pos h0, show (ls.flatMap lkb).length / 96 = ls.length by omega]
  refine flat_back lkb lkAt 96 (fun x hx => lkb_len (hk x hx)) (fun k x hx => ?_)
  have hc := flat_at lkb 96 (fun x hx => lkb_len (hk x hx)) k x hx
  have ho := hk x (List.mem_of_getElem? hx)
  have p1 := ho.o.len
  have p2 := ho.n.len
  have p3 := ho.q.len
  have e1 : cut (ls.flatMap lkb) (k * 96) 32 = x.o := by
    have := cut_cut (ls.flatMap lkb) (k * 96) 96 0 32 (by omega)
    rw [Nat.add_zero] at this
    rw [← this, hc]; unfold cut lkb
    rw [List.drop_zero, List.take_append_of_le_length (by omega), List.take_of_length_le (by omega)]
  have e2 : cut (ls.flatMap lkb) (k * 96 + 32) 32 = x.n := by
    have := cut_cut (ls.flatMap lkb) (k * 96) 96 32 32 (by omega)
    rw [← this, hc]; unfold cut lkb
    rw [List.drop_append_of_le_length (by omega), List.drop_of_length_le (by omega), List.nil_append, List.take_append_of_le_length (by omega), List.take_of_length_le (by omega)]
  have e3 : cut (ls.flatMap lkb) (k * 96 + 64) 32 = x.q := by
    have := cut_cut (ls.flatMap lkb) (k * 96) 96 64 32 (by omega)
    rw [← this, hc]; unfold cut lkb
    rw [← List.append_assoc, List.drop_append_of_le_length (by rw [List.length_append]; omega), List.drop_of_length_le (by rw [List.length_append]; omega), List.nil_append, List.take_of_length_le (by omega)]
  unfold lkAt; rw [e1, e2, e3]
theorem rdn_of {ls : List Nd} (hk : ∀ x ∈ ls, x.Ok) (hq : lok ls) : rnb (ls.flatMap ndb) = true ∧ rdn (ls.flatMap ndb) = ls := by
  have hl := fm_len ndb 66 (fun x hx => ndb_len (hk x hx))
  have h0 : (ls.flatMap ndb).length % 66 = 0 := by rw [hl]; omega
  have e : ndl (ls.flatMap ndb) = ls := by
    unfold ndl; rw [show (ls.flatMap ndb).length / 66 = ls.length by omega]
    refine flat_back ndb ndAt 66 (fun x hx => ndb_len (hk x hx)) (fun k x hx => ?_)
    have hc := flat_at ndb 66 (fun x hx => ndb_len (hk x hx)) k x hx
    have ho := hk x (List.mem_of_getElem? hx)
    have hr := hq x (List.mem_of_getElem? hx)
    have p1 : (be 2 x.n).length = 2 := be_length 2 _
    have p2 := ho.p.len
    have p3 := ho.h.len
    have e1 : cut (ls.flatMap ndb) (k * 66) 2 = be 2 x.n := by
      have := cut_cut (ls.flatMap ndb) (k * 66) 66 0 2 (by omega)
      rw [Nat.add_zero] at this
      rw [← this, hc]; unfold cut ndb
      rw [List.drop_zero, List.take_append_of_le_length (by omega), List.take_of_length_le (by omega)]
    have e2 : cut (ls.flatMap ndb) (k * 66 + 2) 32 = x.p := by
      have := cut_cut (ls.flatMap ndb) (k * 66) 66 2 32 (by omega)
      rw [← this, hc]; unfold cut ndb
      rw [List.drop_append_of_le_length (by omega), List.drop_of_length_le (by omega), List.nil_append, List.take_append_of_le_length (by omega), List.take_of_length_le (by omega)]
    have e3 : cut (ls.flatMap ndb) (k * 66 + 34) 32 = x.h := by
      have := cut_cut (ls.flatMap ndb) (k * 66) 66 34 32 (by omega)
      rw [← this, hc]; unfold cut ndb
      rw [← List.append_assoc, List.drop_append_of_le_length (by rw [List.length_append]; omega), List.drop_of_length_le (by rw [List.length_append]; omega), List.nil_append, List.take_of_length_le (by omega)]
    unfold ndAt; rw [e1, e2, e3, nm_be2 _ hr.1 hr.2]
  have hb : rnb (ls.flatMap ndb) = true := (rnb_lok h0).2 (by rw [e]; exact hq)
  exact ⟨hb, by rw [rdn_yes hb, e]⟩
theorem stepS_eq : strOfNums [115, 116, 101, 112] = stepS := by rfl
theorem byt_step : Byt [115, 116, 101, 112] := fun z hz => by simp at hz; omega
theorem big_of_E {xss : List (List Int)} (h : encE xss = 0) : big xss = false := by
  cases hb : big xss with
  | false => rfl
  | true => rw [(encE_big hb).1] at h; cases h
/-- What was encoded is decoded. -/
theorem s_of {S : Sp} (h : S.Ok) (hk : lokb S.ns = true) (hE : encE S.list = 0) : isS (encB S.list) = true ∧ dSp (encB S.list) = S := by
  obtain ⟨e1, e2⟩ := decode_enc S.list (big_of_E hE)
  obtain ⟨r1, r2⟩ := r_of h.R
  obtain ⟨n1, n2⟩ := rdn_of h.ns ((lokb_iff _).1 hk)
  obtain ⟨l1, l2⟩ := rdl_of h.ls
  obtain ⟨k1, k2⟩ := rdk_of h.ks
  have hF : hasF (encB S.list) stepS 4 = true := by
    unfold hasF
    rw [e1, e2, show mi S.list 0 = [115, 116, 101, 112] from rfl, stepS_eq, show S.list.length = 1 + 4 from rfl]; simp
  have m1 : mi (decL (encB S.list)) 1 = encB S.R.all := by rw [e2]; rfl
  have m2 : mi (decL (encB S.list)) 2 = S.ns.flatMap ndb := by rw [e2]; rfl
  have m3 : mi (decL (encB S.list)) 3 = S.ls.flatMap lfb := by rw [e2]; rfl
  have m4 : mi (decL (encB S.list)) 4 = S.ks.flatMap lkb := by rw [e2]; rfl
  have hI : isS (encB S.list) = true := isS_of hF (by rw [m1]; exact r1) (by rw [m2]; exact n1) (by rw [m3]; exact l1) (by rw [m4]; exact k1)
  refine ⟨hI, ?_⟩
  rw [(ds_yes hI).1, m1, m2, m3, m4, r2, n2, l2, k2]
/-- What was decoded is encoded as it stood. -/
theorem s_back {xs : List Int} (hb : Byt xs) (h : isS xs = true) : (dSp xs).Ok ∧ lokb (dSp xs).ns = true ∧ encE (dSp xs).list = 0 ∧ encB (dSp xs).list = xs := by
  have h' := h
  unfold isS at h'
  simp only [Bool.and_eq_true, decide_eq_true_eq] at h'
  obtain ⟨hF, hr, hn, hl, hk⟩ := h'
  unfold hasF at hF
  simp only [Bool.and_eq_true, decide_eq_true_eq] at hF
  obtain ⟨hE, hL, hw⟩ := hF
  have hbm := decL_mi hb
  obtain ⟨rb, ro⟩ := r_back (hbm 1).1 hr
  have hm0 : mi (decL xs) 0 = [115, 116, 101, 112] := nums_of_str (hbm 0).1 byt_step (by rw [eq_of_beq hw, stepS_eq])
  have e := (ds_yes h).1
  have hlist : (dSp xs).list = decL xs := by
    rw [mi_get' hL]
    show (dSp xs).list = [mi (decL xs) 0, mi (decL xs) 1, mi (decL xs) 2, mi (decL xs) 3, mi (decL xs) 4]
    rw [e]
    unfold Sp.list
    simp only
    rw [rb, rdn_back (hbm 2).1 hn, rdl_back hl, rdk_back hk, hm0]
  have b2 := (hbm 2).2
  have b3 := (hbm 3).2
  have b4 := (hbm 4).2
  have hlk : lokb (dSp xs).ns = true := by
    rw [e]
    show lokb (rdn _) = true
    rw [rdn_yes hn]
    have h0 : (mi (decL xs) 2).length % 66 = 0 := by
      unfold rnb at hn
      simp only [Bool.and_eq_true, decide_eq_true_eq] at hn
      exact hn.1
    exact (lokb_iff _).2 ((rnb_lok h0).1 hn)
  have hok : (dSp xs).Ok := by
    rw [e]
    refine ⟨ro, fun x hx => ?_, fun x hx => ?_, fun x hx => ?_, ?_, ?_, ?_⟩
    · have hx : x ∈ rdn (mi (decL xs) 2) := hx
      rw [rdn_yes hn] at hx
      obtain ⟨k, hk', rfl⟩ := List.mem_map.1 hx
      have := List.mem_range.1 hk'
      exact ndAt_ok (hbm 2).1 (by omega)
    · have hx : x ∈ rdl (mi (decL xs) 3) := hx
      unfold rdl at hx; rw [if_pos hl] at hx
      obtain ⟨k, hk', rfl⟩ := List.mem_map.1 hx
      have := List.mem_range.1 hk'
      exact lfAt_ok (hbm 3).1 (by omega)
    · have hx : x ∈ rdk (mi (decL xs) 4) := hx
      unfold rdk at hx; rw [if_pos hk] at hx
      obtain ⟨k, hk', rfl⟩ := List.mem_map.1 hx
      have := List.mem_range.1 hk'
      exact lkAt_ok (hbm 4).1 (by omega)
    · show (rdn (mi (decL xs) 2)).length * 72 ≤ _
      rw [rdn_yes hn]; unfold ndl; rw [List.length_map, List.length_range]; omega
    · show (rdl (mi (decL xs) 3)).length * 64 ≤ _
      unfold rdl; rw [if_pos hl, List.length_map, List.length_range]; omega
    · show (rdk (mi (decL xs) 4)).length * 96 ≤ _
      unfold rdk; rw [if_pos hk, List.length_map, List.length_range]; omega
  rcases dec_cases hb with ⟨h0, _⟩ | ⟨_, hbg, hback⟩
  · rw [hE] at h0; omega
  · exact ⟨hok, hlk, by rw [hlist]; exact (encE_ok hbg).1, by rw [hlist]; exact hback⟩
theorem zRt_ok : zRt.Ok := ⟨by decide, by decide, by decide, ⟨rfl, fun z hz => by simp [zRt] at hz; omega⟩, ⟨rfl, fun z hz => by simp [zRt] at hz; omega⟩, ⟨rfl, fun z hz => by simp [zRt] at hz; omega⟩, ⟨rfl, fun z hz => by simp [zRt] at hz; omega⟩⟩
theorem dSp_ok {xs : List Int} (hb : Byt xs) : (dSp xs).Ok := by
  cases h : isS xs with
  | true => exact (s_back hb h).1
  | false =>
    rw [(ds_no h).1]
    exact ⟨zRt_ok, (fun x hx => by cases hx), (fun x hx => by cases hx), (fun x hx => by cases hx), by simp, by simp, by simp⟩
end Go.Proofs.Ytfnmdeekenjlgaa
