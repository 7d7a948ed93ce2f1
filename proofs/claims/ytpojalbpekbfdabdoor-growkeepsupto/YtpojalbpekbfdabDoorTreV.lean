/- Package tree: Apart. -/
import Derived.Test.YtpojalbpekbfdabDoorTreU
namespace Go.Proofs.YtpojalbpekbfdabDoor
open Go Go.RowKit
set_option linter.unusedSimpArgs false
set_option linter.unusedVariables false
set_option maxRecDepth 100000

/-- A slice that holds these nodes. -/
def NS (w : World) (v : Value) (l : List Nd) : Prop := ∃ ad cap, v = .slice ad l.length cap ∧ l.length ≤ cap ∧ ((l = [] ∧ (ad = none → cap = 0)) ∨ ∃ b o, ad = some ⟨b, o, none⟩ ∧ b < w.heap.size ∧ ∀ (i : Nat) (x : Nd), l[i]? = some x → w.rangeAt b (o + i * 65) (nc x))
theorem NS.below {w w' : World} {v : Value} {l : List Nd} (h : NS w v l) (hb : Below w.heap.size w w') : NS w' v l := by
  obtain ⟨ad, cap, rfl, hc, h⟩ := h
  refine ⟨ad, cap, rfl, hc, ?_⟩
  rcases h with h | ⟨b, o, rfl, hlt, hm⟩
  · exact .inl h
  · exact .inr ⟨b, o, rfl, Nat.lt_of_lt_of_le hlt hb.size, fun i x hi => range_below (hm i x hi) hb hlt⟩
/-- The node of no bits. -/
def ndz : Nd := ⟨0, z32, z32⟩
theorem ndz_ok : ndz.Ok := ⟨z32_l32, z32_l32⟩
theorem zero_nd (w : World) : (zeroValue 33).run Tryd.prog w = .ok (.agg (nc ndz).toArray) w := by kernel_rfl
theorem nc_one (x : Nd) : (nc x).toArray.all (·.oneCell') = true := all_oneCell_toArray (fun u hu => by
  unfold nc at hu
  rcases List.mem_cons.1 hu with rfl | hu
  · rfl
  · rcases List.mem_append.1 hu with hu | hu
    · exact bv_one _ u hu
    · exact bv_one _ u hu)
theorem there_al (w : World) {x y : Nd} (hx : x.Ok) (hy : y.Ok) (t : TypeId) : (w.alloc (.cells (nc x).toArray t)).there w.heap.size 0 (nc y).toArray.size := by
  have : (w.alloc (.cells (nc x).toArray t)).heap[w.heap.size]? = some (.cells (nc x).toArray t (0, 0)) := by show (w.heap.push _)[w.heap.size]? = _; simp
  rw [nc_size hy]
  exact there_of_row' this 0 65 (by rw [nc_size hx]; omega)
/-- A node laid in a new block. -/
theorem laid_nd {w U : World} {x y : Nd} (hx : x.Ok) (hy : y.Ok) {t : TypeId} (e : (w.alloc (.cells (nc x).toArray t)).setCells w.heap.size 0 (nc y) = U) : U.rangeAt w.heap.size 0 (nc y) ∧ Below w.heap.size w U ∧ w.heap.size < U.heap.size := by
  have h1 : U.rangeAt w.heap.size 0 (nc y) := by rw [← e]; exact World.rangeAt_setCells_same _ _ _ _ (by have := there_al w hx hy t; rwa [List.size_toArray] at this)
  have h2 : Below w.heap.size w U := by rw [← e]; exact below_setCells (Nat.le_refl _) _ _ ((Below.refl _ w).alloc (Nat.le_refl _) _)
  refine ⟨h1, h2, ?_⟩
  have := h1 0 _ rfl
  unfold World.cell? at this
  cases hh : U.heap[w.heap.size + 0 - 0 + 0]? with
  | none => simp only [Nat.add_zero, Nat.sub_zero] at hh; rw [show ((⟨w.heap.size, 0 + 0, none⟩ : Addr).block) = w.heap.size from rfl, hh] at this; cases this
  | some X => exact (Array.getElem?_eq_some_iff.1 (by simpa using hh)).1
/-- What is asked of the node at a place. -/
def apA (l : List Nd) (i : Nat) : Bool := match l[i]? with | some x => gd x && (i == 0 || (match l[i - 1]? with | some y => ap2 y x | none => true)) | none => true
theorem apt_iff : ∀ (l : List Nd), apt l = true ↔ ∀ i, i < l.length → apA l i = true
  | [] => by simp [apt]
  | [a] => by
    constructor
    · intro h i hi
      obtain rfl : i = 0 := by simpa using hi
      have : gd a = true := h
      simp [apA, this]
    · intro h
      have := h 0 (by simp)
      simpa [apA, apt] using this
  | a :: b :: r => by
    have ih := apt_iff (b :: r)
    simp only [apt, Bool.and_eq_true]
    constructor
    · rintro ⟨h1, h2, h3⟩ i hi
      have h4 := ih.1 h3
      match i, hi with
      | 0, _ => simp [apA, h1]
      | 1, _ =>
        have := h4 0 (by simp)
        simp [apA] at this
        simp [apA, this, h2]
      | i + 2, hi =>
        have := h4 (i + 1) (by simp at hi ⊢; omega)
        unfold apA at this ⊢
        simp only [List.getElem?_cons_succ] at this ⊢
        simpa using this
    · intro h
      have h0 := h 0 (by simp)
      have h1 := h 1 (by simp)
      simp [apA] at h0 h1
      refine ⟨h0, h1.2, ih.2 (fun i hi => ?_)⟩
      match i, hi with
      | 0, _ => simp [apA, h1.1]
      | i + 1, hi =>
        have := h (i + 2) (by simp at hi ⊢; omega)
        unfold apA at this ⊢
        simp only [List.getElem?_cons_succ] at this ⊢
        simpa using this
theorem apt_no {l : List Nd} {i : Nat} (hi : i < l.length) (h : apA l i = false) : apt l = false := by
  cases e : apt l with
  | false => rfl
  | true => have := (apt_iff l).1 e i hi; rw [h] at this; cases this
def ap1f (x y : Nd) (D b o len cap k j : Nat) (r : Bool) : Nat → Value
  | 0 => .agg (nc x).toArray
  | 1 => .bool false
  | 2 => .bool true
  | 3 => .bool true
  | 4 => undef
  | 5 => undef
  | 6 => undef
  | 7 => undef
  | 8 => undef
  | 9 => undef
  | 10 => undef
  | 11 => undef
  | 12 => undef
  | 13 => undef
  | 14 => undef
  | 15 => undef
  | 16 => .bool true
  | _ => undef
def ap2f (x y : Nd) (D b o len cap k j : Nat) (r : Bool) : Nat → Value
  | 0 => .agg (nc x).toArray
  | 1 => .bool true
  | 2 => .bool false
  | 3 => .bool false
  | 4 => .int .i64 (k : Int)
  | 5 => .bool false
  | 6 => .bool false
  | 7 => undef
  | 8 => undef
  | 9 => undef
  | 10 => undef
  | 11 => undef
  | 12 => undef
  | 13 => undef
  | 14 => undef
  | 15 => .bool false
  | 16 => .bool false
  | _ => undef
def ap3f (x y : Nd) (D b o len cap k j : Nat) (r : Bool) : Nat → Value
  | 0 => .agg (nc x).toArray
  | 1 => .bool true
  | 2 => .bool false
  | 3 => .bool false
  | 4 => .int .i64 (k : Int)
  | 5 => .bool true
  | 6 => .bool true
  | 7 => .slice (some ⟨b, o, none⟩) len cap
  | 8 => .int .i64 (k : Int)
  | 9 => .int .i64 (j : Int)
  | 10 => .pointer (some ⟨b, o + j * 65, none⟩)
  | 11 => .agg (nc y).toArray
  | 12 => .agg (nc x).toArray
  | 13 => .bool r
  | 14 => .bool (!r)
  | 15 => .bool (!r)
  | 16 => .bool (!r)
  | _ => undef
set_option maxHeartbeats 4000000 in
theorem Apart_any (l : List Nd) (hk : ∀ x ∈ l, x.Ok) (v : Value) (w : World) (hv : NS w v l) (hn : l.length ≤ 140737488355328) :
    Calls Tryd.prog 12 #[v] w fun e w' => e = .returned (.bool (apt l)) ∧ Below w.heap.size w w' := by
  obtain ⟨ad, cap, rfl, hc, hx⟩ := hv
  have HXX : Hid (l = [] ∧ (ad = none → cap = 0) ∨ ∃ b o, ad = some ⟨b, o, none⟩ ∧ b < w.heap.size ∧ ∀ (i : Nat) (x : Nd), l[i]? = some x → w.rangeAt b (o + i * 65) (nc x)) := hx
  have HK : Hid (∀ x ∈ l, x.Ok) := hk
  obtain ⟨len, hlen⟩ : ∃ len, l.length = len := ⟨_, rfl⟩
  have HLN : Hid (l.length = len) := hlen
  rw [hlen] at hn ⊢
  have hz := zero_nd
  obtain ⟨Z, hZ⟩ : ∃ Z, (nc ndz).toArray = Z := ⟨_, rfl⟩
  have HZ : Hid ((nc ndz).toArray = Z) := hZ
  have hZs : Z.size = 65 := by rw [← hZ]; exact nc_size ndz_ok
  rw [hZ] at hz
  clear hx hk hc hlen hZ
  go_enter Tryd.func12, Tryd.ntmps12
  go_wp2_with fail
  go_loopw [7] (fun i wr => ∃ k : Nat, k ≤ len ∧ i = .int .i64 (k : Int) ∧ (∀ j, j < k → apA l j = true) ∧ Below w.heap.size w wr) (fun i _ => len - (intOf i).toNat)
  case atStart => exact ⟨0, Nat.zero_le _, rfl, fun j hj => by omega, Below.refl _ _⟩
  case round =>
    obtain ⟨k, hkl, rfl, hall, h4⟩ := hrel
    have H4 : Hid (Below w.heap.size w wr) := h4
    have HA : Hid (∀ j, j < k → apA l j = true) := hall
    clear h4 hall
    by_cases hlt : k < len
    · rcases HXX.out with ⟨h0, _⟩ | ⟨b, o, rfl, hlb, hm⟩
      · have := HLN.out; rw [h0] at this; simp at this; omega
      · obtain ⟨x, hx⟩ : ∃ x, l[k]? = some x := ⟨l[k]'(by have := HLN.out; omega), List.getElem?_eq_getElem _⟩
        have HX : Hid x.Ok := HK.out x (List.mem_of_getElem? hx)
        have HXK : Hid (l[k]? = some x) := hx
        have HRX : Hid (wr.rangeAt b (o + k * 65) (nc x)) := range_below (hm k x hx) (H4.out.mono (Nat.le_refl _)) hlb
        have HLB : Hid (b < wr.heap.size) := Nat.lt_of_lt_of_le hlb H4.out.size
        have HM : Hid (∀ (i : Nat) (x : Nd), l[i]? = some x → wr.rangeAt b (o + i * 65) (nc x)) := fun i x hi => range_below (hm i x hi) (H4.out.mono (Nat.le_refl _)) hlb
        clear hm hlb hx
        obtain ⟨X, hX⟩ : ∃ X, (nc x).toArray = X := ⟨_, rfl⟩
        have HXA : Hid ((nc x).toArray = X) := hX
        go_wp2_with (first
          | (refine load_g rfl 33 (.tmp 10) rfl b (o + k * 65) rfl (nc x) _ HRX.out Tryd.underlying33 rfl (size_nc HX.out) ?_; rw [hX])
          | (refine wpList_store_mid rfl 33 (.tmp 4) (.tmp 11) rfl wr.heap.size 0 (nc x).toArray rfl (by rw [HXA.out]; rfl) (by rw [← HZ.out]; exact there_al wr ndz_ok HX.out _) (by rw [List.size_toArray]; exact size_nc HX.out) (nc_one x) ?_; simp only [List.toList_toArray]))
        obtain ⟨U, hU⟩ : ∃ U, (wr.alloc (.cells Z 33)).setCells wr.heap.size 0 (nc x) = U := ⟨_, rfl⟩
        obtain ⟨u1, u2, u3⟩ := laid_nd (w := wr) (U := U) (t := 33) ndz_ok HX.out (by rw [HZ.out]; exact hU)
        rw [hU]
        obtain ⟨D, hD⟩ : ∃ D, wr.heap.size = D := ⟨_, rfl⟩
        rw [hD] at u1 u3 ⊢
        have RX : Hid (U.rangeAt D 0 (nc x)) := u1
        have BU : Hid (Below wr.heap.size wr U) := u2
        have hDX : Hid (D < U.heap.size) := u3
        clear hU u1 u2 u3 hD hX
        obtain ⟨j, hj⟩ : ∃ j, j = k - 1 := ⟨_, rfl⟩
        obtain ⟨y, hy⟩ : ∃ y, y = (l[k - 1]?).getD x := ⟨_, rfl⟩
        obtain ⟨r, hr⟩ : ∃ r, r = ap2 y x := ⟨_, rfl⟩
        cases hg : gd x with
        | false =>
          have HGD : Hid (∀ W : World, Calls Tryd.prog 23 #[.agg (nc x).toArray] W fun e w' => e = .returned (.bool false) ∧ Below W.heap.size W w') := fun W => by rw [← hg]; exact good_any x HX.out W
          have HR : Hid (apt l = false) := apt_no (i := k) (by have := HLN.out; omega) (by unfold apA; rw [HXK.out]; simp [hg])
          clear hg hy hr
          refine RU.wp_rgn' [] (ap1f x y D b o len cap k j r) (fun _ => 0) (gΩ U) (by kernel_rfl) (by kernel_rfl) (show Below U.heap.size U _ from (Below.refl _ _).drew) ?_ ?_
          · refine ⟨?_, ?_, ?_, ?_, ?_, ?_, ?_, ?_, ?_, ?_, ?_, ?_, ?_, ?_, ?_, ?_, ?_, trivial⟩
            · refine RU.ObT.silent rfl (fun a W k0 V hO hf hp hk => ?_)
              have hO' : Below U.heap.size U W := hO
              have q4 : a.eval (.tmp 4) = .pointer (some ⟨D, 0, none⟩) := hf 4 rfl
              exact RU.ob_op rfl (RU.wanted_none rfl) (wp_load_mid 33 (.tmp 4) rfl (D) (0) q4 (nc x) _ (range_below RX.out hO' hDX.out) Tryd.underlying33 rfl (size_nc HX.out) ⟨rfl, hO⟩)
            · refine RU.ObT.silent rfl (fun a W k0 V hO hf hp hk => ?_)
              have hO' : Below U.heap.size U W := hO
              have e12 : a.eval (.tmp 12) = .agg (nc x).toArray := hp 0 12 rfl
              refine RU.ob_call (g := 23) (args := #[.agg (nc x).toArray]) rfl (RU.wanted_none rfl) (fun ev he hc => ?_) ((HGD.out W).mono ?_)
              · have h12 := (he (.tmp 12)).trans e12
                have hfn := he (.func 23)
                simp only [List.getElem_toArray, List.getElem_cons_succ, List.getElem_cons_zero, execOp, Option.map_some, Option.map_none]
                simp only [resolve, invoke, Sem.run_bind, Sem.run_pure, Result.andThen_ok, List.map_toArray, List.map_cons, List.map_nil, h12, hfn, Act.eval, hc]
                rfl
              · rintro e' W2 ⟨rfl, hb2⟩
                exact ⟨_, rfl, rfl, (hO'.trans (hb2.mono hO'.size) : Below U.heap.size U W2)⟩
            · refine RU.ObT.pure rfl rfl rfl (fun a V hf hp ev he hc W => ?_)
              have q13 : ev (.tmp 13) = .bool false := (he (.tmp 13)).trans (hp 1 13 rfl)
              simp only [List.getElem_toArray, List.getElem_cons_succ, List.getElem_cons_zero, execOp, Option.map_some, Option.map_none]; rw [q13]
              first | (go_simp; done) | (go_simp; rfl) | rfl
            · refine RU.ObT.pure rfl rfl rfl (fun a V hf hp ev he hc W => ?_)
              have q14 : ev (.tmp 14) = .bool true := (he (.tmp 14)).trans (hp 2 14 rfl)
              simp only [List.getElem_toArray, List.getElem_cons_succ, List.getElem_cons_zero, execOp, Option.map_some, Option.map_none]; rw [q14]
              first | (go_simp; done) | (go_simp; rfl) | rfl
            · exact RU.ObT.skip (g := 3) (d := 15) rfl rfl rfl rfl rfl rfl (fun U h => by cases h) rfl
            · exact RU.ObT.skip (g := 3) (d := 15) rfl rfl rfl rfl rfl rfl (fun U h => by cases h) rfl
            · exact RU.ObT.skip (g := 3) (d := 15) rfl rfl rfl rfl rfl rfl (fun U h => by cases h) rfl
            · exact RU.ObT.skip (g := 6) (d := 18) rfl rfl rfl rfl rfl rfl (fun U h => by cases h) rfl
            · exact RU.ObT.skip (g := 6) (d := 18) rfl rfl rfl rfl rfl rfl (fun U h => by cases h) rfl
            · exact RU.ObT.skip (g := 6) (d := 18) rfl rfl rfl rfl rfl rfl (fun U h => by cases h) rfl
            · exact RU.ObT.skip (g := 6) (d := 18) rfl rfl rfl rfl rfl rfl (fun U h => by cases h) rfl
            · exact RU.ObT.skip (g := 6) (d := 18) rfl rfl rfl rfl rfl rfl (fun U h => by cases h) rfl
            · exact RU.ObT.skip (g := 6) (d := 18) rfl rfl rfl rfl rfl rfl (fun U h => by cases h) rfl
            · exact RU.ObT.skip (g := 6) (d := 18) rfl rfl rfl rfl rfl rfl (fun U h => by cases h) rfl
            · exact RU.ObT.skip (g := 6) (d := 18) rfl rfl rfl rfl rfl rfl (fun U h => by cases h) rfl
            · exact RU.ObT.skip (g := 3) (d := 15) rfl rfl rfl rfl rfl rfl (fun U h => by cases h) rfl
            · refine RU.ObT.pure rfl rfl rfl (fun a V hf hp ev he hc W => ?_)
              have q15 : ev (.tmp 15) = .bool true := (he (.tmp 15)).trans (hp 3 15 rfl)
              have q27 : ev (.tmp 27) = undef := (he (.tmp 27)).trans (hp 15 27 rfl)
              simp only [List.getElem_toArray, List.getElem_cons_succ, List.getElem_cons_zero, execOp, Option.map_some, Option.map_none]; rw [q15, q27]
              try simp only [hc]
              first | (go_simp; done) | (go_simp; rfl) | rfl
          intro W1 VW1 hOW1
          have BW1 : Hid (Below U.heap.size U W1) := hOW1
          clear hOW1
          simp only [RU.lay, RU.val, RU.at', ap1f, Act.put]
          simp only [List.setIfInBounds_toArray, List.set_cons_succ, List.set_cons_zero]
          go_wp2_with fail
          go_ret
          exact ⟨by rw [HR.out]; rfl, H4.out.trans ((BU.out.trans (BW1.out.mono BU.out.size)).mono H4.out.size)⟩
        | true =>
          have HGD : Hid (∀ W : World, Calls Tryd.prog 23 #[.agg (nc x).toArray] W fun e w' => e = .returned (.bool true) ∧ Below W.heap.size W w') := fun W => by rw [← hg]; exact good_any x HX.out W
          by_cases hk0 : k = 0
          · have HR : Hid (apA l k = true) := by show apA l k = true; unfold apA; rw [HXK.out]; simp [hg, hk0]
            have HK0 : Hid (k = 0) := hk0
            clear hg hy hr hk0
            refine RU.wp_rgn' [] (ap2f x y D b o len cap k j r) (fun _ => 0) (gΩ U) (by kernel_rfl) (by kernel_rfl) (show Below U.heap.size U _ from (Below.refl _ _).drew) ?_ ?_
            · refine ⟨?_, ?_, ?_, ?_, ?_, ?_, ?_, ?_, ?_, ?_, ?_, ?_, ?_, ?_, ?_, ?_, ?_, trivial⟩
              · refine RU.ObT.silent rfl (fun a W k0 V hO hf hp hk => ?_)
                have hO' : Below U.heap.size U W := hO
                have q4 : a.eval (.tmp 4) = .pointer (some ⟨D, 0, none⟩) := hf 4 rfl
                exact RU.ob_op rfl (RU.wanted_none rfl) (wp_load_mid 33 (.tmp 4) rfl (D) (0) q4 (nc x) _ (range_below RX.out hO' hDX.out) Tryd.underlying33 rfl (size_nc HX.out) ⟨rfl, hO⟩)
              · refine RU.ObT.silent rfl (fun a W k0 V hO hf hp hk => ?_)
                have hO' : Below U.heap.size U W := hO
                have e12 : a.eval (.tmp 12) = .agg (nc x).toArray := hp 0 12 rfl
                refine RU.ob_call (g := 23) (args := #[.agg (nc x).toArray]) rfl (RU.wanted_none rfl) (fun ev he hc => ?_) ((HGD.out W).mono ?_)
                · have h12 := (he (.tmp 12)).trans e12
                  have hfn := he (.func 23)
                  simp only [List.getElem_toArray, List.getElem_cons_succ, List.getElem_cons_zero, execOp, Option.map_some, Option.map_none]
                  simp only [resolve, invoke, Sem.run_bind, Sem.run_pure, Result.andThen_ok, List.map_toArray, List.map_cons, List.map_nil, h12, hfn, Act.eval, hc]
                  rfl
                · rintro e' W2 ⟨rfl, hb2⟩
                  exact ⟨_, rfl, rfl, (hO'.trans (hb2.mono hO'.size) : Below U.heap.size U W2)⟩
              · refine RU.ObT.pure rfl rfl rfl (fun a V hf hp ev he hc W => ?_)
                have q13 : ev (.tmp 13) = .bool true := (he (.tmp 13)).trans (hp 1 13 rfl)
                simp only [List.getElem_toArray, List.getElem_cons_succ, List.getElem_cons_zero, execOp, Option.map_some, Option.map_none]; rw [q13]
                first | (go_simp; done) | (go_simp; rfl) | rfl
              · refine RU.ObT.pure rfl rfl rfl (fun a V hf hp ev he hc W => ?_)
                have q14 : ev (.tmp 14) = .bool false := (he (.tmp 14)).trans (hp 2 14 rfl)
                simp only [List.getElem_toArray, List.getElem_cons_succ, List.getElem_cons_zero, execOp, Option.map_some, Option.map_none]; rw [q14]
                first | (go_simp; done) | (go_simp; rfl) | rfl
              · refine RU.ObT.silent rfl (fun a W k0 V hO hf hp hk => ?_)
                have hg : a.eval (.tmp 15) = .bool false := hp 3 15 rfl
                refine RU.ob_val rfl (RU.wanted_some rfl rfl rfl hg) (fun ev he hc => ?_) ⟨rfl, hO⟩
                have q3 : ev (.tmp 3) = .int .i64 (k : Int) := (he (.tmp 3)).trans (hf 3 rfl)
                simp only [List.getElem_toArray, List.getElem_cons_succ, List.getElem_cons_zero, execOp, Option.map_some, Option.map_none]; rw [q3]
                first | (go_simp; done) | (go_simp; rfl) | rfl
              · refine RU.ObT.silent rfl (fun a W k0 V hO hf hp hk => ?_)
                have hg : a.eval (.tmp 15) = .bool false := hp 3 15 rfl
                refine RU.ob_val rfl (RU.wanted_some rfl rfl rfl hg) (fun ev he hc => ?_) ⟨rfl, hO⟩
                have q16 : ev (.tmp 16) = .int .i64 (k : Int) := (he (.tmp 16)).trans (hp 4 16 rfl)
                simp only [List.getElem_toArray, List.getElem_cons_succ, List.getElem_cons_zero, execOp, Option.map_some, Option.map_none]; rw [q16]
                try simp only [hc]
                have hkp : ¬ 0 < k := by have := HK0.out; omega
                have hkq : ¬ (0 : Int) < (k : Int) := by omega
                first | (go_simp; done) | (go_simp; rfl) | rfl
              · refine RU.ObT.silent rfl (fun a W k0 V hO hf hp hk => ?_)
                have hg : a.eval (.tmp 15) = .bool false := hp 3 15 rfl
                refine RU.ob_val rfl (RU.wanted_some rfl rfl rfl hg) (fun ev he hc => ?_) ⟨rfl, hO⟩
                have q17 : ev (.tmp 17) = .bool false := (he (.tmp 17)).trans (hp 5 17 rfl)
                simp only [List.getElem_toArray, List.getElem_cons_succ, List.getElem_cons_zero, execOp, Option.map_some, Option.map_none]; rw [q17]
                first | (go_simp; done) | (go_simp; rfl) | rfl
              · exact RU.ObT.skip (g := 6) (d := 18) rfl rfl rfl rfl rfl rfl (fun U h => by cases h) rfl
              · exact RU.ObT.skip (g := 6) (d := 18) rfl rfl rfl rfl rfl rfl (fun U h => by cases h) rfl
              · exact RU.ObT.skip (g := 6) (d := 18) rfl rfl rfl rfl rfl rfl (fun U h => by cases h) rfl
              · exact RU.ObT.skip (g := 6) (d := 18) rfl rfl rfl rfl rfl rfl (fun U h => by cases h) rfl
              · exact RU.ObT.skip (g := 6) (d := 18) rfl rfl rfl rfl rfl rfl (fun U h => by cases h) rfl
              · exact RU.ObT.skip (g := 6) (d := 18) rfl rfl rfl rfl rfl rfl (fun U h => by cases h) rfl
              · exact RU.ObT.skip (g := 6) (d := 18) rfl rfl rfl rfl rfl rfl (fun U h => by cases h) rfl
              · exact RU.ObT.skip (g := 6) (d := 18) rfl rfl rfl rfl rfl rfl (fun U h => by cases h) rfl
              · refine RU.ObT.silent rfl (fun a W k0 V hO hf hp hk => ?_)
                have hg : a.eval (.tmp 15) = .bool false := hp 3 15 rfl
                refine RU.ob_val rfl (RU.wanted_some rfl rfl rfl hg) (fun ev he hc => ?_) ⟨rfl, hO⟩
                have q18 : ev (.tmp 18) = .bool false := (he (.tmp 18)).trans (hp 6 18 rfl)
                have q26 : ev (.tmp 26) = undef := (he (.tmp 26)).trans (hp 14 26 rfl)
                simp only [List.getElem_toArray, List.getElem_cons_succ, List.getElem_cons_zero, execOp, Option.map_some, Option.map_none]; rw [q18, q26]
                try simp only [hc]
                first | (go_simp; done) | (go_simp; rfl) | rfl
              · refine RU.ObT.pure rfl rfl rfl (fun a V hf hp ev he hc W => ?_)
                have q15 : ev (.tmp 15) = .bool false := (he (.tmp 15)).trans (hp 3 15 rfl)
                have q27 : ev (.tmp 27) = .bool false := (he (.tmp 27)).trans (hp 15 27 rfl)
                simp only [List.getElem_toArray, List.getElem_cons_succ, List.getElem_cons_zero, execOp, Option.map_some, Option.map_none]; rw [q15, q27]
                try simp only [hc]
                first | (go_simp; done) | (go_simp; rfl) | rfl
            intro W1 VW1 hOW1
            have BW1 : Hid (Below U.heap.size U W1) := hOW1
            clear hOW1
            simp only [RU.lay, RU.val, RU.at', ap2f, Act.put]
            simp only [List.setIfInBounds_toArray, List.set_cons_succ, List.set_cons_zero]
            go_wp2_with fail
            exact ⟨⟨k + 1, by omega, by go_num, fun j hj => by
              have h0 := HK0.out
              obtain rfl : j = k := by omega
              exact HR.out, H4.out.trans ((BU.out.trans (BW1.out.mono BU.out.size)).mono H4.out.size)⟩, by simp [intOf]; omega⟩
          · have hyl : l[k - 1]? = some y := by
              have hlt2 : k - 1 < l.length := by have := HLN.out; omega
              rw [hy, List.getElem?_eq_getElem hlt2]; rfl
            have HY : Hid y.Ok := HK.out y (List.mem_of_getElem? hyl)
            have HAP : Hid (∀ W : World, Calls Tryd.prog 24 #[.agg (nc y).toArray, .agg (nc x).toArray] W fun e w' => e = .returned (.bool r) ∧ Below W.heap.size W w') := fun W => by rw [hr]; exact apart_any y x HY.out HX.out W
            have HJ : Hid (k = j + 1) := by show k = j + 1; omega
            have RY : Hid (U.rangeAt b (o + j * 65) (nc y)) := by have := range_below (HM.out _ y hyl) BU.out HLB.out; rw [← hj] at this; exact this
            have hDY : Hid (b < U.heap.size) := Nat.lt_of_lt_of_le HLB.out BU.out.size
            have HR : Hid (apA l k = r) := by show apA l k = r; unfold apA; rw [HXK.out, hyl, hr]; simp [hg, hk0]
            clear hg hy hr hyl hj hk0
            refine RU.wp_rgn' [] (ap3f x y D b o len cap k j r) (fun _ => 0) (gΩ U) (by kernel_rfl) (by kernel_rfl) (show Below U.heap.size U _ from (Below.refl _ _).drew) ?_ ?_
            · refine ⟨?_, ?_, ?_, ?_, ?_, ?_, ?_, ?_, ?_, ?_, ?_, ?_, ?_, ?_, ?_, ?_, ?_, trivial⟩
              · refine RU.ObT.silent rfl (fun a W k0 V hO hf hp hk => ?_)
                have hO' : Below U.heap.size U W := hO
                have q4 : a.eval (.tmp 4) = .pointer (some ⟨D, 0, none⟩) := hf 4 rfl
                exact RU.ob_op rfl (RU.wanted_none rfl) (wp_load_mid 33 (.tmp 4) rfl (D) (0) q4 (nc x) _ (range_below RX.out hO' hDX.out) Tryd.underlying33 rfl (size_nc HX.out) ⟨rfl, hO⟩)
              · refine RU.ObT.silent rfl (fun a W k0 V hO hf hp hk => ?_)
                have hO' : Below U.heap.size U W := hO
                have e12 : a.eval (.tmp 12) = .agg (nc x).toArray := hp 0 12 rfl
                refine RU.ob_call (g := 23) (args := #[.agg (nc x).toArray]) rfl (RU.wanted_none rfl) (fun ev he hc => ?_) ((HGD.out W).mono ?_)
                · have h12 := (he (.tmp 12)).trans e12
                  have hfn := he (.func 23)
                  simp only [List.getElem_toArray, List.getElem_cons_succ, List.getElem_cons_zero, execOp, Option.map_some, Option.map_none]
                  simp only [resolve, invoke, Sem.run_bind, Sem.run_pure, Result.andThen_ok, List.map_toArray, List.map_cons, List.map_nil, h12, hfn, Act.eval, hc]
                  rfl
                · rintro e' W2 ⟨rfl, hb2⟩
                  exact ⟨_, rfl, rfl, (hO'.trans (hb2.mono hO'.size) : Below U.heap.size U W2)⟩
              · refine RU.ObT.pure rfl rfl rfl (fun a V hf hp ev he hc W => ?_)
                have q13 : ev (.tmp 13) = .bool true := (he (.tmp 13)).trans (hp 1 13 rfl)
                simp only [List.getElem_toArray, List.getElem_cons_succ, List.getElem_cons_zero, execOp, Option.map_some, Option.map_none]; rw [q13]
                first | (go_simp; done) | (go_simp; rfl) | rfl
              · refine RU.ObT.pure rfl rfl rfl (fun a V hf hp ev he hc W => ?_)
                have q14 : ev (.tmp 14) = .bool false := (he (.tmp 14)).trans (hp 2 14 rfl)
                simp only [List.getElem_toArray, List.getElem_cons_succ, List.getElem_cons_zero, execOp, Option.map_some, Option.map_none]; rw [q14]
                first | (go_simp; done) | (go_simp; rfl) | rfl
              · refine RU.ObT.silent rfl (fun a W k0 V hO hf hp hk => ?_)
                have hg : a.eval (.tmp 15) = .bool false := hp 3 15 rfl
                refine RU.ob_val rfl (RU.wanted_some rfl rfl rfl hg) (fun ev he hc => ?_) ⟨rfl, hO⟩
                have q3 : ev (.tmp 3) = .int .i64 (k : Int) := (he (.tmp 3)).trans (hf 3 rfl)
                simp only [List.getElem_toArray, List.getElem_cons_succ, List.getElem_cons_zero, execOp, Option.map_some, Option.map_none]; rw [q3]
                first | (go_simp; done) | (go_simp; rfl) | rfl
              · refine RU.ObT.silent rfl (fun a W k0 V hO hf hp hk => ?_)
                have hg : a.eval (.tmp 15) = .bool false := hp 3 15 rfl
                refine RU.ob_val rfl (RU.wanted_some rfl rfl rfl hg) (fun ev he hc => ?_) ⟨rfl, hO⟩
                have q16 : ev (.tmp 16) = .int .i64 (k : Int) := (he (.tmp 16)).trans (hp 4 16 rfl)
                simp only [List.getElem_toArray, List.getElem_cons_succ, List.getElem_cons_zero, execOp, Option.map_some, Option.map_none]; rw [q16]
                try simp only [hc]
                have hkp : 0 < k := by have := HJ.out; omega
                have hkq : (0 : Int) < (k : Int) := by omega
                first | (go_simp; done) | (go_simp; rfl) | rfl
              · refine RU.ObT.silent rfl (fun a W k0 V hO hf hp hk => ?_)
                have hg : a.eval (.tmp 15) = .bool false := hp 3 15 rfl
                refine RU.ob_val rfl (RU.wanted_some rfl rfl rfl hg) (fun ev he hc => ?_) ⟨rfl, hO⟩
                have q17 : ev (.tmp 17) = .bool true := (he (.tmp 17)).trans (hp 5 17 rfl)
                simp only [List.getElem_toArray, List.getElem_cons_succ, List.getElem_cons_zero, execOp, Option.map_some, Option.map_none]; rw [q17]
                first | (go_simp; done) | (go_simp; rfl) | rfl
              · refine RU.ObT.silent rfl (fun a W k0 V hO hf hp hk => ?_)
                have hg : a.eval (.tmp 18) = .bool true := hp 6 18 rfl
                refine RU.ob_val rfl (RU.wanted_some rfl rfl rfl hg) (fun ev he hc => ?_) ⟨rfl, hO⟩
                have q0 : ev (.tmp 0) = .slice (some ⟨b, o, none⟩) len cap := (he (.tmp 0)).trans (hf 0 rfl)
                simp only [List.getElem_toArray, List.getElem_cons_succ, List.getElem_cons_zero, execOp, Option.map_some, Option.map_none]; rw [q0]
                first | (go_simp; done) | (go_simp; rfl) | rfl
              · refine RU.ObT.silent rfl (fun a W k0 V hO hf hp hk => ?_)
                have hg : a.eval (.tmp 18) = .bool true := hp 6 18 rfl
                refine RU.ob_val rfl (RU.wanted_some rfl rfl rfl hg) (fun ev he hc => ?_) ⟨rfl, hO⟩
                have q3 : ev (.tmp 3) = .int .i64 (k : Int) := (he (.tmp 3)).trans (hf 3 rfl)
                simp only [List.getElem_toArray, List.getElem_cons_succ, List.getElem_cons_zero, execOp, Option.map_some, Option.map_none]; rw [q3]
                first | (go_simp; done) | (go_simp; rfl) | rfl
              · refine RU.ObT.silent rfl (fun a W k0 V hO hf hp hk => ?_)
                have hg : a.eval (.tmp 18) = .bool true := hp 6 18 rfl
                refine RU.ob_val rfl (RU.wanted_some rfl rfl rfl hg) (fun ev he hc => ?_) ⟨rfl, hO⟩
                have q20 : ev (.tmp 20) = .int .i64 (k : Int) := (he (.tmp 20)).trans (hp 8 20 rfl)
                simp only [List.getElem_toArray, List.getElem_cons_succ, List.getElem_cons_zero, execOp, Option.map_some, Option.map_none]; rw [q20]
                try simp only [hc]
                have hw1 : IntKind.i64.wrap ((k : Int) - 1) = (j : Int) := by have := HJ.out; rw [IntKind.wrap_i64]; omega
                first | (go_simp; done) | (go_simp; rfl) | rfl
              · refine RU.ObT.silent rfl (fun a W k0 V hO hf hp hk => ?_)
                have hg : a.eval (.tmp 18) = .bool true := hp 6 18 rfl
                refine RU.ob_val rfl (RU.wanted_some rfl rfl rfl hg) (fun ev he hc => ?_) ⟨rfl, hO⟩
                have q19 : ev (.tmp 19) = .slice (some ⟨b, o, none⟩) len cap := (he (.tmp 19)).trans (hp 7 19 rfl)
                have q21 : ev (.tmp 21) = .int .i64 (j : Int) := (he (.tmp 21)).trans (hp 9 21 rfl)
                simp only [List.getElem_toArray, List.getElem_cons_succ, List.getElem_cons_zero, execOp, Option.map_some, Option.map_none]; rw [q19, q21]
                have hj9 : (j : Int) < (len : Int) := by have := HJ.out; omega
                first | (go_simp; done) | (go_simp; rfl) | rfl
              · refine RU.ObT.silent rfl (fun a W k0 V hO hf hp hk => ?_)
                have hg : a.eval (.tmp 18) = .bool true := hp 6 18 rfl
                have hO' : Below U.heap.size U W := hO
                have q22 : a.eval (.tmp 22) = .pointer (some ⟨b, o + j * 65, none⟩) := hp 10 22 rfl
                exact RU.ob_op rfl (RU.wanted_some rfl rfl rfl hg) (wp_load_mid 33 (.tmp 22) rfl (b) (o + j * 65) q22 (nc y) _ (range_below RY.out hO' hDY.out) Tryd.underlying33 rfl (size_nc HY.out) ⟨rfl, hO⟩)
              · refine RU.ObT.silent rfl (fun a W k0 V hO hf hp hk => ?_)
                have hg : a.eval (.tmp 18) = .bool true := hp 6 18 rfl
                have hO' : Below U.heap.size U W := hO
                have q4 : a.eval (.tmp 4) = .pointer (some ⟨D, 0, none⟩) := hf 4 rfl
                exact RU.ob_op rfl (RU.wanted_some rfl rfl rfl hg) (wp_load_mid 33 (.tmp 4) rfl (D) (0) q4 (nc x) _ (range_below RX.out hO' hDX.out) Tryd.underlying33 rfl (size_nc HX.out) ⟨rfl, hO⟩)
              · refine RU.ObT.silent rfl (fun a W k0 V hO hf hp hk => ?_)
                have hg : a.eval (.tmp 18) = .bool true := hp 6 18 rfl
                have hO' : Below U.heap.size U W := hO
                have e23 : a.eval (.tmp 23) = .agg (nc y).toArray := hp 11 23 rfl
                have e24 : a.eval (.tmp 24) = .agg (nc x).toArray := hp 12 24 rfl
                refine RU.ob_call (g := 24) (args := #[.agg (nc y).toArray, .agg (nc x).toArray]) rfl (RU.wanted_some rfl rfl rfl hg) (fun ev he hc => ?_) ((HAP.out W).mono ?_)
                · have h23 := (he (.tmp 23)).trans e23
                  have h24 := (he (.tmp 24)).trans e24
                  have hfn := he (.func 24)
                  simp only [List.getElem_toArray, List.getElem_cons_succ, List.getElem_cons_zero, execOp, Option.map_some, Option.map_none]
                  simp only [resolve, invoke, Sem.run_bind, Sem.run_pure, Result.andThen_ok, List.map_toArray, List.map_cons, List.map_nil, h23, h24, hfn, Act.eval, hc]
                  rfl
                · rintro e' W2 ⟨rfl, hb2⟩
                  exact ⟨_, rfl, rfl, (hO'.trans (hb2.mono hO'.size) : Below U.heap.size U W2)⟩
              · refine RU.ObT.silent rfl (fun a W k0 V hO hf hp hk => ?_)
                have hg : a.eval (.tmp 18) = .bool true := hp 6 18 rfl
                refine RU.ob_val rfl (RU.wanted_some rfl rfl rfl hg) (fun ev he hc => ?_) ⟨rfl, hO⟩
                have q25 : ev (.tmp 25) = .bool r := (he (.tmp 25)).trans (hp 13 25 rfl)
                simp only [List.getElem_toArray, List.getElem_cons_succ, List.getElem_cons_zero, execOp, Option.map_some, Option.map_none]; rw [q25]
                first | (go_simp; done) | (go_simp; rfl) | rfl
              · refine RU.ObT.silent rfl (fun a W k0 V hO hf hp hk => ?_)
                have hg : a.eval (.tmp 15) = .bool false := hp 3 15 rfl
                refine RU.ob_val rfl (RU.wanted_some rfl rfl rfl hg) (fun ev he hc => ?_) ⟨rfl, hO⟩
                have q18 : ev (.tmp 18) = .bool true := (he (.tmp 18)).trans (hp 6 18 rfl)
                have q26 : ev (.tmp 26) = .bool (!r) := (he (.tmp 26)).trans (hp 14 26 rfl)
                simp only [List.getElem_toArray, List.getElem_cons_succ, List.getElem_cons_zero, execOp, Option.map_some, Option.map_none]; rw [q18, q26]
                try simp only [hc]
                first | (go_simp; done) | (go_simp; rfl) | rfl
              · refine RU.ObT.pure rfl rfl rfl (fun a V hf hp ev he hc W => ?_)
                have q15 : ev (.tmp 15) = .bool false := (he (.tmp 15)).trans (hp 3 15 rfl)
                have q27 : ev (.tmp 27) = .bool (!r) := (he (.tmp 27)).trans (hp 15 27 rfl)
                simp only [List.getElem_toArray, List.getElem_cons_succ, List.getElem_cons_zero, execOp, Option.map_some, Option.map_none]; rw [q15, q27]
                try simp only [hc]
                first | (go_simp; done) | (go_simp; rfl) | rfl
            intro W1 VW1 hOW1
            have BW1 : Hid (Below U.heap.size U W1) := hOW1
            clear hOW1
            simp only [RU.lay, RU.val, RU.at', ap3f, Act.put]
            simp only [List.setIfInBounds_toArray, List.set_cons_succ, List.set_cons_zero]
            cases r with
            | true =>
              go_wp2_with fail
              exact ⟨⟨k + 1, by omega, by go_num, fun i hi => by
                rcases Nat.lt_succ_iff_lt_or_eq.1 hi with q | rfl
                · exact HA.out i q
                · exact HR.out, H4.out.trans ((BU.out.trans (BW1.out.mono BU.out.size)).mono H4.out.size)⟩, by simp [intOf]; omega⟩
            | false =>
              have HF : Hid (apt l = false) := apt_no (i := k) (by have := HLN.out; omega) HR.out
              go_wp2_with fail
              go_ret
              exact ⟨by rw [HF.out]; rfl, H4.out.trans ((BU.out.trans (BW1.out.mono BU.out.size)).mono H4.out.size)⟩
    · obtain rfl : k = len := by omega
      have HR : Hid (apt l = true) := (apt_iff l).2 (fun i hi => HA.out i (by have := HLN.out; omega))
      go_wp2_with fail
      go_ret
      exact ⟨by rw [HR.out]; rfl, H4.out⟩
end Go.Proofs.YtpojalbpekbfdabDoor
