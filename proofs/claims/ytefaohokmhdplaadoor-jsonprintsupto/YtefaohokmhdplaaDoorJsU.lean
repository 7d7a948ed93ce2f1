/- Package json: one part of an object; objects. -/
import Derived.Test.YtefaohokmhdplaaDoorJsL
namespace Go.Proofs.YtefaohokmhdplaaDoor
open Go Go.RowKit
set_option linter.unusedSimpArgs false
set_option linter.unusedVariables false
set_option maxRecDepth 100000

set_option maxHeartbeats 2000000 in
theorem mem1_any {k key : ByteArray} {x : Value} {kb : Nat} {w : World} (h1 : x.oneCell' = true) (hk : w.heap[kb]? = some (.cells #[.string key] 9 (0, 0))) :
    Calls Tryd.prog 88 #[.agg #[.string k, x], .pointer (some ⟨kb, 0, none⟩)] w fun e w' => e = .returned (.bool (k.data.toList == key.data.toList)) ∧ Below w.heap.size w w' := by
  have hlt : kb < w.heap.size := (Array.getElem?_eq_some_iff.1 hk).1
  have hk2 : (w.alloc (.cells #[.string k, x] 75)).heap[kb]? = some (.cells #[.string key] 9 (0, 0)) := (heap_alloc_old _ _ hlt).trans hk
  obtain ⟨c1, f1⟩ := cell_of hk2
  have HB : Hid (Below w.heap.size w (w.alloc (.cells #[.string k, x] 75))) := (Below.refl _ _).alloc (Nat.le_refl _) _
  clear hk hk2
  go_enter Tryd.func88, Tryd.ntmps88
  go_wp2
  go_ret
  refine ⟨ret_bool ?_, HB.out⟩
  rw [ByteArray.toList_eq, ByteArray.toList_eq]
def hasK (key : ByteArray) (ms : List (ByteArray × Value)) : Bool := ms.any fun m => m.1.data.toList == key.data.toList
theorem mcs_at (ms : List (ByteArray × Value)) : ∀ (i : Nat) (m : ByteArray × Value), ms[i]? = some m → (mcs ms)[i * 2]? = some (.string m.1) ∧ (mcs ms)[i * 2 + 1]? = some m.2 := by
  induction ms with
  | nil => intro i m h; simp at h
  | cons a t ih =>
    intro i m h
    match i with
    | 0 => simp at h; subst h; exact ⟨rfl, rfl⟩
    | i + 1 =>
      have := ih i m (by simpa using h)
      simp only [mcs, List.flatMap_cons] at this ⊢
      rw [show (i + 1) * 2 = i * 2 + 1 + 1 by omega]
      exact ⟨by simpa using this.1, by simpa using this.2⟩
/-- The first member with the key. -/
def ixK (key : ByteArray) (ms : List (ByteArray × Value)) : Int := match ms.findIdx? (fun m => m.1.data.toList == key.data.toList) with | some i => (i : Int) | none => -1
theorem ixK_at {key : ByteArray} {ms : List (ByteArray × Value)} {k : Nat} {m : ByteArray × Value} (hx : ms[k]? = some m) (h : (m.1.data.toList == key.data.toList) = true) (hlo : ∀ (j : Nat) (y : ByteArray × Value), j < k → ms[j]? = some y → (y.1.data.toList == key.data.toList) = false) : ixK key ms = (k : Int) := by
  obtain ⟨hk, rfl⟩ := List.getElem?_eq_some_iff.1 hx
  have : ms.findIdx? (fun m => m.1.data.toList == key.data.toList) = some k := List.findIdx?_eq_some_iff_getElem.2 ⟨hk, h, fun j hj => by rw [hlo j _ hj (List.getElem?_eq_getElem (by omega))]; decide⟩
  unfold ixK; rw [this]
theorem ixK_none {key : ByteArray} {ms : List (ByteArray × Value)} (h : ∀ x ∈ ms, (x.1.data.toList == key.data.toList) = false) : ixK key ms = -1 := by
  have : ms.findIdx? (fun m => m.1.data.toList == key.data.toList) = none := List.findIdx?_eq_none_iff.2 h
  unfold ixK; rw [this]
theorem ixK_has (key : ByteArray) (ms : List (ByteArray × Value)) : decide (0 ≤ ixK key ms) = hasK key ms := by
  unfold ixK hasK
  cases h : ms.findIdx? (fun m => m.1.data.toList == key.data.toList) with
  | none =>
    have h1 := List.findIdx?_eq_none_iff.1 h
    rw [show ms.any (fun m => m.1.data.toList == key.data.toList) = false by rw [List.any_eq_false]; intro x hx; rw [h1 x hx]; decide]
    decide
  | some i =>
    obtain ⟨hi, h1, _⟩ := List.findIdx?_eq_some_iff_getElem.1 h
    rw [show ms.any (fun m => m.1.data.toList == key.data.toList) = true by rw [List.any_eq_true]; exact ⟨_, List.getElem_mem hi, h1⟩]
    exact decide_eq_true (by simp)
set_option maxHeartbeats 4000000 in
theorem index_mem {ms : List (ByteArray × Value)} {A : Nat → Prop} {key : ByteArray} {v : Value} {kb : Nat} {w : World} (hv : RV A w 2 v (mcs ms)) (h1 : ∀ m ∈ ms, m.2.oneCell' = true) (hl : ms.length ≤ 10000) (hk : w.heap[kb]? = some (.cells #[.string key] 9 (0, 0))) :
    Calls Tryd.prog 92 #[v, .func (.func 88) #[] #[.pointer (some ⟨kb, 0, none⟩)]] w fun e w' => e = .returned (.int .i64 (ixK key ms)) ∧ Below w.heap.size w w' := by
  obtain ⟨ad, n, cap, rfl, hcl, hc, hx⟩ := hv
  rw [mcs_length] at hcl
  have hn : n = ms.length := by omega
  subst hn
  have HKB : Hid (w.heap[kb]? = some (.cells #[.string key] 9 (0, 0))) := hk
  have hkb : kb < w.heap.size := (Array.getElem?_eq_some_iff.1 hk).1
  have HXX : Hid (ms.length = 0 ∨ ∃ b o, ad = some ⟨b, o, none⟩ ∧ A b ∧ b < w.heap.size ∧ w.rangeAt b o (mcs ms)) := hx
  have H1 : Hid (∀ m ∈ ms, m.2.oneCell' = true) := h1
  obtain ⟨R, hR⟩ : ∃ R, ixK key ms = R := ⟨_, rfl⟩
  have HR : Hid (ixK key ms = R) := hR
  rw [hR]
  obtain ⟨len, hln⟩ : ∃ len, ms.length = len := ⟨_, rfl⟩
  have HLN : Hid (ms.length = len) := hln
  rw [hln] at hl ⊢
  clear hx hk hcl hR h1 hc hln
  go_enter Tryd.func92, Tryd.ntmps92
  go_wp2_with fail
  go_loopw [8] (fun i wr => ∃ k : Nat, k ≤ len ∧ i = .int .i64 (k : Int) ∧ (∀ (j : Nat) (x : ByteArray × Value), j < k → ms[j]? = some x → (x.1.data.toList == key.data.toList) = false) ∧ Below w.heap.size w wr) (fun i _ => len - (intOf i).toNat)
  case atStart => exact ⟨0, Nat.zero_le _, rfl, fun j x hj => by omega, Below.refl _ _⟩
  case round =>
    obtain ⟨k, hkl, rfl, hall, h4⟩ := hrel
    have H4 : Hid (Below w.heap.size w wr) := h4
    have HA : Hid (∀ (j : Nat) (x : ByteArray × Value), j < k → ms[j]? = some x → (x.1.data.toList == key.data.toList) = false) := hall
    clear h4 hall
    by_cases hlt : k < len
    · rcases HXX.out with h0 | ⟨b, o, rfl, -, hlb, hm⟩
      · have := HLN.out; omega
      · obtain ⟨⟨kk, x⟩, hx⟩ : ∃ x, ms[k]? = some x := ⟨ms[k]'(by have := HLN.out; omega), List.getElem?_eq_getElem _⟩
        have HXK : Hid (ms[k]? = some (kk, x)) := hx
        have h1x : x.oneCell' = true := H1.out _ (List.mem_of_getElem? hx)
        obtain ⟨e0, e1⟩ := mcs_at ms k _ hx
        have c0 : wr.cell? ⟨b, o + k * 2, none⟩ = some (.string kk) := (H4.out.cell (p := ⟨b, o + k * 2, none⟩) hlb).trans (hm _ _ e0)
        have c1 : wr.cell? ⟨b, o + k * 2 + 1, none⟩ = some x := (H4.out.cell (p := ⟨b, o + k * 2 + 1, none⟩) hlb).trans (by have := hm _ _ e1; rwa [← Nat.add_assoc] at this)
        have hkw : wr.heap[kb]? = some (.cells #[.string key] 9 (0, 0)) := (H4.out.block kb hkb).trans HKB.out
        have HCL0 := @mem1_any kk key x kb wr h1x hkw
        clear hm hlb hx e0 e1 hkw
        cases hb : (kk.data.toList == key.data.toList) with
        | false =>
          rw [hb] at HCL0
          have HB : Hid ((kk.data.toList == key.data.toList) = false) := hb
          clear hb
          go_wp2_with (go_at_call 88; refine HCL0.mono ?_; rintro e w2 ⟨rfl, h5⟩; have H5 : Hid (Below wr.heap.size wr w2) := h5; clear h5)
          exact ⟨⟨k + 1, by omega, by go_num, fun j z hj hz => by
            rcases Nat.lt_succ_iff_lt_or_eq.1 hj with q | rfl
            · exact HA.out j z q hz
            · rw [HXK.out] at hz; cases hz; exact HB.out, H4.out.trans (H5.out.mono H4.out.size)⟩, by simp [intOf]; omega⟩
        | true =>
          rw [hb] at HCL0
          have HRR : Hid (R = (k : Int)) := by show R = _; rw [← HR.out]; exact ixK_at HXK.out hb HA.out
          clear hb
          go_wp2_with (go_at_call 88; refine HCL0.mono ?_; rintro e w2 ⟨rfl, h5⟩; have H5 : Hid (Below wr.heap.size wr w2) := h5; clear h5)
          go_ret
          exact ⟨by rw [HRR.out]; rfl, H4.out.trans (H5.out.mono H4.out.size)⟩
    · have HRR : Hid (R = -1) := by
        show R = -1
        rw [← HR.out]
        refine ixK_none (fun x hx => ?_)
        obtain ⟨i, hi, rfl⟩ := List.getElem_of_mem hx
        exact HA.out i _ (by have := HLN.out; omega) (List.getElem?_eq_getElem hi)
      go_wp2_with fail
      go_ret
      exact ⟨by rw [HRR.out]; rfl, H4.out⟩
theorem contains_mem {ms : List (ByteArray × Value)} {A : Nat → Prop} {key : ByteArray} {v : Value} {kb : Nat} {w : World} (hv : RV A w 2 v (mcs ms)) (h1 : ∀ m ∈ ms, m.2.oneCell' = true) (hl : ms.length ≤ 10000) (hk : w.heap[kb]? = some (.cells #[.string key] 9 (0, 0))) :
    Calls Tryd.prog 87 #[v, .func (.func 88) #[] #[.pointer (some ⟨kb, 0, none⟩)]] w fun e w' => e = .returned (.bool (hasK key ms)) ∧ Below w.heap.size w w' := by
  have hI := index_mem hv h1 hl hk
  have HH : Hid (decide (0 ≤ ixK key ms) = hasK key ms) := ixK_has key ms
  obtain ⟨ad, n, cap, rfl, -⟩ := hv
  obtain ⟨z, hz⟩ : ∃ z, ixK key ms = z := ⟨_, rfl⟩
  rw [hz] at hI HH
  clear hk h1 hl hz
  go_enter Tryd.func87, Tryd.ntmps87
  go_wp2_with (go_at_call 92; refine hI.mono ?_; rintro e w2 ⟨rfl, h5⟩; have H5 : Hid (Below w.heap.size w w2) := h5; clear h5)
  go_ret
  refine ⟨?_, H5.out⟩
  rw [← HH.out]
  rfl
end Go.Proofs.YtefaohokmhdplaaDoor
