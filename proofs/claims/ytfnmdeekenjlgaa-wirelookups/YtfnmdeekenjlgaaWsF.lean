/- Package wire: lensHold. -/
import Derived.Test.YtfnmdeekenjlgaaWsE
namespace Go.Proofs.Ytfnmdeekenjlgaa
open Go Go.RowKit
set_option linter.unusedSimpArgs false
set_option linter.unusedVariables false
set_option maxRecDepth 100000

def ixf (f : Nd → Bool) (l : List Nd) : Int := match l.findIdx? f with | some i => (i : Int) | none => -1
theorem ixf_at {f : Nd → Bool} {l : List Nd} {k : Nat} {x : Nd} (hx : l[k]? = some x) (h : f x = true) (hlo : ∀ (j : Nat) (y : Nd), j < k → l[j]? = some y → f y = false) : ixf f l = (k : Int) := by
  obtain ⟨hk, rfl⟩ := List.getElem?_eq_some_iff.1 hx
  have : l.findIdx? f = some k := List.findIdx?_eq_some_iff_getElem.2 ⟨hk, h, fun j hj => by rw [hlo j _ hj (List.getElem?_eq_getElem (by omega))]; decide⟩
  unfold ixf; rw [this]
theorem ixf_none {f : Nd → Bool} {l : List Nd} (h : ∀ x ∈ l, f x = false) : ixf f l = -1 := by
  have : l.findIdx? f = none := List.findIdx?_eq_none_iff.2 h
  unfold ixf; rw [this]
set_option maxHeartbeats 4000000 in
theorem index_lens (l : List Nd) (hk : ∀ x ∈ l, x.Ok) (hlen : l.length ≤ 140737488355328) (f : Nd → Bool) (v : Value) (w : World) (hv : NS w v l)
    (hf : ∀ x ∈ l, ∀ W : World, Below w.heap.size w W → Calls Try.prog 55 #[.agg (nc x).toArray] W fun e w' => e = .returned (.bool (f x)) ∧ Below W.heap.size W w') :
    Calls Try.prog 66 #[v, .func (.func 55) #[] #[]] w fun e w' => e = .returned (.int .i64 (ixf f l)) ∧ Below w.heap.size w w' := by
  have HF : Hid (∀ x ∈ l, ∀ W : World, Below w.heap.size w W → Calls Try.prog 55 #[.agg (nc x).toArray] W fun e w' => e = .returned (.bool (f x)) ∧ Below W.heap.size W w') := hf
  obtain ⟨ad, cap, rfl, hc, hx⟩ := hv
  have HXX : Hid (l = [] ∧ (ad = none → cap = 0) ∨ ∃ b o, ad = some ⟨b, o, none⟩ ∧ b < w.heap.size ∧ ∀ (i : Nat) (x : Nd), l[i]? = some x → w.rangeAt b (o + i * 65) (nc x)) := hx
  have HK : Hid (∀ x ∈ l, x.Ok) := hk
  obtain ⟨len, hln⟩ : ∃ len, l.length = len := ⟨_, rfl⟩
  have HLN : Hid (l.length = len) := hln
  obtain ⟨R, hR⟩ : ∃ R, ixf f l = R := ⟨_, rfl⟩
  have HR : Hid (ixf f l = R) := hR
  rw [hR]
  rw [hln] at hlen ⊢
  clear hx hk hc hln hf hR
  go_enter Try.func66, Try.ntmps66
  go_wp2_with fail
  go_loopw [8] (fun i wr => ∃ k : Nat, k ≤ len ∧ i = .int .i64 (k : Int) ∧ (∀ (j : Nat) (x : Nd), j < k → l[j]? = some x → f x = false) ∧ Below w.heap.size w wr) (fun i _ => len - (intOf i).toNat)
  case atStart => exact ⟨0, Nat.zero_le _, rfl, fun j x hj => by omega, Below.refl _ _⟩
  case round =>
    obtain ⟨k, hkl, rfl, hall, h4⟩ := hrel
    have H4 : Hid (Below w.heap.size w wr) := h4
    have HA : Hid (∀ (j : Nat) (x : Nd), j < k → l[j]? = some x → f x = false) := hall
    clear h4 hall
    by_cases hlt : k < len
    · rcases HXX.out with ⟨h0, _⟩ | ⟨b, o, rfl, hlb, hm⟩
      · have := HLN.out; rw [h0] at this; simp at this; omega
      · obtain ⟨x, hx⟩ : ∃ x, l[k]? = some x := ⟨l[k]'(by have := HLN.out; omega), List.getElem?_eq_getElem _⟩
        have HX : Hid x.Ok := HK.out x (List.mem_of_getElem? hx)
        have HXK : Hid (l[k]? = some x) := hx
        have HRX : Hid (wr.rangeAt b (o + k * 65) (nc x)) := range_below (hm k x hx) (H4.out.mono (Nat.le_refl _)) hlb
        cases hb : f x with
        | false =>
          have HCL : Hid (Calls Try.prog 55 #[.agg (nc x).toArray] wr fun e w' => e = .returned (.bool false) ∧ Below wr.heap.size wr w') := by have := HF.out x (List.mem_of_getElem? hx) wr H4.out; rw [hb] at this; exact this
          have HB : Hid (f x = false) := hb
          obtain ⟨X, hX⟩ : ∃ X, (nc x).toArray = X := ⟨_, rfl⟩
          rw [hX] at HCL
          clear hm hlb hx hb
          go_wp2_with (first
            | (refine load_g rfl 94 (.tmp 14) rfl b (o + k * 65) rfl (nc x) _ HRX.out Try.underlying94 rfl (size_nc HX.out) ?_; rw [hX])
            | (go_at_call 55; refine HCL.out.mono ?_; rintro e w2 ⟨rfl, h5⟩; have H5 : Hid (Below wr.heap.size wr w2) := h5; clear h5))
          exact ⟨⟨k + 1, by omega, by go_num, fun j z hj hz => by
            rcases Nat.lt_succ_iff_lt_or_eq.1 hj with q | rfl
            · exact HA.out j z q hz
            · rw [HXK.out] at hz; cases hz; exact HB.out, H4.out.trans (H5.out.mono H4.out.size)⟩, by simp [intOf]; omega⟩
        | true =>
          have HCL : Hid (Calls Try.prog 55 #[.agg (nc x).toArray] wr fun e w' => e = .returned (.bool true) ∧ Below wr.heap.size wr w') := by have := HF.out x (List.mem_of_getElem? hx) wr H4.out; rw [hb] at this; exact this
          have HRR : Hid (R = (k : Int)) := by show R = _; rw [← HR.out]; exact ixf_at hx hb HA.out
          obtain ⟨X, hX⟩ : ∃ X, (nc x).toArray = X := ⟨_, rfl⟩
          rw [hX] at HCL
          clear hm hlb hx hb
          go_wp2_with (first
            | (refine load_g rfl 94 (.tmp 14) rfl b (o + k * 65) rfl (nc x) _ HRX.out Try.underlying94 rfl (size_nc HX.out) ?_; rw [hX])
            | (go_at_call 55; refine HCL.out.mono ?_; rintro e w2 ⟨rfl, h5⟩; have H5 : Hid (Below wr.heap.size wr w2) := h5; clear h5))
          go_ret
          exact ⟨by rw [HRR.out]; rfl, H4.out.trans (H5.out.mono H4.out.size)⟩
    · have HRR : Hid (R = -1) := by
        show R = -1
        rw [← HR.out]
        refine ixf_none (fun x hx => ?_)
        obtain ⟨i, hi, rfl⟩ := List.getElem_of_mem hx
        exact HA.out i _ (by have := HLN.out; omega) (List.getElem?_eq_getElem hi)
      go_wp2_with fail
      go_ret
      exact ⟨by rw [HRR.out]; rfl, H4.out⟩
def ubad (x : Nd) : Bool := decide (x.n < 0) || decide (x.n > 256)
set_option maxHeartbeats 4000000 in
theorem lensC_any {x : Nd} (hx : x.Ok) (w : World) : Calls Try.prog 55 #[.agg (nc x).toArray] w fun e w' => e = .returned (.bool (ubad x)) ∧ Below w.heap.size w w' := by
  have s1 := nc_size hx
  have ra := range_alloc w (nc x) 94 (0, 0)
  have rl : Below w.heap.size w (w.alloc (.cells (nc x).toArray 94)) := (Below.refl _ w).alloc (Nat.le_refl _) _
  have hcl := nc_n ra
  obtain ⟨z, hz⟩ : ∃ z, x.n = z := ⟨_, rfl⟩
  have HU : Hid (ubad x = (decide (z < 0) || decide (z > 256))) := by show _ = _; unfold ubad; rw [hz]
  rw [hz] at hcl
  obtain ⟨A, hA⟩ : ∃ A, (nc x).toArray = A := ⟨_, rfl⟩
  rw [hA] at ra s1 rl hcl ⊢
  have RL : Hid (Below w.heap.size w (w.alloc (.cells A 94))) := rl
  clear ra rl hA hx hz
  by_cases h0 : z < 0
  · have HV : Hid (ubad x = true) := by show _ = _; rw [HU.out]; simp [h0]
    go_enter Try.func55, Try.ntmps55
    go_wp2_with fail
    go_ret
    exact ⟨by rw [HV.out]; rfl, RL.out⟩
  · by_cases h1 : z > 256
    · have HV : Hid (ubad x = true) := by show _ = _; rw [HU.out]; simp [h1]
      go_enter Try.func55, Try.ntmps55
      go_wp2_with fail
      go_ret
      exact ⟨by rw [HV.out]; rfl, RL.out⟩
    · have HV : Hid (ubad x = false) := by show _ = _; rw [HU.out]; simp [h0, h1]
      go_enter Try.func55, Try.ntmps55
      go_wp2_with fail
      go_ret
      exact ⟨by rw [HV.out]; rfl, RL.out⟩
theorem ixf_lok (l : List Nd) : (0 ≤ ixf ubad l) ↔ ¬ lok l := by
  unfold ixf
  cases h : l.findIdx? ubad with
  | none =>
    have h1 := List.findIdx?_eq_none_iff.1 h
    constructor
    · intro q; exact absurd q (by decide)
    · intro q; exact absurd (fun x hx => by have := h1 x hx; unfold ubad at this; simp at this; omega) q
  | some i =>
    obtain ⟨hi, h1, -⟩ := List.findIdx?_eq_some_iff_getElem.1 h
    constructor
    · intro _ q
      have := q _ (List.getElem_mem hi)
      unfold ubad at h1
      simp at h1
      omega
    · intro _; show (0 : Int) ≤ (i : Int); omega
set_option maxHeartbeats 4000000 in
theorem contains_lens (l : List Nd) (hk : ∀ x ∈ l, x.Ok) (hlen : l.length ≤ 140737488355328) (v : Value) (w : World) (hv : NS w v l) :
    Calls Try.prog 54 #[v, .func (.func 55) #[] #[]] w fun e w' => e = .returned (.bool (decide (0 ≤ ixf ubad l))) ∧ Below w.heap.size w w' := by
  have HIX : Hid (Calls Try.prog 66 #[v, .func (.func 55) #[] #[]] w fun e w' => e = .returned (.int .i64 (ixf ubad l)) ∧ Below w.heap.size w w') := index_lens l hk hlen ubad v w hv (fun x hx W _ => lensC_any (hk x hx) W)
  obtain ⟨R, hR⟩ : ∃ R, ixf ubad l = R := ⟨_, rfl⟩
  rw [hR] at HIX ⊢
  clear hk hlen hv hR
  by_cases h : 0 ≤ R
  · rw [decide_eq_true h]
    go_enter Try.func54, Try.ntmps54
    have h9 : R ≥ 0 := h
    go_wp2_with (go_at_call 66; refine HIX.out.mono ?_; rintro e w1 ⟨rfl, g1⟩; have G1 : Hid (Below w.heap.size w w1) := g1; clear g1)
    go_ret
    exact ⟨by first | rfl | simp [h], G1.out⟩
  · rw [decide_eq_false h]
    go_enter Try.func54, Try.ntmps54
    go_wp2_with (go_at_call 66; refine HIX.out.mono ?_; rintro e w1 ⟨rfl, g1⟩; have G1 : Hid (Below w.heap.size w w1) := g1; clear g1)
    go_ret
    exact ⟨by first | rfl | simp [h], G1.out⟩
open Classical in
set_option maxHeartbeats 4000000 in
theorem lensHold_any (l : List Nd) (hk : ∀ x ∈ l, x.Ok) (hlen : l.length ≤ 140737488355328) (v : Value) (w : World) (hv : NS w v l) :
    Calls Try.prog 18 #[v] w fun e w' => ∃ ok, e = .returned (.bool ok) ∧ (ok = true ↔ lok l) ∧ Below w.heap.size w w' := by
  have HCT := contains_lens l hk hlen v w hv
  obtain ⟨c, hc⟩ : ∃ c, decide (0 ≤ ixf ubad l) = c := ⟨_, rfl⟩
  rw [hc] at HCT
  have HC : Hid ((!c) = true ↔ lok l) := by
    show _ ↔ _
    rw [← hc]
    have := ixf_lok l
    by_cases h : 0 ≤ ixf ubad l
    · simp [h]; exact this.1 h
    · simp [h]
      exact Classical.byContradiction fun q => h (this.2 q)
  have HCF : Hid (Calls Try.prog 54 #[v, .func (.func 55) #[] #[]] w fun e w' => e = .returned (.bool c) ∧ Below w.heap.size w w') := HCT
  clear HCT hc hk hlen hv
  go_enter Try.func18, Try.ntmps18
  go_wp2_with (go_at_call 54; refine HCF.out.mono ?_; rintro e w1 ⟨rfl, g1⟩; have G1 : Hid (Below w.heap.size w w1) := g1; clear g1)
  go_ret
  exact ⟨_, rfl, HC.out, G1.out⟩
end Go.Proofs.Ytfnmdeekenjlgaa
