/- The reference: Hashes, SameNodes. -/
import Derived.Test.YtfnmdeekenjlgaaWsC
namespace Go.Proofs.Ytfnmdeekenjlgaa
open Go Go.RowKit
set_option linter.unusedSimpArgs false
set_option linter.unusedVariables false
set_option maxRecDepth 100000

def cat (ds : List (List Int)) : List Int := ds.flatMap id
theorem cat_snoc {ds : List (List Int)} {k : Nat} {x : List Int} (h : ds[k]? = some x) : cat (ds.take (k + 1)) = cat (ds.take k) ++ x := by
  have : ds.take (k + 1) = ds.take k ++ [x] := by rw [List.take_add_one, h]; rfl
  rw [this]; simp [cat]
theorem cat_len : ∀ {ds : List (List Int)}, (∀ x ∈ ds, L32 x) → (cat ds).length = ds.length * 32
  | [], _ => rfl
  | a :: r, h => by
    have ih := cat_len (ds := r) (fun x hx => h x (List.mem_cons_of_mem _ hx))
    have e : cat (a :: r) = a ++ cat r := rfl
    rw [e, List.length_append, ih, (h a List.mem_cons_self).len, List.length_cons]; omega
theorem cat_byt {ds : List (List Int)} (hk : ∀ x ∈ ds, L32 x) : Byt (cat ds) := fun z hz => by
  obtain ⟨x, hx, h⟩ := List.mem_flatMap.1 hz
  exact (hk x hx).byt z h
set_option maxHeartbeats 2000000 in
theorem rhashes_any (ds : List (List Int)) (hk : ∀ x ∈ ds, L32 x) (hlen : ds.length ≤ 4398046510976) (v : Value) (w : World) (hv : YS w v ds) :
    Calls Try.prog 27 #[v] w fun e w' => ∃ v', e = .returned v' ∧ Ow w.heap.size w' v' (cat ds) ∧ Below w.heap.size w w' := by
  obtain ⟨ad, cap, rfl, hc, hx⟩ := hv
  have HX : Hid ((ds = [] ∧ (ad = none → cap = 0)) ∨ ∃ b o, ad = some ⟨b, o, none⟩ ∧ b < w.heap.size ∧ ∀ (i : Nat) (x : List Int), ds[i]? = some x → w.rangeAt b (o + i * 32) (bv x)) := hx
  have HK : Hid (∀ x ∈ ds, L32 x) := hk
  have HC : Hid (∀ k, (cat (ds.take k)).length ≤ 140737488351232) := fun k => by
    show _ ≤ _
    rw [cat_len (fun x hx => hk x (List.mem_of_mem_take hx)), List.length_take]; omega
  clear hx hk
  obtain ⟨n, hn⟩ : ∃ n, ds.length = n := ⟨_, rfl⟩
  have HN : Hid (ds.length = n) := hn
  rw [hn] at hc hlen ⊢
  clear hn
  go_enter Try.func27, Try.ntmps27
  go_wp2_with fail
  go_loopw [3, 7] (fun ov i wr => ∃ k : Nat, k ≤ n ∧ i = .int .i64 (k : Int) ∧ Ow w.heap.size wr ov (cat (ds.take k)) ∧ Below w.heap.size w wr) (fun _ i _ => n - (intOf i).toNat)
  case atStart => exact ⟨0, Nat.zero_le _, rfl, Ow.nil _ _, Below.refl _ _⟩
  case round =>
    obtain ⟨k, hkn, rfl, h1, h2⟩ := hrel
    have O1 : Hid (Ow w.heap.size wr _ (cat (ds.take k))) := h1
    have B1 : Hid (Below w.heap.size w wr) := h2
    clear h1 h2
    by_cases hlt : k < n
    · obtain ⟨x, hx⟩ : ∃ x, ds[k]? = some x := ⟨ds[k]'(by rw [HN.out]; exact hlt), List.getElem?_eq_getElem (by rw [HN.out]; exact hlt)⟩
      have HXK : Hid (ds[k]? = some x) := hx
      have HX32 : Hid (L32 x) := HK.out x (List.mem_of_getElem? hx)
      rcases HX.out with ⟨h0, _⟩ | ⟨b, o, rfl, hlb, hm⟩
      · rw [h0] at hx; simp at hx
      · have SX : Hid (Sl wr (.slice (some ⟨b, o + k * 32, none⟩) 32 32) x) := sl_range HX32.out (range_below (hm k x hx) B1.out hlb) (Nat.lt_of_lt_of_le hlb B1.out.size)
        have HLX : Hid ((cat (ds.take k)).length + x.length ≤ 140737488355328) := by show _ ≤ _; have := HC.out k; have := HX32.out.len; omega
        clear hm hlb hx
        go_wp2_with (at_builtin; refine app_u8 (B0 := w.heap.size) rfl _ _ rfl B1.out.size _ (cat (ds.take k)) rfl O1.out _ rfl x SX.out HLX.out ?_; intro v3 w3 q1 q2 q3 q4; have O3 : Hid (Ow w.heap.size w3 v3 (cat (ds.take k) ++ x)) := q1; have B3 : Hid (Below w.heap.size w w3) := B1.out.trans q3; clear q1 q2 q3 q4)
        exact ⟨⟨k + 1, hlt, by go_num, by rw [cat_snoc HXK.out]; exact O3.out, B3.out⟩, by simp [intOf]; omega⟩
    · obtain rfl : k = n := by omega
      have e : ds.take k = ds := by rw [← HN.out]; exact List.take_length
      have O2 : Hid (Ow w.heap.size wr u3 (cat ds)) := by have := O1.out; rw [e] at this; exact this
      clear e
      go_wp2_with fail
      go_ret
      exact ⟨_, rfl, O2.out, B1.out⟩
end Go.Proofs.Ytfnmdeekenjlgaa
