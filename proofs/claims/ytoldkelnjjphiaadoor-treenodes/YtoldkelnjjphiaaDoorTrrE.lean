/- The reference: Join, NodeBytes, Top. -/
import Derived.Test.YtoldkelnjjphiaaDoorTrrB
import Derived.Test.YtoldkelnjjphiaaDoorTrjD
namespace Go.Proofs.YtoldkelnjjphiaaDoor
open Go Go.RowKit
set_option linter.unusedSimpArgs false
set_option linter.unusedVariables false
set_option maxRecDepth 100000

def mi (xss : List (List Int)) (i : Nat) : List Int := xss.getD i []
theorem mi_get {xss : List (List Int)} {i : Nat} (h : i < xss.length) : mi xss i = xss[i] := by simp [mi, List.getD, List.getElem?_eq_getElem h]
/-- A slice that holds these byte strings. -/
def LL (w : World) (v : Value) (xss : List (List Int)) : Prop :=
  ∃ ad cap, v = .slice ad xss.length cap ∧ xss.length ≤ cap ∧ ((xss = [] ∧ (ad = none → cap = 0)) ∨ ∃ b o, ad = some ⟨b, o, none⟩ ∧ b < w.heap.size ∧ ∀ i, i < xss.length → ∃ u, w.cell? ⟨b, o + i, none⟩ = some u ∧ Sl w u (mi xss i))
theorem LL.below {w w' : World} {v : Value} {xss : List (List Int)} (h : LL w v xss) (hb : Below w.heap.size w w') : LL w' v xss := by
  obtain ⟨ad, cap, rfl, hc, h⟩ := h
  refine ⟨ad, cap, rfl, hc, ?_⟩
  rcases h with h | ⟨b, o, rfl, hlt, hm⟩
  · exact .inl h
  · refine .inr ⟨b, o, rfl, Nat.lt_of_lt_of_le hlt hb.size, fun i hi => ?_⟩
    obtain ⟨u, h1, h2⟩ := hm i hi
    exact ⟨u, (hb.cell (p := ⟨b, o + i, none⟩) hlt).trans h1, h2.below hb (Nat.le_refl _)⟩
/-- The first members, joined. -/
def jo (xss : List (List Int)) : Nat → List Int
  | 0 => []
  | k + 1 => jo xss k ++ mi xss k
theorem jo_le {xss : List (List Int)} {B : Nat} (h : ∀ i, i < xss.length → (mi xss i).length ≤ B) : ∀ k, k ≤ xss.length → (jo xss k).length ≤ k * B
  | 0, _ => by simp [jo]
  | k + 1, hk => by
    have h1 := jo_le h k (by omega)
    have h2 := h k (by omega)
    simp only [jo, List.length_append, Nat.succ_mul]; omega
set_option maxHeartbeats 2000000 in
theorem rJoin_any (xss : List (List Int)) (v : Value) (w : World) (hs : LL w v xss) (hL : ∀ i, i < xss.length → (mi xss i).length ≤ 1048576) (hn : xss.length ≤ 1000) :
    Calls Tryd.prog 46 #[v] w fun e w' => ∃ v', e = .returned v' ∧ Ow w.heap.size w' v' (jo xss xss.length) ∧ Below w.heap.size w w' := by
  obtain ⟨ad, cap, rfl, hc, hx⟩ := hs
  have HX : Hid (xss = [] ∧ (ad = none → cap = 0) ∨ ∃ b o, ad = some ⟨b, o, none⟩ ∧ b < w.heap.size ∧ ∀ i, i < xss.length → ∃ u, w.cell? ⟨b, o + i, none⟩ = some u ∧ Sl w u (mi xss i)) := hx
  have HL : Hid (∀ i, i < xss.length → (mi xss i).length ≤ 1048576) := hL
  have HB : Hid (∀ k, k ≤ xss.length → (jo xss k).length ≤ k * 1048576) := fun k hk => jo_le hL k hk
  clear hx hL hc
  go_enter Tryd.func46, Tryd.ntmps46
  go_wp2_with fail
  go_loopw [3, 7] (fun ov i wr => ∃ k : Nat, k ≤ xss.length ∧ i = .int .i64 (k : Int) ∧ Ow w.heap.size wr ov (jo xss k) ∧ Below w.heap.size w wr) (fun _ i _ => xss.length - (intOf i).toNat)
  case atStart => exact ⟨0, Nat.zero_le _, rfl, Ow.nil _ _, Below.refl _ _⟩
  case round =>
    obtain ⟨k, hkl, rfl, how, h4⟩ := hrel
    have H4 : Hid (Below w.heap.size w wr) := h4
    have HO : Hid (Ow w.heap.size wr u3 (jo xss k)) := how
    clear h4 how
    by_cases hlt : k < xss.length
    · rcases HX.out with ⟨rfl, _⟩ | ⟨b, o, rfl, hlb, hm⟩
      · simp at hlt
      · obtain ⟨u, hc0, hu⟩ := hm k hlt
        have c0 : wr.cell? ⟨b, o + k, none⟩ = some u := (H4.out.cell (p := ⟨b, o + k, none⟩) hlb).trans hc0
        have HS : Hid (Sl wr u (mi xss k)) := hu.below H4.out (Nat.le_refl _)
        have HLK : Hid ((jo xss k).length + (mi xss k).length ≤ 140737488355328) := by
          have h1 := HB.out k hkl
          have h2 := HL.out k hlt
          have h3 := Nat.mul_le_mul_right 1048576 (show k ≤ 1000 by omega)
          show _ ≤ _; omega
        obtain ⟨ua, uc, hue, -, -⟩ := hu
        obtain ⟨ul, hul⟩ : ∃ n, (mi xss k).length = n := ⟨_, rfl⟩
        rw [hul] at hue
        subst hue
        clear hm hc0 hlb hul
        go_wp2_with (at_builtin; refine app_u8 (B0 := w.heap.size) rfl _ _ rfl H4.out.size u3 (jo xss k) rfl HO.out _ rfl (mi xss k) HS.out HLK.out ?_; intro v1 w1 g1 g2 g3 g4; have O1 : Hid (Ow w.heap.size w1 v1 (jo xss (k + 1))) := g1; have B1 : Hid (Below w.heap.size wr w1) := g3; clear g1 g2 g3 g4)
        exact ⟨⟨k + 1, hlt, by go_num, O1.out, H4.out.trans B1.out⟩, by simp [intOf]; omega⟩
    · obtain rfl : k = xss.length := by omega
      go_wp2_with fail
      go_ret
      exact ⟨_, rfl, HO.out, H4.out⟩
end Go.Proofs.YtoldkelnjjphiaaDoor
