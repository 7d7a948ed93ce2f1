/- What comes in as a slice of bytes. -/
import Derived.Test.YtfnmdeekenjlgaaRows
import Derived.Test.YtfnmdeekenjlgaaWirA
import Derived.ProofKit
import Derived.OpenShut
import Derived.ChangeOld
import Derived.SizedLaws
namespace Go.Proofs.Ytfnmdeekenjlgaa
open Go Go.ChangeShapes Go.WideShapes Go.ChangeAt Go.RowKit
set_option linter.unusedVariables false
set_option maxRecDepth 100000

theorem okWide_addr {W : World} {base : Nat} {x : Addr} {l c : Nat} {t e : TypeId} (hu : Try.prog.underlying t = some (.slice e)) (hv : Value.okWide Try.prog W .any base t (.slice (some x) l c)) : x.spot = none ∧ x.block < W.heap.size := by
  simp only [Value.okWide, hu, Cell.okWide, Cell.ok] at hv
  obtain ⟨_, _, _, hs, row, cells, hsh, _⟩ := hv
  refine ⟨hs, ?_⟩
  unfold World.shape? at hsh
  cases hg : W.heap[x.block]? with
  | none => rw [hg] at hsh; simp at hsh
  | some o => exact (Array.getElem?_eq_some_iff.1 hg).1
theorem byte_wf {n : Int} (h : (Lit.int .u8 n).wf = true) : 0 ≤ n ∧ n ≤ 255 := by
  simp only [Lit.wf, Bool.and_eq_true, decide_eq_true_eq] at h
  exact h
theorem sl_of {W : World} {b o l c : Nat} {zs : List Int} (hb : b < W.heap.size) (hl : l ≤ c) (hz : zs.length = c) (hcell : ∀ i, i < zs.length → W.cell? ((⟨b, o, none⟩ : Addr).add i) = some (.int .u8 (zs.getD i 0))) (hwz : ∀ n ∈ zs, (Lit.int .u8 n).wf = true) :
    Byt (zs.take l) ∧ (zs.take l).length = l ∧ Sl W (.slice (some ⟨b, o, none⟩) l c) (zs.take l) := by
  have hlen : (zs.take l).length = l := by rw [List.length_take]; omega
  refine ⟨fun z hz' => byte_wf (hwz z (List.mem_of_mem_take hz')), hlen, ⟨some ⟨b, o, none⟩, c, by rw [hlen], by rw [hlen]; exact hl, .inr ⟨b, o, rfl, hb, fun i hi => ?_⟩⟩⟩
  rw [hlen] at hi
  have h1 := hcell i (by omega)
  rw [addr_add0] at h1
  rw [h1]
  unfold gi
  simp only [List.getD_eq_getElem?_getD, List.getElem?_take, if_pos hi]
/-- A slice of bytes that came in. -/
theorem open_bytes {H : Type} {enc : TypeId × Value → H} {W : World} {base : Nat} {a : Option Addr} {l c : Nat} {d : DataW H} {p : List MemPlace} (hv : Value.okWide Try.prog W .any base 34 (.slice a l c))
    (h : DataW.Trod enc Try.prog W 0 (fun _ => true) true 34 (.slice a l c) d p) :
    ∃ xs, Byt xs ∧ xs.length = l ∧ Sl W (.slice a l c) xs ∧ ((d = .nil ∧ l = 0) ∨ ∃ es sp, d = .slice es sp ∧ es.length + sp.length = c ∧ l ≤ c) := by
  obtain ⟨fuel, hf⟩ := h
  rcases open_ints Try.underlying34 Try.underlying5 (by kernel_rfl) hf with ⟨hcs, hx⟩ | ⟨x, l', c', zs, hcs, _, hl, hm, hz, hx, hcell, hwz⟩
  · simp [Value.cells] at hcs
    obtain ⟨rfl, rfl, rfl⟩ := hcs
    exact ⟨[], Byt.nil, rfl, ⟨none, 0, rfl, Nat.le_refl _, .inl ⟨rfl, fun _ => rfl⟩⟩, .inl ⟨congrArg Prod.fst hx, rfl⟩⟩
  · simp [Value.cells] at hcs
    obtain ⟨rfl, rfl, rfl⟩ := hcs
    obtain ⟨hs, hb⟩ := okWide_addr Try.underlying34 hv
    obtain ⟨b, o, sp⟩ := x
    obtain rfl : sp = none := hs
    have hz' : zs.length = c := by simpa using hz
    obtain ⟨h1, h2, h3⟩ := sl_of hb hl hz' hcell hwz
    refine ⟨_, h1, h2, h3, .inr ⟨_, _, congrArg Prod.fst hx, ?_, hl⟩⟩
    simp only [lits, List.length_map, List.length_take, List.length_drop]; omega
end Go.Proofs.Ytfnmdeekenjlgaa
/- Numbers of bytes: numberOf, ReadNum, the reference's ReadNum. -/
namespace Go.Proofs.Ytfnmdeekenjlgaa
open Go Go.RowKit
set_option linter.unusedSimpArgs false
set_option linter.unusedVariables false

def nm (xs : List Int) : Int := xs.foldl (fun a x => bits .or .u64 (IntKind.u64.wrap (a * 256)) x) 0
theorem nm_snoc (xs : List Int) (k : Nat) (h : k < xs.length) : nm (xs.take (k + 1)) = bits .or .u64 (IntKind.u64.wrap (nm (xs.take k) * 256)) (gi xs k) := by
  unfold nm
  rw [List.take_succ_eq_append_getElem h, List.foldl_append]
  rw [gi_get h]; rfl
theorem ret_int {k : IntKind} {a b : Int} (h : a = b) : Ending.returned (.int k a) = .returned (.int k b) := by rw [h]
set_option maxHeartbeats 400000 in
theorem numberOf_any (xs : List Int) (v : Value) (w : World) (hb : Byt xs) (hs : Sl w v xs) (hl : xs.length ≤ 140737488355328) :
    Calls Try.prog 62 #[v] w fun e w' => e = .returned (.int .u64 (nm xs)) ∧ w' = w := by
  obtain ⟨ad, cap, rfl, hc, hx⟩ := hs
  have HX : Hid _ := hx
  clear hx
  have HB : Hid (Byt xs) := hb
  clear hb
  go_enter Try.func62, Try.ntmps62
  go_wp2
  go_loop [3, 8] (fun n i => ∃ k : Nat, k ≤ xs.length ∧ i = .int .i64 k ∧ n = .int .u64 (nm (xs.take k))) (fun _ i => xs.length - (intOf i).toNat)
  case atStart => exact ⟨0, Nat.zero_le _, rfl, rfl⟩
  case round =>
    obtain ⟨k, hk, rfl, rfl⟩ := hrel
    by_cases hlt : k < xs.length
    · have HS : Hid _ := nm_snoc xs k hlt
      obtain ⟨g1, g2⟩ := Byt.get HB.out hlt
      rcases HX.out with ⟨rfl, _⟩ | ⟨b, o, rfl, hlb, hm⟩
      · simp at hlt
      · have hc0 := hm k hlt
        clear hm
        go_wp2
        go_round
        case rel => exact ⟨k + 1, by omega, by go_num, by rw [HS.out]⟩
        case measure => simp [intOf]; omega
    · go_wp2
      go_ret
      exact ⟨ret_int (by rw [List.take_of_length_le (by omega)]), rfl⟩
end Go.Proofs.Ytfnmdeekenjlgaa
