/- Package store: a slice of changes; find. -/
import Derived.Test.YtphjjjijdbljaaaDoorWalX
import Derived.Lib.UnsafeStr
import Derived.Lib.BufferWrite
namespace Go.Proofs.YtphjjjijdbljaaaDoor
open Go Go.RowKit
set_option linter.unusedSimpArgs false
set_option linter.unusedVariables false
set_option maxRecDepth 100000

theorem size_cg : (Tryd.prog.info? 38).map (·.size) = some 3 := by kernel_rfl
/-- A slice that holds these changes. -/
def CS (w : World) (v : Value) (l : List Cg) : Prop := ∃ ad cap, v = .slice ad l.length cap ∧ l.length ≤ cap ∧ ((l = [] ∧ (ad = none → cap = 0)) ∨ ∃ b o, ad = some ⟨b, o, none⟩ ∧ b < w.heap.size ∧ ∀ i c, l[i]? = some c → w.rangeAt b (o + i * 3) (cc c).toList)
theorem CS.below {w w' : World} {v : Value} {l : List Cg} (h : CS w v l) (hb : Below w.heap.size w w') : CS w' v l := by
  obtain ⟨ad, cap, rfl, hc, h⟩ := h
  refine ⟨ad, cap, rfl, hc, ?_⟩
  rcases h with h | ⟨b, o, rfl, hlt, hm⟩
  · exact .inl h
  · refine .inr ⟨b, o, rfl, Nat.lt_of_lt_of_le hlt hb.size, fun i c hi j v hv => ?_⟩
    exact (hb.cell (p := ⟨b, o + i * 3 + j, none⟩) hlt).trans (hm i c hi j v hv)
def cp (c : Cg) (key : ByteArray) : Int := Lib.compareBytes c.k.data.toList key.data.toList
/-- Where the key is, or would be. -/
structure Sp (l : List Cg) (key : ByteArray) (m : Nat) : Prop where
  le : m ≤ l.length
  lo : ∀ i c, l[i]? = some c → i < m → cp c key < 0
  hi : ∀ i c, l[i]? = some c → m ≤ i → 0 ≤ cp c key
def tr (l : List Cg) (key : ByteArray) (m : Nat) : Bool := match l[m]? with | some c => decide (cp c key = 0) | none => false
set_option maxHeartbeats 2000000 in
theorem search_any (l : List Cg) (key : ByteArray) (m : Nat) (hs : Sp l key m) (v : Value) (w : World) (hv : CS w v l) (hn : l.length ≤ 140737488355328) :
    Calls Tryd.prog 21 #[v, .string key, .func (.func 22) #[] #[]] w fun e w' => e = .returned (.tuple #[.int .i64 (m : Int), .bool (tr l key m)]) ∧ Below w.heap.size w w' := by
  obtain ⟨ad, cap, rfl, hc, hx⟩ := hv
  have HX : Hid (l = [] ∧ (ad = none → cap = 0) ∨ ∃ b o, ad = some ⟨b, o, none⟩ ∧ b < w.heap.size ∧ ∀ i c, l[i]? = some c → w.rangeAt b (o + i * 3) (cc c).toList) := hx
  have HS : Hid (Sp l key m) := hs
  clear hx hs hc
  go_enter Tryd.func21, Tryd.ntmps21
  go_wp2_with fail
  go_loopw [9, 10] (fun i j wr => ∃ (a b : Nat), a ≤ m ∧ m ≤ b ∧ b ≤ l.length ∧ i = .int .i64 (a : Int) ∧ j = .int .i64 (b : Int) ∧ Below w.heap.size w wr) (fun i j _ => (intOf j).toNat - (intOf i).toNat)
  case atStart => exact ⟨0, l.length, Nat.zero_le _, HS.out.le, Nat.le_refl _, rfl, rfl, Below.refl _ _⟩
  case round =>
    obtain ⟨i, j, h1, h2, h3, rfl, rfl, h4⟩ := hrel
    have H4 : Hid (Below w.heap.size w wr) := h4
    clear h4
    by_cases hlt : i < j
    · rcases HX.out with ⟨rfl, _⟩ | ⟨b, o, rfl, hlb, hm⟩
      · simp at h3; omega
      · obtain ⟨k, hk⟩ : ∃ k : Nat, ((i : Int) + (j : Int)) / 2 = (k : Int) := ⟨(i + j) / 2, by omega⟩
        have hk1 : i ≤ k ∧ k < j := by omega
        obtain ⟨c, hc⟩ : ∃ c, l[k]? = some c := ⟨l[k]'(by omega), List.getElem?_eq_getElem (by omega)⟩
        have HR : Hid (wr.rangeAt b (o + k * 3) (cc c).toList) := by
          intro q u hu
          exact (H4.out.cell (p := ⟨b, o + k * 3 + q, none⟩) hlb).trans (hm k c hc q u hu)
        have hkl : k < l.length := by omega
        have c0 : wr.cell? ⟨b, o + k * 3, none⟩ = some (.string c.k) := HR.out 0 _ rfl
        have c1 : wr.cell? ⟨b, o + k * 3 + 1, none⟩ = some (.string c.v) := HR.out 1 _ rfl
        have c2 : wr.cell? ⟨b, o + k * 3 + 2, none⟩ = some (.bool c.gn) := HR.out 2 _ rfl
        clear hm hlb
        by_cases hneg : cp c key < 0
        · have hkm : k < m := by
            rcases Nat.lt_or_ge k m with h | h
            · exact h
            · have := HS.out.hi k c hc h; omega
          have HNG : Hid (cp c key < 0) := hneg
          have hlss : Lib.compareBytes c.k.data.toList key.data.toList < 0 := hneg
          clear hneg hc
          go_wp2_with ((go_at_call 22; refine (closure_any c key _).mono ?_; rintro e w2 ⟨rfl, h5⟩; have H5 : Hid (Below wr.heap.size wr w2) := h5; clear h5))
          exact ⟨⟨k + 1, j, hkm, h2, h3, by go_num, rfl, H4.out.trans (H5.out.mono H4.out.size)⟩, by simp [intOf]; omega⟩
        · have hkm : m ≤ k := by
            rcases Nat.lt_or_ge k m with h | h
            · have := HS.out.lo k c hc h; omega
            · exact h
          have hlss : ¬ Lib.compareBytes c.k.data.toList key.data.toList < 0 := hneg
          clear hneg hc
          go_wp2_with ((go_at_call 22; refine (closure_any c key _).mono ?_; rintro e w2 ⟨rfl, h5⟩; have H5 : Hid (Below wr.heap.size wr w2) := h5; clear h5))
          exact ⟨⟨i, k, h1, hkm, by omega, rfl, rfl, H4.out.trans (H5.out.mono H4.out.size)⟩, by simp [intOf]; omega⟩
    · obtain rfl : i = m := by omega
      by_cases hml : i < l.length
      · rcases HX.out with ⟨rfl, _⟩ | ⟨b, o, rfl, hlb, hm⟩
        · simp at hml
        · obtain ⟨c, hc⟩ : ∃ c, l[i]? = some c := ⟨l[i]'(by omega), List.getElem?_eq_getElem (by omega)⟩
          have HR : Hid (wr.rangeAt b (o + i * 3) (cc c).toList) := by
            intro q u hu
            exact (H4.out.cell (p := ⟨b, o + i * 3 + q, none⟩) hlb).trans (hm i c hc q u hu)
          have HT : Hid (tr l key i = decide (Lib.compareBytes c.k.data.toList key.data.toList = 0)) := by show tr l key i = _; unfold tr; rw [hc]; rfl
          have c0 : wr.cell? ⟨b, o + i * 3, none⟩ = some (.string c.k) := HR.out 0 _ rfl
          have c1 : wr.cell? ⟨b, o + i * 3 + 1, none⟩ = some (.string c.v) := HR.out 1 _ rfl
          have c2 : wr.cell? ⟨b, o + i * 3 + 2, none⟩ = some (.bool c.gn) := HR.out 2 _ rfl
          clear hm hc
          go_wp2_with ((go_at_call 22; refine (closure_any c key _).mono ?_; rintro e w2 ⟨rfl, h5⟩; have H5 : Hid (Below wr.heap.size wr w2) := h5; clear h5))
          go_ret2
          exact ⟨by rw [HT.out]; rfl, H4.out.trans (H5.out.mono H4.out.size)⟩
      · have HT : Hid (tr l key i = false) := by show tr l key i = _; unfold tr; rw [List.getElem?_eq_none (by omega)]
        have hml2 : ¬ (i : Int) < (l.length : Int) := by omega
        go_wp2_with fail
        go_ret2
        exact ⟨by rw [HT.out]; rfl, H4.out⟩
set_option maxHeartbeats 1000000 in
theorem find_any (l : List Cg) (key : ByteArray) (m : Nat) (hs : Sp l key m) (v : Value) (w : World) (b o : Nat) (hc : w.cell? ⟨b, o, none⟩ = some v) (hv : CS w v l) (hn : l.length ≤ 140737488355328) :
    Calls Tryd.prog 11 #[.pointer (some ⟨b, o, none⟩), .string key] w fun e w' => e = .returned (.tuple #[.int .i64 (m : Int), .bool (tr l key m)]) ∧ Below w.heap.size w w' := by
  have HV : Hid (CS w v l) := hv
  have HS : Hid (Sp l key m) := hs
  obtain ⟨ad, cap, rfl, -, -⟩ := hv
  clear hs
  go_enter Tryd.func11, Tryd.ntmps11
  go_wp2_with (go_at_call 21; refine (search_any l key m HS.out _ _ HV.out hn).mono ?_; rintro e w2 ⟨rfl, h5⟩; have H5 : Hid (Below w.heap.size w w2) := h5; clear h5)
  go_ret2
  exact ⟨rfl, H5.out⟩
end Go.Proofs.YtphjjjijdbljaaaDoor
/- Package store: strings.Clone. -/
namespace Go.Proofs.YtphjjjijdbljaaaDoor
open Go Go.RowKit
set_option linter.unusedSimpArgs false
set_option linter.unusedVariables false
set_option maxRecDepth 100000

theorem cellsOf_u8 : Tryd.prog.cellsOf 5 = 1 := by kernel_rfl
theorem info1_u8 : (Tryd.prog.info? 5).map (·.size) = some 1 := by kernel_rfl
/-- A row that a text is made of. -/
theorem row_str {w : World} {g : Nat} {cur : Array Value} (hg : w.heap[g]? = some (.cells cur 5 (0, 0))) (s : ByteArray) (h0 : s.size ≠ 0) (hl : s.size ≤ 140737488355328) (hs : cur.size = s.size) (ty it pt : TypeId) (hp : Tryd.prog.underlying pt = some (.pointer 5)) :
    ∃ w1, (Builtin.copy_ #[71, 9] 3 #[.slice (some ⟨g, 0, none⟩) s.size s.size, .string s]).run Tryd.prog w = .ok (.int .i64 (s.size : Int)) w1 ∧ (∀ k, k ≠ g → w1.heap[k]? = w.heap[k]?) ∧ w1.heap.size = w.heap.size ∧ (∀ B, B ≤ g → Below B w w1) ∧ (Builtin.unsafeString_ #[pt, it] ty #[.pointer (some ⟨g, 0, none⟩), .int .i64 (s.size : Int)]).run Tryd.prog w1 = .ok (.string s) (w1.freeze ⟨g, 0, none⟩ s.size) := by
  have hcp := Lib.run_copy_row_string (P := Tryd.prog) w 71 9 3 5 g 0 s.size s.size s cur 5 Tryd.underlying71 info1_u8 hg (Nat.le_refl _) (by omega)
  obtain ⟨Y, hY⟩ : ∃ Y, Y = (cur.toList.take 0 ++ Lib.byteCells s.data.toList ++ cur.toList.drop (0 + s.size)).toArray := ⟨_, rfl⟩
  rw [← hY] at hcp
  have hYl : Y.toList = Lib.byteCells s.data.toList := by
    rw [hY, List.toList_toArray, List.take_zero, List.nil_append, List.drop_of_length_le (by rw [Array.length_toList]; omega), List.append_nil]
  have hYs : Y.size = s.size := by rw [← Array.length_toList, hYl, Lib.byteCells_length, ← Lib.size_eq]
  have hgY : (w.setRow g Y).heap[g]? = some (.cells Y 5 (0, 0)) := setRow_heap _ _ cur _ _ (0, 0) hg
  have hne : s.data.toList ≠ [] := fun e => h0 (by rw [Lib.size_eq, e]; rfl)
  have hUS := Lib.run_unsafeString_row (P := Tryd.prog) (w.setRow g Y) pt it ty 5 hp cellsOf_u8 g Y.size (by unfold World.shape?; rw [hgY]) s.data.toList hne (by rw [← Lib.size_eq]; omega) (by rw [← Lib.size_eq]; omega)
    (fun j x hx => Lib.cells_of_row hgY Y.size j _ (by rw [List.take_of_length_le (by rw [Array.length_toList]; exact Nat.le_refl _), hYl]; simp [Lib.byteCells, hx]))
  rw [← Lib.size_eq] at hUS
  exact ⟨_, hcp, fun k hk => setRow_other _ _ _ _ hk, by simp, fun B hB => ⟨rfl, rfl, rfl, by simp, fun k hk => setRow_other _ _ _ _ (by omega)⟩, hUS⟩
set_option maxHeartbeats 1000000 in
theorem lclone_any (s : ByteArray) (hl : s.size ≤ 140737488355328) (w : World) : Calls Tryd.prog 74 #[.string s] w fun e w' => e = .returned (.string s) ∧ Below w.heap.size w w' := by
  by_cases h0 : s.size = 0
  · obtain rfl : s = ⟨#[]⟩ := ByteArray.ext (Array.eq_empty_of_size_eq_zero h0)
    go_enter Tryd.func74, Tryd.ntmps74
    go_wp2
    go_ret
    exact ⟨rfl, Below.refl _ _⟩
  · go_enter Tryd.func74, Tryd.ntmps74
    go_wp2_with (refine make_full _ rfl _ _ rfl .i64 .i64 _ _ s.size rfl rfl rfl rfl hl ?_; intro w1 h1 h2; have H1 : Hid (Ow w.heap.size w1 (.slice (some ⟨w.heap.size, 0, none⟩) s.size s.size) (List.replicate s.size 0)) := h1; have H2 : Hid (Below w.heap.size w w1) := h2; clear h1 h2)
    rcases H1.out.2 with ⟨h', _⟩ | ⟨g', cap', cur, h', hb, hg, hc, hm, hz, ht⟩
    · simp at h'
    · simp only [Value.slice.injEq, Option.some.injEq, Addr.mk.injEq, and_true, true_and] at h'
      obtain ⟨rfl, hx⟩ := h'
      have hcs : cur.size = s.size := by omega
      obtain ⟨w2, hcp, -, hsz2, hB2, hUS⟩ := row_str hg s h0 hl hcs 9 3 132 Tryd.underlying132
      have H3 : Hid (Below w.heap.size w w2) := H2.out.trans (hB2 _ (Nat.le_refl _))
      clear hB2 hg hc hm hz ht hx hcs hsz2 hb
      rw [hcp]
      simp only [Result.andThen]
      rw [Oper.upon_value]
      go_wp2
      go_ret
      exact ⟨rfl, Lib.below_freeze H3.out (p := ⟨w.heap.size, 0, none⟩) (Nat.le_refl _) _⟩
theorem sclone_any (s : ByteArray) (hl : s.size ≤ 140737488355328) (w : World) : Calls Tryd.prog 61 #[.string s] w fun e w' => e = .returned (.string s) ∧ Below w.heap.size w w' := by
  go_enter Tryd.func61, Tryd.ntmps61
  go_wp2_with (go_at_call 74; refine (lclone_any s hl _).mono ?_; rintro e w2 ⟨rfl, h5⟩; have H5 : Hid (Below w.heap.size w w2) := h5; clear h5)
  go_ret
  exact ⟨rfl, H5.out⟩
end Go.Proofs.YtphjjjijdbljaaaDoor
