/- The reference's Account; bytes.Compare. -/
import Derived.Test.YtddgdaggdgeclaaDoorWirG
import Derived.Lib.Bytealg
import Derived.Lib.Walk
namespace Go.Proofs.YtddgdaggdgeclaaDoor
open Go Go.RowKit
set_option linter.unusedSimpArgs false
set_option linter.unusedVariables false

theorem run_loadBytes (w : World) (b : Nat) : ∀ (xs : List Int) (o : Nat) (acc : ByteArray), (∀ i, i < xs.length → w.cell? ⟨b, o + i, none⟩ = some (.int .u8 (gi xs i))) →
    (Extern.Bytes.loadBytes ⟨b, o, none⟩ xs.length acc).run Tryd.prog w = .ok ⟨acc.data ++ (xs.map fun n => UInt8.ofNat n.toNat).toArray⟩ w
  | [], o, acc, _ => by simp [Extern.Bytes.loadBytes]
  | x :: xs, o, acc, h => by
    have h0 := h 0 (by simp)
    rw [Nat.add_zero] at h0
    have hx : gi (x :: xs) 0 = x := rfl
    rw [hx] at h0
    have ih := run_loadBytes w b xs (o + 1) (acc.push (UInt8.ofNat x.toNat)) (fun i hi => by
      have := h (i + 1) (by simp; omega)
      rw [show o + 1 + i = o + (i + 1) by omega, this]; rfl)
    have hadd : (⟨b, o, none⟩ : Addr).add 1 = ⟨b, o + 1, none⟩ := addr_add0 b o 1
    simp only [List.length_cons, Extern.Bytes.loadBytes, Sem.run_bind]
    have hld : (load ⟨b, o, none⟩).run Tryd.prog w = .ok (.int .u8 x) w := by simp [h0]
    rw [hld]
    simp only [Result.andThen, hadd]
    rw [show x.toNat.toUInt8 = UInt8.ofNat x.toNat from rfl, ih]
    simp [ByteArray.push]
/-- What bytes.Compare answers. -/
def cmpI (xs ys : List Int) : Int := Lib.compareBytes (xs.map fun n => UInt8.ofNat n.toNat) (ys.map fun n => UInt8.ofNat n.toNat)
theorem Sl.bytesOf {w : World} {v : Value} {xs : List Int} (h : Sl w v xs) : (Extern.Bytes.bytesOf v).run Tryd.prog w = .ok (strOfNums xs) w := by
  obtain ⟨ad, cap, rfl, hc, h⟩ := h
  rcases h with ⟨rfl, hn⟩ | ⟨b, o, rfl, hlt, hm⟩
  · cases ad with
    | none => rfl
    | some A => rfl
  · have := run_loadBytes w b xs o .empty hm
    simp only [Extern.Bytes.bytesOf]
    rw [this]
    simp [strOfNums, ByteArray.empty, ByteArray.emptyWithCapacity]
    rfl
theorem run_compare (xs ys : List Int) (u v : Value) (w : World) (h1 : Sl w u xs) (h2 : Sl w v ys) : (Extern.BytealgCompare.compare #[u, v]).run Tryd.prog w = .ok (.int .i64 (cmpI xs ys)) w := by
  change Sem.run Tryd.prog (do pure (goInt (Extern.BytealgCompare.cmp (← Extern.Bytes.bytesOf u) (← Extern.Bytes.bytesOf v)))) w = _
  simp only [Sem.run_bind, h1.bytesOf, h2.bytesOf, Result.andThen, Sem.run_pure]
  rw [Lib.cmp_eq]
  rfl
set_option maxHeartbeats 1000000 in
set_option maxRecDepth 100000 in
theorem compare_any (xs ys : List Int) (u v : Value) (w : World) (h1 : Sl w u xs) (h2 : Sl w v ys) :
    Calls Tryd.prog 20 #[u, v] w fun e w' => e = .returned (.int .i64 (cmpI xs ys)) ∧ w' = w := by
  have H : Hid _ := run_compare xs ys u v w h1 h2
  clear h1 h2
  go_enter Tryd.func20, Tryd.ntmps20
  go_wp2
  rw [run_callFunc_extern Tryd.func31 (by kernel_rfl) (by kernel_rfl) (by kernel_rfl) (e := Extern.BytealgCompare.compare) (by kernel_rfl), H.out]
  simp only [Result.andThen]
  rw [Oper.upon_value]
  go_wp2
  go_ret
  exact ⟨rfl, rfl⟩
/-- One row of bytes ahead of another. -/
def ltb : List Int → List Int → Bool
  | x :: xs, y :: ys => if x = y then ltb xs ys else decide (x < y)
  | _, _ => false
theorem cmp_ltb : ∀ (xs ys : List Int), xs.length = ys.length → Byt xs → Byt ys → (0 ≤ cmpI xs ys ↔ ltb xs ys = false)
  | [], [], _, _, _ => by simp [cmpI, Lib.compareBytes, ltb]
  | x :: xs, y :: ys, hl, hx, hy => by
    have ih := cmp_ltb xs ys (by simpa using hl) (fun z hz => hx z (by simp [hz])) (fun z hz => hy z (by simp [hz]))
    obtain ⟨x0, x1⟩ := hx x (by simp)
    obtain ⟨y0, y1⟩ := hy y (by simp)
    have hlt : ∀ a b : Int, 0 ≤ a → a ≤ 255 → 0 ≤ b → b ≤ 255 → (UInt8.ofNat a.toNat < UInt8.ofNat b.toNat ↔ a < b) := fun a b a0 a1 b0 b1 => by
      rw [UInt8.lt_iff_toNat_lt]; simp; omega
    unfold cmpI at ih ⊢
    simp only [List.map_cons, Lib.compareBytes, ltb]
    by_cases e : x = y
    · subst e
      rw [if_neg (by rw [hlt x x x0 x1 x0 x1]; omega), if_neg (by rw [hlt x x x0 x1 x0 x1]; omega), if_pos rfl]
      exact ih
    · rw [if_neg e]
      by_cases hxy : x < y
      · rw [if_pos ((hlt x y x0 x1 y0 y1).2 hxy)]; simp [hxy]
      · rw [if_neg (by rw [hlt x y x0 x1 y0 y1]; exact hxy), if_pos ((hlt y x y0 y1 x0 x1).2 (by omega))]; simp [hxy]
  | [], _ :: _, h, _, _ => by simp at h
  | _ :: _, [], h, _, _ => by simp at h
end Go.Proofs.YtddgdaggdgeclaaDoor
