/- bytes.Compare; the reference's Below. -/
import Derived.Test.YtoldkelnjjphiaaDoorWirA
import Derived.Lib.Bytealg
import Derived.Lib.Walk
import Derived.Deep.QuietTactic
import Derived.BigQuiet
import Derived.WalkSmall
import Derived.Deep.MidRow
namespace Go.Proofs.YtoldkelnjjphiaaDoor
open Go Go.RowKit
set_option linter.unusedSimpArgs false
set_option linter.unusedVariables false

theorem cell_alloc (w : World) (cs : Array Value) (t : TypeId) (f : Nat × Nat) (j : Nat) : (w.alloc (.cells cs t f)).cell? ⟨w.heap.size, j, none⟩ = cs[j]? := by
  have : (w.alloc (.cells cs t f)).heap[w.heap.size]? = some (.cells cs t f) := by show (w.heap.push _)[w.heap.size]? = _; simp
  unfold World.cell?; rw [this]; rfl
theorem run_loadBytes (w : World) (b : Nat) : ∀ (xs : List Int) (o : Nat) (acc : ByteArray), (∀ i, i < xs.length → w.cell? ⟨b, o + i, none⟩ = some (.int .u8 (gi xs i))) →
    (Extern.Bytes.loadBytes ⟨b, o, none⟩ xs.length acc).run Tryd.prog w = .ok ⟨acc.data ++ (xs.map fun n => UInt8.ofNat n.toNat).toArray⟩ w
  | [], o, acc, _ => by simp [Extern.Bytes.loadBytes]
  | x :: xs, o, acc, h => by
    have h0 := h 0 (by simp)
    rw [Nat.add_zero] at h0
    have hx : gi (x :: xs) 0 = x := rfl
    rw [hx] at h0
    have ih := run_loadBytes w b xs (o + 1) (acc.push (UInt8.ofNat x.toNat)) (fun i hi => by
      have := h (i + 1) (by simp; omega)
      rw [show o + 1 + i = o + (i + 1) by omega, this]; rfl)
    have hadd : (⟨b, o, none⟩ : Addr).add 1 = ⟨b, o + 1, none⟩ := addr_add0 b o 1
    simp only [List.length_cons, Extern.Bytes.loadBytes, Sem.run_bind]
    have hld : (load ⟨b, o, none⟩).run Tryd.prog w = .ok (.int .u8 x) w := by simp [h0]
    rw [hld]
    simp only [Result.andThen, hadd]
    rw [show x.toNat.toUInt8 = UInt8.ofNat x.toNat from rfl, ih]
    simp [ByteArray.push]
/-- What bytes.Compare answers. -/
def cmpI (xs ys : List Int) : Int := Lib.compareBytes (xs.map fun n => UInt8.ofNat n.toNat) (ys.map fun n => UInt8.ofNat n.toNat)
theorem Sl.bytesOf {w : World} {v : Value} {xs : List Int} (h : Sl w v xs) : (Extern.Bytes.bytesOf v).run Tryd.prog w = .ok (strOfNums xs) w := by
  obtain ⟨ad, cap, rfl, hc, h⟩ := h
  rcases h with ⟨rfl, hn⟩ | ⟨b, o, rfl, hlt, hm⟩
  · cases ad with
    | none => rfl
    | some A => rfl
  · have := run_loadBytes w b xs o .empty hm
    simp only [Extern.Bytes.bytesOf]
    rw [this]
    simp [strOfNums, ByteArray.empty, ByteArray.emptyWithCapacity]
    rfl
theorem run_compare (xs ys : List Int) (u v : Value) (w : World) (h1 : Sl w u xs) (h2 : Sl w v ys) : (Extern.BytealgCompare.compare #[u, v]).run Tryd.prog w = .ok (.int .i64 (cmpI xs ys)) w := by
  change Sem.run Tryd.prog (do pure (goInt (Extern.BytealgCompare.cmp (← Extern.Bytes.bytesOf u) (← Extern.Bytes.bytesOf v)))) w = _
  simp only [Sem.run_bind, h1.bytesOf, h2.bytesOf, Result.andThen, Sem.run_pure]
  rw [Lib.cmp_eq]
  rfl
set_option maxHeartbeats 1000000 in
set_option maxRecDepth 100000 in
theorem compare_any (xs ys : List Int) (u v : Value) (w : World) (h1 : Sl w u xs) (h2 : Sl w v ys) :
    Calls Tryd.prog 72 #[u, v] w fun e w' => e = .returned (.int .i64 (cmpI xs ys)) ∧ w' = w := by
  have H : Hid _ := run_compare xs ys u v w h1 h2
  clear h1 h2
  go_enter Tryd.func72, Tryd.ntmps72
  go_wp2
  rw [run_callFunc_extern Tryd.func80 (by kernel_rfl) (by kernel_rfl) (by kernel_rfl) (e := Extern.BytealgCompare.compare) (by kernel_rfl), H.out]
  simp only [Result.andThen]
  rw [Oper.upon_value]
  go_wp2
  go_ret
  exact ⟨rfl, rfl⟩
/-- One row of bytes ahead of another. -/
def ltb : List Int → List Int → Bool
  | x :: xs, y :: ys => if x = y then ltb xs ys else decide (x < y)
  | _, _ => false
theorem cmp_ltb : ∀ (xs ys : List Int), xs.length = ys.length → Byt xs → Byt ys → (0 ≤ cmpI xs ys ↔ ltb xs ys = false)
  | [], [], _, _, _ => by simp [cmpI, Lib.compareBytes, ltb]
  | x :: xs, y :: ys, hl, hx, hy => by
    have ih := cmp_ltb xs ys (by simpa using hl) (fun z hz => hx z (by simp [hz])) (fun z hz => hy z (by simp [hz]))
    obtain ⟨x0, x1⟩ := hx x (by simp)
    obtain ⟨y0, y1⟩ := hy y (by simp)
    have hlt : ∀ a b : Int, 0 ≤ a → a ≤ 255 → 0 ≤ b → b ≤ 255 → (UInt8.ofNat a.toNat < UInt8.ofNat b.toNat ↔ a < b) := fun a b a0 a1 b0 b1 => by
      rw [UInt8.lt_iff_toNat_lt]; simp; omega
    unfold cmpI at ih ⊢
    simp only [List.map_cons, Lib.compareBytes, ltb]
    by_cases e : x = y
    · subst e
      rw [if_neg (by rw [hlt x x x0 x1 x0 x1]; omega), if_neg (by rw [hlt x x x0 x1 x0 x1]; omega), if_pos rfl]
      exact ih
    · rw [if_neg e]
      by_cases hxy : x < y
      · rw [if_pos ((hlt x y x0 x1 y0 y1).2 hxy)]; simp [hxy]
      · rw [if_neg (by rw [hlt x y x0 x1 y0 y1]; exact hxy), if_pos ((hlt y x y0 y1 x0 x1).2 (by omega))]; simp [hxy]
  | [], _ :: _, h, _, _ => by simp at h
  | _ :: _, [], h, _, _ => by simp at h
theorem ltb_at : ∀ (xs ys : List Int) (k : Nat), xs.length = ys.length → (∀ j, j < k → gi xs j = gi ys j) → k < xs.length → gi xs k ≠ gi ys k → ltb xs ys = decide (gi xs k < gi ys k)
  | [], _, k, _, _, h, _ => by simp at h
  | x :: xs, [], k, h, _, _, _ => by simp at h
  | x :: xs, y :: ys, 0, _, _, _, hne => by
    have : x ≠ y := hne
    simp only [ltb, if_neg this]; rfl
  | x :: xs, y :: ys, k + 1, hl, hj, hk, hne => by
    have h0 : x = y := hj 0 (by omega)
    simp only [ltb, if_pos h0]
    exact ltb_at xs ys k (by simpa using hl) (fun j h => hj (j + 1) (by omega)) (by simpa using hk) hne
theorem ltb_same : ∀ (xs ys : List Int), xs.length = ys.length → (∀ j, j < xs.length → gi xs j = gi ys j) → ltb xs ys = false
  | [], [], _, _ => rfl
  | [], _ :: _, h, _ => by simp at h
  | _ :: _, [], h, _ => by simp at h
  | x :: xs, y :: ys, hl, hj => by
    have h0 : x = y := hj 0 (by simp)
    simp only [ltb, if_pos h0]
    exact ltb_same xs ys (by simpa using hl) (fun j h => hj (j + 1) (by simp; omega))
theorem info_a32 : (Tryd.prog.info? 23).map (·.size) = some 32 := by kernel_rfl
set_option maxHeartbeats 1000000 in
theorem below_any (xs ys : List Int) (w : World) (h1 : xs.length = 32) (h2 : ys.length = 32) (hb : Byt xs) (hb' : Byt ys) :
    Calls Tryd.prog 43 #[.agg (bv xs).toArray, .agg (bv ys).toArray] w fun e w' => e = .returned (.bool (ltb xs ys)) ∧ Below w.heap.size w w' := by
  have s1 : (bv xs).toArray.size = 32 := by simp [bv, h1]
  have s2 : (bv ys).toArray.size = 32 := by simp [bv, h2]
  obtain ⟨A, hA⟩ : ∃ A, (bv xs).toArray = A := ⟨_, rfl⟩
  obtain ⟨B, hB⟩ : ∃ B, (bv ys).toArray = B := ⟨_, rfl⟩
  have cA : Hid (∀ j, j < 32 → A[j]? = some (.int .u8 (gi xs j))) := fun j hj => by rw [← hA, List.getElem?_toArray]; exact bv_get xs (by omega)
  have cB : Hid (∀ j, j < 32 → B[j]? = some (.int .u8 (gi ys j))) := fun j hj => by rw [← hB, List.getElem?_toArray]; exact bv_get ys (by omega)
  rw [hA] at s1 ⊢
  rw [hB] at s2 ⊢
  have HB : Hid (Byt xs) := hb
  have HB' : Hid (Byt ys) := hb'
  clear hA hB hb hb'
  go_enter Tryd.func43, Tryd.ntmps43
  go_wp2
  obtain ⟨W, hW⟩ : ∃ W, (w.alloc (Obj.cells A 23)).alloc (Obj.cells B 23) = W := ⟨_, rfl⟩
  have HZ : Hid (Below w.heap.size w W) := by rw [← hW]; exact ((Below.refl _ w).alloc (Nat.le_refl _) _).alloc (by simp) _
  have CA : Hid (∀ j, j < 32 → W.cell? ⟨w.heap.size, j, none⟩ = some (.int .u8 (gi xs j))) := fun j hj => by
    rw [← hW, (World.grownBy_alloc (w.alloc (Obj.cells A 23)) _ none).cell (a := ⟨w.heap.size, j, none⟩) (v := .int .u8 (gi xs j)) ?_ (by simp)]
    rw [cell_alloc]; exact cA.out j hj
  have CB : Hid (∀ j, j < 32 → W.cell? ⟨w.heap.size + 1, j, none⟩ = some (.int .u8 (gi ys j))) := fun j hj => by
    have hz : (w.alloc (Obj.cells A 23)).heap.size = w.heap.size + 1 := by simp
    rw [← hW, ← hz, cell_alloc]; exact cB.out j hj
  rw [hW]
  clear hW cA cB
  obtain ⟨h, hh⟩ : ∃ h, w.heap.size = h := ⟨_, rfl⟩
  rw [hh] at CA CB ⊢
  have HH : Hid (w.heap.size = h) := hh
  clear hh
  go_loopw [6] (fun i wr => ∃ k q : Nat, k ≤ 32 ∧ i = .int .i64 (k : Int) ∧ wr = W.drewN q ∧ ∀ j, j < k → gi xs j = gi ys j) (fun i _ => 32 - (intOf i).toNat)
  case atStart => exact ⟨0, 0, by omega, rfl, rfl, fun j hj => by omega⟩
  case round =>
    obtain ⟨k, q, hk, rfl, rfl, hall⟩ := hrel
    have HA : Hid _ := hall
    clear hall
    by_cases hlt : k < 32
    · have c1 : ∀ n, (W.drewN n).cell? ⟨h, k, none⟩ = some (.int .u8 (gi xs k)) := fun n => CA.out k hlt
      have c2 : ∀ n, (W.drewN n).cell? ⟨h + 1, k, none⟩ = some (.int .u8 (gi ys k)) := fun n => CB.out k hlt
      have c1' := CA.out k hlt
      have c2' := CB.out k hlt
      have gk : (k : Int) < 32 := by omega
      have gk0 : (0 : Int) ≤ (k : Int) := by omega
      by_cases he : gi xs k = gi ys k
      · have HE : Hid _ := he
        rw [← he] at c2 c2'
        clear he
        go_wp2
        go_quiet (fail)
        go_wp2
        refine ⟨⟨k + 1, q + nq, hlt, by go_num, by simp, fun j hj => ?_⟩, by simp [intOf]; omega⟩
        by_cases e : j = k
        · subst e; exact HE.out
        · exact HA.out j (by omega)
      · have E : Hid _ := ltb_at xs ys k (by rw [h1, h2]) HA.out (by omega) he
        obtain ⟨x, hx⟩ : ∃ x, gi xs k = x := ⟨_, rfl⟩
        obtain ⟨y, hy⟩ : ∃ y, gi ys k = y := ⟨_, rfl⟩
        rw [hx] at c1 c1' he E
        rw [hy] at c2 c2' he E
        clear hx hy
        go_wp2
        go_quiet (fail)
        go_wp2
        go_quiet (fail)
        go_wp2
        go_ret
        exact ⟨by rw [E.out]; rfl, by simpa using below_drewN HZ.out _⟩
    · have E : Hid _ := ltb_same xs ys (by rw [h1, h2]) (fun j hj => HA.out j (by omega))
      go_wp2
      go_ret
      exact ⟨by rw [E.out]; rfl, below_drewN HZ.out q⟩
end Go.Proofs.YtoldkelnjjphiaaDoor
