/- bytes.Compare; the reference's Below. -/
import Derived.Test.YtpojalbpekbfdabDoorWirA
import Derived.Lib.Bytealg
import Derived.Lib.Walk
import Derived.Deep.QuietTactic
import Derived.BigQuiet
import Derived.WalkSmall
import Derived.Deep.MidRow
import Derived.WalkKit
import Derived.WalkSpells
import Derived.Test.YtpojalbpekbfdabDoorProg
import Derived.Test.YtpojalbpekbfdabDoorChecked
import Derived.Outline
namespace Go.Proofs.YtpojalbpekbfdabDoor
open Go Go.RowKit
set_option linter.unusedSimpArgs false
set_option linter.unusedVariables false

theorem cell_alloc (w : World) (cs : Array Value) (t : TypeId) (f : Nat × Nat) (j : Nat) : (w.alloc (.cells cs t f)).cell? ⟨w.heap.size, j, none⟩ = cs[j]? := by
  have : (w.alloc (.cells cs t f)).heap[w.heap.size]? = some (.cells cs t f) := by show (w.heap.push _)[w.heap.size]? = _; simp
  unfold World.cell?; rw [this]; rfl
theorem run_loadBytes (w : World) (b : Nat) : ∀ (xs : List Int) (o : Nat) (acc : ByteArray), (∀ i, i < xs.length → w.cell? ⟨b, o + i, none⟩ = some (.int .u8 (gi xs i))) →
    (Extern.Bytes.loadBytes ⟨b, o, none⟩ xs.length acc).run Tryd.prog w = .ok ⟨acc.data ++ (xs.map fun n => UInt8.ofNat n.toNat).toArray⟩ w
  | [], o, acc, _ => by simp [Extern.Bytes.loadBytes]
  | x :: xs, o, acc, h => by
    have h0 := h 0 (by simp)
    rw [Nat.add_zero] at h0
    have hx : gi (x :: xs) 0 = x := rfl
    rw [hx] at h0
    have ih := run_loadBytes w b xs (o + 1) (acc.push (UInt8.ofNat x.toNat)) (fun i hi => by
      have := h (i + 1) (by simp; omega)
      rw [show o + 1 + i = o + (i + 1) by omega, this]; rfl)
    have hadd : (⟨b, o, none⟩ : Addr).add 1 = ⟨b, o + 1, none⟩ := addr_add0 b o 1
    simp only [List.length_cons, Extern.Bytes.loadBytes, Sem.run_bind]
    have hld : (load ⟨b, o, none⟩).run Tryd.prog w = .ok (.int .u8 x) w := by simp [h0]
    rw [hld]
    simp only [Result.andThen, hadd]
    rw [show x.toNat.toUInt8 = UInt8.ofNat x.toNat from rfl, ih]
    simp [ByteArray.push]
/-- What bytes.Compare answers. -/
def cmpI (xs ys : List Int) : Int := Lib.compareBytes (xs.map fun n => UInt8.ofNat n.toNat) (ys.map fun n => UInt8.ofNat n.toNat)
theorem Sl.bytesOf {w : World} {v : Value} {xs : List Int} (h : Sl w v xs) : (Extern.Bytes.bytesOf v).run Tryd.prog w = .ok (strOfNums xs) w := by
  obtain ⟨ad, cap, rfl, hc, h⟩ := h
  rcases h with ⟨rfl, hn⟩ | ⟨b, o, rfl, hlt, hm⟩
  · cases ad with
    | none => rfl
    | some A => rfl
  · have := run_loadBytes w b xs o .empty hm
    simp only [Extern.Bytes.bytesOf]
    rw [this]
    simp [strOfNums, ByteArray.empty, ByteArray.emptyWithCapacity]
    rfl
theorem run_compare (xs ys : List Int) (u v : Value) (w : World) (h1 : Sl w u xs) (h2 : Sl w v ys) : (Extern.BytealgCompare.compare #[u, v]).run Tryd.prog w = .ok (.int .i64 (cmpI xs ys)) w := by
  change Sem.run Tryd.prog (do pure (goInt (Extern.BytealgCompare.cmp (← Extern.Bytes.bytesOf u) (← Extern.Bytes.bytesOf v)))) w = _
  simp only [Sem.run_bind, h1.bytesOf, h2.bytesOf, Result.andThen, Sem.run_pure]
  rw [Lib.cmp_eq]
  rfl
set_option maxHeartbeats 1000000 in
set_option maxRecDepth 100000 in
theorem compare_any (xs ys : List Int) (u v : Value) (w : World) (h1 : Sl w u xs) (h2 : Sl w v ys) :
    Calls Tryd.prog 21 #[u, v] w fun e w' => e = .returned (.int .i64 (cmpI xs ys)) ∧ w' = w := by
  have H : Hid _ := run_compare xs ys u v w h1 h2
  clear h1 h2
  go_enter Tryd.func21, Tryd.ntmps21
  go_wp2
  rw [run_callFunc_extern Tryd.func36 (by kernel_rfl) (by kernel_rfl) (by kernel_rfl) (e := Extern.BytealgCompare.compare) (by kernel_rfl), H.out]
  simp only [Result.andThen]
  rw [Oper.upon_value]
  go_wp2
  go_ret
  exact ⟨rfl, rfl⟩
/-- One row of bytes ahead of another. -/
def ltb : List Int → List Int → Bool
  | x :: xs, y :: ys => if x = y then ltb xs ys else decide (x < y)
  | _, _ => false
theorem cmp_ltb : ∀ (xs ys : List Int), xs.length = ys.length → Byt xs → Byt ys → (0 ≤ cmpI xs ys ↔ ltb xs ys = false)
  | [], [], _, _, _ => by simp [cmpI, Lib.compareBytes, ltb]
  | x :: xs, y :: ys, hl, hx, hy => by
    have ih := cmp_ltb xs ys (by simpa using hl) (fun z hz => hx z (by simp [hz])) (fun z hz => hy z (by simp [hz]))
    obtain ⟨x0, x1⟩ := hx x (by simp)
    obtain ⟨y0, y1⟩ := hy y (by simp)
    have hlt : ∀ a b : Int, 0 ≤ a → a ≤ 255 → 0 ≤ b → b ≤ 255 → (UInt8.ofNat a.toNat < UInt8.ofNat b.toNat ↔ a < b) := fun a b a0 a1 b0 b1 => by
      rw [UInt8.lt_iff_toNat_lt]; simp; omega
    unfold cmpI at ih ⊢
    simp only [List.map_cons, Lib.compareBytes, ltb]
    by_cases e : x = y
    · subst e
      rw [if_neg (by rw [hlt x x x0 x1 x0 x1]; omega), if_neg (by rw [hlt x x x0 x1 x0 x1]; omega), if_pos rfl]
      exact ih
    · rw [if_neg e]
      by_cases hxy : x < y
      · rw [if_pos ((hlt x y x0 x1 y0 y1).2 hxy)]; simp [hxy]
      · rw [if_neg (by rw [hlt x y x0 x1 y0 y1]; exact hxy), if_pos ((hlt y x y0 y1 x0 x1).2 (by omega))]; simp [hxy]
  | [], _ :: _, h, _, _ => by simp at h
  | _ :: _, [], h, _, _ => by simp at h
theorem ltb_at : ∀ (xs ys : List Int) (k : Nat), xs.length = ys.length → (∀ j, j < k → gi xs j = gi ys j) → k < xs.length → gi xs k ≠ gi ys k → ltb xs ys = decide (gi xs k < gi ys k)
  | [], _, k, _, _, h, _ => by simp at h
  | x :: xs, [], k, h, _, _, _ => by simp at h
  | x :: xs, y :: ys, 0, _, _, _, hne => by
    have : x ≠ y := hne
    simp only [ltb, if_neg this]; rfl
  | x :: xs, y :: ys, k + 1, hl, hj, hk, hne => by
    have h0 : x = y := hj 0 (by omega)
    simp only [ltb, if_pos h0]
    exact ltb_at xs ys k (by simpa using hl) (fun j h => hj (j + 1) (by omega)) (by simpa using hk) hne
theorem ltb_same : ∀ (xs ys : List Int), xs.length = ys.length → (∀ j, j < xs.length → gi xs j = gi ys j) → ltb xs ys = false
  | [], [], _, _ => rfl
  | [], _ :: _, h, _ => by simp at h
  | _ :: _, [], h, _ => by simp at h
  | x :: xs, y :: ys, hl, hj => by
    have h0 : x = y := hj 0 (by simp)
    simp only [ltb, if_pos h0]
    exact ltb_same xs ys (by simpa using hl) (fun j h => hj (j + 1) (by simp; omega))
theorem info_a32 : (Tryd.prog.info? 25).map (·.size) = some 32 := by kernel_rfl
set_option maxHeartbeats 1000000 in
theorem below_any (xs ys : List Int) (w : World) (h1 : xs.length = 32) (h2 : ys.length = 32) (hb : Byt xs) (hb' : Byt ys) :
    Calls Tryd.prog 28 #[.agg (bv xs).toArray, .agg (bv ys).toArray] w fun e w' => e = .returned (.bool (ltb xs ys)) ∧ Below w.heap.size w w' := by
  have s1 : (bv xs).toArray.size = 32 := by simp [bv, h1]
  have s2 : (bv ys).toArray.size = 32 := by simp [bv, h2]
  obtain ⟨A, hA⟩ : ∃ A, (bv xs).toArray = A := ⟨_, rfl⟩
  obtain ⟨B, hB⟩ : ∃ B, (bv ys).toArray = B := ⟨_, rfl⟩
  have cA : Hid (∀ j, j < 32 → A[j]? = some (.int .u8 (gi xs j))) := fun j hj => by rw [← hA, List.getElem?_toArray]; exact bv_get xs (by omega)
  have cB : Hid (∀ j, j < 32 → B[j]? = some (.int .u8 (gi ys j))) := fun j hj => by rw [← hB, List.getElem?_toArray]; exact bv_get ys (by omega)
  rw [hA] at s1 ⊢
  rw [hB] at s2 ⊢
  have HB : Hid (Byt xs) := hb
  have HB' : Hid (Byt ys) := hb'
  clear hA hB hb hb'
  go_enter Tryd.func28, Tryd.ntmps28
  go_wp2
  obtain ⟨W, hW⟩ : ∃ W, (w.alloc (Obj.cells A 25)).alloc (Obj.cells B 25) = W := ⟨_, rfl⟩
  have HZ : Hid (Below w.heap.size w W) := by rw [← hW]; exact ((Below.refl _ w).alloc (Nat.le_refl _) _).alloc (by simp) _
  have CA : Hid (∀ j, j < 32 → W.cell? ⟨w.heap.size, j, none⟩ = some (.int .u8 (gi xs j))) := fun j hj => by
    rw [← hW, (World.grownBy_alloc (w.alloc (Obj.cells A 25)) _ none).cell (a := ⟨w.heap.size, j, none⟩) (v := .int .u8 (gi xs j)) ?_ (by simp)]
    rw [cell_alloc]; exact cA.out j hj
  have CB : Hid (∀ j, j < 32 → W.cell? ⟨w.heap.size + 1, j, none⟩ = some (.int .u8 (gi ys j))) := fun j hj => by
    have hz : (w.alloc (Obj.cells A 25)).heap.size = w.heap.size + 1 := by simp
    rw [← hW, ← hz, cell_alloc]; exact cB.out j hj
  rw [hW]
  clear hW cA cB
  obtain ⟨h, hh⟩ : ∃ h, w.heap.size = h := ⟨_, rfl⟩
  rw [hh] at CA CB ⊢
  have HH : Hid (w.heap.size = h) := hh
  clear hh
  go_loopw [6] (fun i wr => ∃ k q : Nat, k ≤ 32 ∧ i = .int .i64 (k : Int) ∧ wr = W.drewN q ∧ ∀ j, j < k → gi xs j = gi ys j) (fun i _ => 32 - (intOf i).toNat)
  case atStart => exact ⟨0, 0, by omega, rfl, rfl, fun j hj => by omega⟩
  case round =>
    obtain ⟨k, q, hk, rfl, rfl, hall⟩ := hrel
    have HA : Hid _ := hall
    clear hall
    by_cases hlt : k < 32
    · have c1 : ∀ n, (W.drewN n).cell? ⟨h, k, none⟩ = some (.int .u8 (gi xs k)) := fun n => CA.out k hlt
      have c2 : ∀ n, (W.drewN n).cell? ⟨h + 1, k, none⟩ = some (.int .u8 (gi ys k)) := fun n => CB.out k hlt
      have c1' := CA.out k hlt
      have c2' := CB.out k hlt
      have gk : (k : Int) < 32 := by omega
      have gk0 : (0 : Int) ≤ (k : Int) := by omega
      by_cases he : gi xs k = gi ys k
      · have HE : Hid _ := he
        rw [← he] at c2 c2'
        clear he
        go_wp2
        go_quiet (fail)
        go_wp2
        refine ⟨⟨k + 1, q + nq, hlt, by go_num, by simp, fun j hj => ?_⟩, by simp [intOf]; omega⟩
        by_cases e : j = k
        · subst e; exact HE.out
        · exact HA.out j (by omega)
      · have E : Hid _ := ltb_at xs ys k (by rw [h1, h2]) HA.out (by omega) he
        obtain ⟨x, hx⟩ : ∃ x, gi xs k = x := ⟨_, rfl⟩
        obtain ⟨y, hy⟩ : ∃ y, gi ys k = y := ⟨_, rfl⟩
        rw [hx] at c1 c1' he E
        rw [hy] at c2 c2' he E
        clear hx hy
        go_wp2
        go_quiet (fail)
        go_wp2
        go_quiet (fail)
        go_wp2
        go_ret
        exact ⟨by rw [E.out]; rfl, by simpa using below_drewN HZ.out _⟩
    · have E : Hid _ := ltb_same xs ys (by rw [h1, h2]) (fun j hj => HA.out j (by omega))
      go_wp2
      go_ret
      exact ⟨by rw [E.out]; rfl, below_drewN HZ.out q⟩
end Go.Proofs.YtpojalbpekbfdabDoor
/- Plain mathematics of SHA-256: words, bytes, sigma functions, and the walk's own spellings of them. No dump is read here. -/
namespace Go.Proofs.YtpojalbpekbfdabDoor.Sh
open Go

/-- A 32-bit word as the walk writes it: an integer that simp does not open. -/
def u (x : BitVec 32) : Int := (x.toNat : Int)
/-- A byte likewise. -/
def ub (x : BitVec 8) : Int := (x.toNat : Int)
/-- A 64-bit word likewise. -/
def ul (x : BitVec 64) : Int := (x.toNat : Int)
abbrev U (x : BitVec 32) : Value := .int .u32 (u x)
abbrev B (x : BitVec 8) : Value := .int .u8 (ub x)
abbrev L (x : BitVec 64) : Value := .int .u64 (ul x)

theorem u_nonneg (x : BitVec 32) : 0 ≤ u x := by unfold u; omega
theorem u_lt (x : BitVec 32) : u x < 4294967296 := by unfold u; have := x.isLt; omega
theorem ub_nonneg (x : BitVec 8) : 0 ≤ ub x := by unfold ub; omega
theorem ub_lt (x : BitVec 8) : ub x < 256 := by unfold ub; have := x.isLt; omega
theorem ul_nonneg (x : BitVec 64) : 0 ≤ ul x := by unfold ul; omega
theorem ul_lt (x : BitVec 64) : ul x < 18446744073709551616 := by unfold ul; have := x.isLt; omega
theorem u_ofInt (x : BitVec 32) : BitVec.ofInt 32 (u x) = x := by
  apply BitVec.eq_of_toNat_eq; unfold u; rw [BitVec.ofInt_natCast, BitVec.toNat_ofNat]; exact Nat.mod_eq_of_lt x.isLt
theorem u_wrap (x : BitVec 32) : IntKind.u32.wrap (u x) = u x := by
  rw [IntKind.wrap_u32']; exact Int.emod_eq_of_lt (u_nonneg x) (u_lt x)
theorem u_xor (a b : BitVec 32) : bits .xor .u32 (u a) (u b) = u (a ^^^ b) := by
  show IntKind.u32.wrap ((BitVec.ofInt 32 (u a) ^^^ BitVec.ofInt 32 (u b)).toNat : Int) = _
  rw [u_ofInt, u_ofInt]; exact u_wrap _
theorem u_and (a b : BitVec 32) : bits .and .u32 (u a) (u b) = u (a &&& b) := by
  show IntKind.u32.wrap ((BitVec.ofInt 32 (u a) &&& BitVec.ofInt 32 (u b)).toNat : Int) = _
  rw [u_ofInt, u_ofInt]; exact u_wrap _
theorem u_or (a b : BitVec 32) : bits .or .u32 (u a) (u b) = u (a ||| b) := by
  show IntKind.u32.wrap ((BitVec.ofInt 32 (u a) ||| BitVec.ofInt 32 (u b)).toNat : Int) = _
  rw [u_ofInt, u_ofInt]; exact u_wrap _
theorem u_add (a b : BitVec 32) : IntKind.u32.wrap (u a + u b) = u (a + b) := by
  rw [IntKind.wrap_u32']; unfold u; rw [BitVec.toNat_add]; omega
theorem u_shl (a : BitVec 32) (n : Nat) : IntKind.u32.wrap (u a * 2 ^ n) = u (a <<< n) := by
  rw [IntKind.wrap_u32']; unfold u; rw [BitVec.toNat_shiftLeft, Nat.shiftLeft_eq, Int.natCast_emod, Int.natCast_mul, Int.natCast_pow]; rfl
theorem u_shr (a : BitVec 32) (n : Nat) : u a / 2 ^ n = u (a >>> n) := by
  unfold u; rw [BitVec.toNat_ushiftRight, Nat.shiftRight_eq_div_pow, Int.natCast_ediv, Int.natCast_pow]; rfl
theorem u_shr3 (a : BitVec 32) : u a / (8 : Int) = u (a >>> 3) := u_shr a 3
theorem u_shr10 (a : BitVec 32) : u a / (1024 : Int) = u (a >>> 10) := u_shr a 10
theorem u_shr24 (a : BitVec 32) : u a / (16777216 : Int) = u (a >>> 24) := u_shr a 24
theorem u_shr16 (a : BitVec 32) : u a / (65536 : Int) = u (a >>> 16) := u_shr a 16
theorem u_shr8 (a : BitVec 32) : u a / (256 : Int) = u (a >>> 8) := u_shr a 8
theorem u_shl24 (a : BitVec 32) : IntKind.u32.wrap (u a * (16777216 : Int)) = u (a <<< 24) := u_shl a 24
theorem u_shl16 (a : BitVec 32) : IntKind.u32.wrap (u a * (65536 : Int)) = u (a <<< 16) := u_shl a 16
theorem u_shl8 (a : BitVec 32) : IntKind.u32.wrap (u a * (256 : Int)) = u (a <<< 8) := u_shl a 8
/-- byte to word, word to byte -/
theorem u_of_b (x : BitVec 8) : IntKind.u32.wrap (ub x) = u (x.setWidth 32) := by
  have h := x.isLt
  rw [IntKind.wrap_u32']; unfold u ub; rw [BitVec.toNat_setWidth]; omega
theorem b_of_u (x : BitVec 32) : IntKind.u8.wrap (u x) = ub (x.setWidth 8) := by
  rw [IntKind.wrap_u8']; unfold u ub; rw [BitVec.toNat_setWidth]; omega
theorem ul_shr32 (x : BitVec 64) : ul x / (4294967296 : Int) = ul (x >>> 32) := by
  unfold ul; rw [BitVec.toNat_ushiftRight, Nat.shiftRight_eq_div_pow, Int.natCast_ediv]; rfl
theorem ul_shr8 (x : BitVec 64) : ul x / (256 : Int) = ul (x >>> 8) := by
  unfold ul; rw [BitVec.toNat_ushiftRight, Nat.shiftRight_eq_div_pow, Int.natCast_ediv]; rfl
theorem ul_shr16 (x : BitVec 64) : ul x / (65536 : Int) = ul (x >>> 16) := by
  unfold ul; rw [BitVec.toNat_ushiftRight, Nat.shiftRight_eq_div_pow, Int.natCast_ediv]; rfl
theorem ul_shr24 (x : BitVec 64) : ul x / (16777216 : Int) = ul (x >>> 24) := by
  unfold ul; rw [BitVec.toNat_ushiftRight, Nat.shiftRight_eq_div_pow, Int.natCast_ediv]; rfl
theorem ul_shr40 (x : BitVec 64) : ul x / (1099511627776 : Int) = ul (x >>> 40) := by
  unfold ul; rw [BitVec.toNat_ushiftRight, Nat.shiftRight_eq_div_pow, Int.natCast_ediv]; rfl
theorem ul_shr48 (x : BitVec 64) : ul x / (281474976710656 : Int) = ul (x >>> 48) := by
  unfold ul; rw [BitVec.toNat_ushiftRight, Nat.shiftRight_eq_div_pow, Int.natCast_ediv]; rfl
theorem ul_shr56 (x : BitVec 64) : ul x / (72057594037927936 : Int) = ul (x >>> 56) := by
  unfold ul; rw [BitVec.toNat_ushiftRight, Nat.shiftRight_eq_div_pow, Int.natCast_ediv]; rfl
theorem b_of_l (x : BitVec 64) : IntKind.u8.wrap (ul x) = ub (x.setWidth 8) := by
  rw [IntKind.wrap_u8']; unfold ub ul; rw [BitVec.toNat_setWidth]; omega
theorem u_of_l (x : BitVec 64) : IntKind.u32.wrap (ul x) = u (x.setWidth 32) := by
  rw [IntKind.wrap_u32']; unfold u ul; rw [BitVec.toNat_setWidth]; omega
/-- The four bytes of a word, the highest first. -/
def bytes4 (x : BitVec 32) : List Value := [B ((x >>> 24).setWidth 8), B ((x >>> 16).setWidth 8), B ((x >>> 8).setWidth 8), B (x.setWidth 8)]
/-- The eight bytes of a long word. -/
def bytes8 (x : BitVec 64) : List Value := bytes4 ((x >>> 32).setWidth 32) ++ bytes4 (x.setWidth 32)

def rotr (x : BitVec 32) (n : Nat) : BitVec 32 := (x <<< (32 - n)) ||| (x >>> n)
theorem neg_and : ∀ n : Fin 32, 1 ≤ n.val → bits BinOp.and IntKind.u64 (IntKind.u64.wrap (-(n.val : Int))) 31 = ((32 - n.val : Nat) : Int) := by decide +kernel
def up0 (x : BitVec 32) : BitVec 32 := rotr x 2 ^^^ rotr x 13 ^^^ rotr x 22
def up1 (x : BitVec 32) : BitVec 32 := rotr x 6 ^^^ rotr x 11 ^^^ rotr x 25
def lo0 (x : BitVec 32) : BitVec 32 := rotr x 7 ^^^ rotr x 18 ^^^ x >>> 3
def lo1 (x : BitVec 32) : BitVec 32 := rotr x 17 ^^^ rotr x 19 ^^^ x >>> 10
def word (b0 b1 b2 b3 : BitVec 8) : BitVec 32 := b0.setWidth 32 <<< 24 ||| b1.setWidth 32 <<< 16 ||| b2.setWidth 32 <<< 8 ||| b3.setWidth 32
end Go.Proofs.YtpojalbpekbfdabDoor.Sh
/- The small functions of package sha2 (SHA-256): rotations, sigmas, words and bytes, each by a contract of its own. -/
namespace Go.Proofs.YtpojalbpekbfdabDoor.Sh
open Go Go.RowKit
attribute [local go_sem] u_xor u_and u_or u_add u_shl u_shr u_shr3 u_shr10 u_shr24 u_shr16 u_shr8 u_shl24 u_shl16 u_shl8 u_of_b b_of_u
set_option maxHeartbeats 400000 in
theorem rotl32 (x : BitVec 32) (k : Int) (s : Nat) (hk : bits BinOp.and IntKind.u64 (IntKind.u64.wrap k) 31 = (s : Int)) (hs : s ≤ 32) (w : World) :
    Calls Tryd.prog 94 #[U x, .int .i64 k] w fun e w' => e = .returned (U ((x <<< s) ||| (x >>> (32 - s)))) ∧ w' = w := by
  have hw : IntKind.u64.wrap (32 - (s : Int)) = ((32 - s : Nat) : Int) := by rw [IntKind.wrap_u64]; omega
  have m1 : min s 32 = s := by omega
  have m2 : min (32 - s) 32 = 32 - s := by omega
  go_enter Tryd.func94, Tryd.ntmps94
  go_wp2
  go_ret
  exact ⟨rfl, rfl⟩
set_option maxHeartbeats 400000 in
theorem rotr32 (x : BitVec 32) (k : Int) (h1 : 1 ≤ k) (h2 : k ≤ 31) (w : World) :
    Calls Tryd.prog 93 #[U x, .int .i64 k] w fun e w' => e = .returned (U (rotr x k.toNat)) ∧ w' = w := by
  obtain ⟨n, rfl⟩ := Int.eq_ofNat_of_zero_le (show 0 ≤ k by omega)
  have HN : Hid (bits BinOp.and IntKind.u64 (IntKind.u64.wrap (-(n : Int))) 31 = ((32 - n : Nat) : Int)) := neg_and ⟨n, by omega⟩ (by show 1 ≤ n; omega)
  have HE : Hid ((x <<< (32 - n)) ||| (x >>> (32 - (32 - n))) = rotr x n) := by unfold rotr; rw [show 32 - (32 - n) = n by omega]; rfl
  go_enter Tryd.func93, Tryd.ntmps93
  go_wp2_with fail
  refine (rotl32 x _ (32 - n) HN.out (by omega) _).mono ?_
  rintro e w' ⟨rfl, rfl⟩
  rw [HE.out]
  go_wp2
  go_ret
  exact ⟨rfl, rfl⟩
set_option maxHeartbeats 400000 in
theorem up0_any (x : BitVec 32) (w : World) : Calls Tryd.prog 87 #[U x] w fun e w' => e = .returned (U (up0 x)) ∧ w' = w := by
  go_enter Tryd.func87, Tryd.ntmps87
  go_wp2_with (go_at_call 93; refine (rotr32 x _ (by decide) (by decide) _).mono ?_; rintro e w' ⟨rfl, rfl⟩)
  go_ret
  exact ⟨rfl, rfl⟩
set_option maxHeartbeats 400000 in
theorem up1_any (x : BitVec 32) (w : World) : Calls Tryd.prog 86 #[U x] w fun e w' => e = .returned (U (up1 x)) ∧ w' = w := by
  go_enter Tryd.func86, Tryd.ntmps86
  go_wp2_with (go_at_call 93; refine (rotr32 x _ (by decide) (by decide) _).mono ?_; rintro e w' ⟨rfl, rfl⟩)
  go_ret
  exact ⟨rfl, rfl⟩
set_option maxHeartbeats 400000 in
theorem lo0_any (x : BitVec 32) (w : World) : Calls Tryd.prog 92 #[U x] w fun e w' => e = .returned (U (lo0 x)) ∧ w' = w := by
  go_enter Tryd.func92, Tryd.ntmps92
  go_wp2_with (go_at_call 93; refine (rotr32 x _ (by decide) (by decide) _).mono ?_; rintro e w' ⟨rfl, rfl⟩)
  go_ret
  exact ⟨rfl, rfl⟩
set_option maxHeartbeats 400000 in
theorem lo1_any (x : BitVec 32) (w : World) : Calls Tryd.prog 91 #[U x] w fun e w' => e = .returned (U (lo1 x)) ∧ w' = w := by
  go_enter Tryd.func91, Tryd.ntmps91
  go_wp2_with (go_at_call 93; refine (rotr32 x _ (by decide) (by decide) _).mono ?_; rintro e w' ⟨rfl, rfl⟩)
  go_ret
  exact ⟨rfl, rfl⟩
set_option maxHeartbeats 400000 in
theorem word32_any (b off cap : Nat) (b0 b1 b2 b3 : BitVec 8) (w : World) (h0 : w.cell? ⟨b, off, none⟩ = some (B b0)) (h1 : w.cell? ⟨b, off + 1, none⟩ = some (B b1)) (h2 : w.cell? ⟨b, off + 2, none⟩ = some (B b2)) (h3 : w.cell? ⟨b, off + 3, none⟩ = some (B b3)) :
    Calls Tryd.prog 90 #[.slice (some ⟨b, off, none⟩) 4 cap] w fun e w' => e = .returned (U (word b0 b1 b2 b3)) ∧ ∃ n, w' = w.drewN n := by
  go_enter Tryd.func90, Tryd.ntmps90
  go_wp2
  go_quiet (fail)
  go_wp2
  go_ret
  exact ⟨rfl, nq, rfl⟩
set_option maxHeartbeats 400000 in
theorem putWord32_walk (b off cap : Nat) (x : BitVec 32) (w : World) (v0 v1 v2 v3 : Value) (h0 : w.cell? ⟨b, off, none⟩ = some v0) (h1 : w.cell? ⟨b, off + 1, none⟩ = some v1) (h2 : w.cell? ⟨b, off + 2, none⟩ = some v2) (h3 : w.cell? ⟨b, off + 3, none⟩ = some v3)
    (f0 : w.frozen? ⟨b, off, none⟩ = false) (f1 : w.frozen? ⟨b, off + 1, none⟩ = false) (f2 : w.frozen? ⟨b, off + 2, none⟩ = false) (f3 : w.frozen? ⟨b, off + 3, none⟩ = false) :
    Calls Tryd.prog 88 #[.slice (some ⟨b, off, none⟩) 4 cap, U x] w fun e w' => e = .returned (.tuple #[]) ∧
      w' = (((w.setCell ⟨b, off, none⟩ (B ((x >>> 24).setWidth 8))).setCell ⟨b, off + 1, none⟩ (B ((x >>> 16).setWidth 8))).setCell ⟨b, off + 2, none⟩ (B ((x >>> 8).setWidth 8))).setCell ⟨b, off + 3, none⟩ (B (x.setWidth 8)) := by
  go_enter Tryd.func88, Tryd.ntmps88
  go_wp2
  go_end0
  exact ⟨rfl, rfl⟩
end Go.Proofs.YtpojalbpekbfdabDoor.Sh
