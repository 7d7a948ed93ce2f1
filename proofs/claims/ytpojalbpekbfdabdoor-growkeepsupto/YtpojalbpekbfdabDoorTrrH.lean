/- The reference: Apart. -/
import Derived.Test.YtpojalbpekbfdabDoorTrrC
import Derived.Test.YtpojalbpekbfdabDoorTreV
import Derived.Test.YtpojalbpekbfdabDoorTrrG
import Derived.Test.YtpojalbpekbfdabDoorTrrB
import Derived.Test.YtpojalbpekbfdabDoorTreY
namespace Go.Proofs.YtpojalbpekbfdabDoor
open Go Go.RowKit
set_option linter.unusedSimpArgs false
set_option linter.unusedVariables false
set_option maxRecDepth 100000

theorem there_keep {W W' : World} {b o n : Nat} (h : W.there b o n) (e : W'.heap[b]? = W.heap[b]?) : W'.there b o n := fun j hj => by
  obtain ⟨h1, h2⟩ := h j hj
  unfold World.cell? at h1 ⊢
  unfold World.frozen? at h2 ⊢
  rw [e]; exact ⟨h1, h2⟩
theorem range_keep {W W' : World} {b o : Nat} {cs : List Value} (h : W.rangeAt b o cs) (e : W'.heap[b]? = W.heap[b]?) : W'.rangeAt b o cs := fun j v hj => by
  have := h j v hj
  unfold World.cell? at this ⊢
  rw [e]; exact this
/-- Two nodes laid in two new blocks, in whatever order. -/
structure TwI (U : World) (f : Nat → Value) (y x z : List Value) (n : Nat) (i9 i10 i11 i12 : Nat) (d : Nat → Bool) (V : Nat → Value) (W : World) : Prop where
  si : ∀ i, i < i9 → d i = true → V i = f i
  be : Below U.heap.size U W
  p9 : d i9 = true → ∃ b, V i9 = .pointer (some ⟨b, 0, none⟩) ∧ U.heap.size ≤ b ∧ b < W.heap.size ∧ W.there b 0 n ∧ W.rangeAt b 0 (if d i11 = true then y else z)
  p10 : d i10 = true → ∃ b, V i10 = .pointer (some ⟨b, 0, none⟩) ∧ U.heap.size ≤ b ∧ b < W.heap.size ∧ W.there b 0 n ∧ W.rangeAt b 0 (if d i12 = true then x else z)
  ne : d i9 = true → d i10 = true → V i9 ≠ V i10
theorem TwI.silent {U : World} {f : Nat → Value} {y x z : List Value} {n i9 : Nat} {d : Nat → Bool} {V : Nat → Value} {W : World} (h : TwI U f y x z n i9 (i9 + 1) (i9 + 2) (i9 + 3) d V W) {i : Nat} (hi : i < i9) : TwI U f y x z n i9 (i9 + 1) (i9 + 2) (i9 + 3) (RG.setd d i) (RG.updV V i (f i)) W := by
  have e : ∀ j, i9 ≤ j → RG.setd d i j = d j ∧ RG.updV V i (f i) j = V j := fun j hj => by
    unfold RG.setd RG.updV
    rw [if_neg (by omega), if_neg (by omega)]; exact ⟨rfl, rfl⟩
  refine ⟨fun j hj hd => ?_, h.be, ?_, ?_, ?_⟩
  · unfold RG.setd at hd
    unfold RG.updV
    by_cases q : j = i
    · rw [if_pos q, q]
    · rw [if_neg q] at hd ⊢; exact h.si j hj hd
  · rw [(e i9 (Nat.le_refl _)).1, (e i9 (Nat.le_refl _)).2, (e (i9 + 2) (by omega)).1]; exact h.p9
  · rw [(e (i9 + 1) (by omega)).1, (e (i9 + 1) (by omega)).2, (e (i9 + 3) (by omega)).1]; exact h.p10
  · rw [(e i9 (Nat.le_refl _)).1, (e i9 (Nat.le_refl _)).2, (e (i9 + 1) (by omega)).1, (e (i9 + 1) (by omega)).2]; exact h.ne
theorem TwI.alloc1 {U : World} {f : Nat → Value} {y x z : List Value} {n i9 : Nat} {d : Nat → Bool} {V : Nat → Value} {W : World} (h : TwI U f y x z n i9 (i9 + 1) (i9 + 2) (i9 + 3) d V W) (t : TypeId) (hz : z.length = n) (h11 : d (i9 + 2) = false) :
    TwI U f y x z n i9 (i9 + 1) (i9 + 2) (i9 + 3) (RG.setd d i9) (RG.updV V i9 (.pointer (some ⟨W.heap.size, 0, none⟩))) (W.alloc (.cells z.toArray t)) := by
  have e : ∀ j, j ≠ i9 → RG.setd d i9 j = d j ∧ RG.updV V i9 (.pointer (some ⟨W.heap.size, 0, none⟩)) j = V j := fun j hj => by
    unfold RG.setd RG.updV
    rw [if_neg hj, if_neg hj]; exact ⟨rfl, rfl⟩
  have hb : Below W.heap.size W (W.alloc (.cells z.toArray t)) := (Below.refl _ W).alloc (Nat.le_refl _) _
  have hh : (W.alloc (.cells z.toArray t)).heap[W.heap.size]? = some (.cells z.toArray t (0, 0)) := by show (W.heap.push _)[W.heap.size]? = _; simp
  have v9 : RG.updV V i9 (.pointer (some ⟨W.heap.size, 0, none⟩)) i9 = .pointer (some ⟨W.heap.size, 0, none⟩) := by unfold RG.updV; rw [if_pos rfl]
  refine ⟨fun j hj hd => ?_, h.be.alloc h.be.size _, fun _ => ?_, fun hd => ?_, fun _ hd => ?_⟩
  · rw [(e j (by omega)).1] at hd; rw [(e j (by omega)).2]; exact h.si j hj hd
  · refine ⟨W.heap.size, v9, h.be.size, by simp, there_of_row' hh 0 n (by simp [hz]), ?_⟩
    rw [(e (i9 + 2) (by omega)).1, h11, if_neg (by decide)]
    exact range_alloc W z t (0, 0)
  · rw [(e (i9 + 1) (by omega)).1] at hd
    obtain ⟨b, q1, q2, q3, q4, q5⟩ := h.p10 hd
    rw [(e (i9 + 1) (by omega)).2, (e (i9 + 3) (by omega)).1]
    exact ⟨b, q1, q2, Nat.lt_of_lt_of_le q3 hb.size, there_keep q4 (hb.block b q3), range_keep q5 (hb.block b q3)⟩
  · rw [(e (i9 + 1) (by omega)).1] at hd
    obtain ⟨b, q1, q2, q3, q4, q5⟩ := h.p10 hd
    rw [v9, (e (i9 + 1) (by omega)).2, q1]
    intro he
    simp only [Value.pointer.injEq, Option.some.injEq, Addr.mk.injEq, and_true] at he
    omega
theorem TwI.alloc2 {U : World} {f : Nat → Value} {y x z : List Value} {n i9 : Nat} {d : Nat → Bool} {V : Nat → Value} {W : World} (h : TwI U f y x z n i9 (i9 + 1) (i9 + 2) (i9 + 3) d V W) (t : TypeId) (hz : z.length = n) (h12 : d (i9 + 3) = false) :
    TwI U f y x z n i9 (i9 + 1) (i9 + 2) (i9 + 3) (RG.setd d (i9 + 1)) (RG.updV V (i9 + 1) (.pointer (some ⟨W.heap.size, 0, none⟩))) (W.alloc (.cells z.toArray t)) := by
  have e : ∀ j, j ≠ i9 + 1 → RG.setd d (i9 + 1) j = d j ∧ RG.updV V (i9 + 1) (.pointer (some ⟨W.heap.size, 0, none⟩)) j = V j := fun j hj => by
    unfold RG.setd RG.updV
    rw [if_neg hj, if_neg hj]; exact ⟨rfl, rfl⟩
  have hb : Below W.heap.size W (W.alloc (.cells z.toArray t)) := (Below.refl _ W).alloc (Nat.le_refl _) _
  have hh : (W.alloc (.cells z.toArray t)).heap[W.heap.size]? = some (.cells z.toArray t (0, 0)) := by show (W.heap.push _)[W.heap.size]? = _; simp
  have v9 : RG.updV V (i9 + 1) (.pointer (some ⟨W.heap.size, 0, none⟩)) (i9 + 1) = .pointer (some ⟨W.heap.size, 0, none⟩) := by unfold RG.updV; rw [if_pos rfl]
  refine ⟨fun j hj hd => ?_, h.be.alloc h.be.size _, fun hd => ?_, fun _ => ?_, fun hd _ => ?_⟩
  · rw [(e j (by omega)).1] at hd; rw [(e j (by omega)).2]; exact h.si j hj hd
  · rw [(e i9 (by omega)).1] at hd
    obtain ⟨b, q1, q2, q3, q4, q5⟩ := h.p9 hd
    rw [(e i9 (by omega)).2, (e (i9 + 2) (by omega)).1]
    exact ⟨b, q1, q2, Nat.lt_of_lt_of_le q3 hb.size, there_keep q4 (hb.block b q3), range_keep q5 (hb.block b q3)⟩
  · refine ⟨W.heap.size, v9, h.be.size, by simp, there_of_row' hh 0 n (by simp [hz]), ?_⟩
    rw [(e (i9 + 3) (by omega)).1, h12, if_neg (by decide)]
    exact range_alloc W z t (0, 0)
  · rw [(e i9 (by omega)).1] at hd
    obtain ⟨b, q1, q2, q3, q4, q5⟩ := h.p9 hd
    rw [v9, (e i9 (by omega)).2, q1]
    intro he
    simp only [Value.pointer.injEq, Option.some.injEq, Addr.mk.injEq, and_true] at he
    omega
theorem size_setC (b : Nat) : ∀ (vs : List Value) (o : Nat) (w : World), (w.setCells b o vs).heap.size = w.heap.size
  | [], _, _ => rfl
  | v :: r, o, w => by
    rw [World.setCells, size_setC b r (o + 1)]
    simp [World.setCell]
theorem TwI.store1 {U : World} {f : Nat → Value} {y x z : List Value} {n i9 : Nat} {d : Nat → Bool} {V : Nat → Value} {W : World} (h : TwI U f y x z n i9 (i9 + 1) (i9 + 2) (i9 + 3) d V W) (hy : y.length = n) (h9 : d i9 = true) (h10 : d (i9 + 1) = true) {b : Nat} (hb : V i9 = .pointer (some ⟨b, 0, none⟩)) (v : Value) :
    TwI U f y x z n i9 (i9 + 1) (i9 + 2) (i9 + 3) (RG.setd d (i9 + 2)) (RG.updV V (i9 + 2) v) (W.setCells b 0 y) := by
  have e : ∀ j, j ≠ i9 + 2 → RG.setd d (i9 + 2) j = d j ∧ RG.updV V (i9 + 2) v j = V j := fun j hj => by
    unfold RG.setd RG.updV
    rw [if_neg hj, if_neg hj]; exact ⟨rfl, rfl⟩
  have s11 : RG.setd d (i9 + 2) (i9 + 2) = true := by unfold RG.setd; rw [if_pos rfl]
  obtain ⟨b', q1, q2, q3, q4, q5⟩ := h.p9 h9
  obtain rfl : b' = b := by rw [hb] at q1; simp at q1; exact q1.symm
  obtain ⟨c, r1, r2, r3, r4, r5⟩ := h.p10 h10
  have hne : c ≠ b' := fun e => h.ne h9 h10 (by rw [q1, r1, e])
  refine ⟨fun j hj hd => ?_, below_setCells q2 _ _ h.be, fun _ => ?_, fun _ => ?_, fun a1 a2 => ?_⟩
  · rw [(e j (by omega)).1] at hd; rw [(e j (by omega)).2]; exact h.si j hj hd
  · rw [(e i9 (by omega)).2, s11, if_pos rfl]
    exact ⟨b', q1, q2, by rw [size_setC]; exact q3, World.there_setCells q4 _ _ _, World.rangeAt_setCells_same _ _ _ _ (by rw [hy]; exact q4)⟩
  · rw [(e (i9 + 1) (by omega)).2, (e (i9 + 3) (by omega)).1]
    exact ⟨c, r1, r2, by rw [size_setC]; exact r3, World.there_setCells r4 _ _ _, World.rangeAt_setCells_apart r5 _ _ _ (.inl hne)⟩
  · rw [(e i9 (by omega)).2, (e (i9 + 1) (by omega)).2]; exact h.ne h9 h10
theorem TwI.store2 {U : World} {f : Nat → Value} {y x z : List Value} {n i9 : Nat} {d : Nat → Bool} {V : Nat → Value} {W : World} (h : TwI U f y x z n i9 (i9 + 1) (i9 + 2) (i9 + 3) d V W) (hy : x.length = n) (h9 : d i9 = true) (h10 : d (i9 + 1) = true) {b : Nat} (hb : V (i9 + 1) = .pointer (some ⟨b, 0, none⟩)) (v : Value) :
    TwI U f y x z n i9 (i9 + 1) (i9 + 2) (i9 + 3) (RG.setd d (i9 + 3)) (RG.updV V (i9 + 3) v) (W.setCells b 0 x) := by
  have e : ∀ j, j ≠ i9 + 3 → RG.setd d (i9 + 3) j = d j ∧ RG.updV V (i9 + 3) v j = V j := fun j hj => by
    unfold RG.setd RG.updV
    rw [if_neg hj, if_neg hj]; exact ⟨rfl, rfl⟩
  have s11 : RG.setd d (i9 + 3) (i9 + 3) = true := by unfold RG.setd; rw [if_pos rfl]
  obtain ⟨b', q1, q2, q3, q4, q5⟩ := h.p10 h10
  obtain rfl : b' = b := by rw [hb] at q1; simp at q1; exact q1.symm
  obtain ⟨c, r1, r2, r3, r4, r5⟩ := h.p9 h9
  have hne : c ≠ b' := fun e => h.ne h9 h10 (by rw [q1, r1, e])
  refine ⟨fun j hj hd => ?_, below_setCells q2 _ _ h.be, fun _ => ?_, fun _ => ?_, fun a1 a2 => ?_⟩
  · rw [(e j (by omega)).1] at hd; rw [(e j (by omega)).2]; exact h.si j hj hd
  · rw [(e i9 (by omega)).2, (e (i9 + 2) (by omega)).1]
    exact ⟨c, r1, r2, by rw [size_setC]; exact r3, World.there_setCells r4 _ _ _, World.rangeAt_setCells_apart r5 _ _ _ (.inl hne)⟩
  · rw [(e (i9 + 1) (by omega)).2, s11, if_pos rfl]
    exact ⟨b', q1, q2, by rw [size_setC]; exact q3, World.there_setCells q4 _ _ _, World.rangeAt_setCells_same _ _ _ _ (by rw [hy]; exact q4)⟩
  · rw [(e i9 (by omega)).2, (e (i9 + 1) (by omega)).2]; exact h.ne h9 h10
end Go.Proofs.YtpojalbpekbfdabDoor
/- The reference: Apart. -/
namespace Go.Proofs.YtpojalbpekbfdabDoor
open Go Go.RowKit
set_option linter.unusedSimpArgs false
set_option linter.unusedVariables false
set_option maxRecDepth 100000

def ra7f (x y : Nd) (b o len cap k j : Nat) : Nat → Value
  | 0 => .slice (some ⟨b, o, none⟩) len cap
  | 1 => .int .i64 (k : Int)
  | 2 => .int .i64 (j : Int)
  | 3 => .pointer (some ⟨b, o + j * 65, none⟩)
  | 4 => .agg (nc y).toArray
  | 5 => .slice (some ⟨b, o, none⟩) len cap
  | 6 => .int .i64 (k : Int)
  | 7 => .pointer (some ⟨b, o + k * 65, none⟩)
  | 8 => .agg (nc x).toArray
  | _ => undef
def ra81f (b9 b10 c : Nat) (py px' : List Int) (ny nx : Int) : Nat → Value
  | 0 => .pointer (some ⟨b9, 1, none⟩)
  | 1 => .agg (bv py).toArray
  | 2 => .pointer (some ⟨b10, 1, none⟩)
  | 3 => .agg (bv px').toArray
  | 4 => .bool true
  | 5 => .bool false
  | 6 => .bool false
  | 7 => .pointer (some ⟨b9, 1, none⟩)
  | 8 => .agg (bv py).toArray
  | 9 => .pointer (some ⟨b10, 1, none⟩)
  | 10 => .agg (bv px').toArray
  | 11 => .pointer (some ⟨b9, 0, none⟩)
  | 12 => .int .i64 ny
  | 13 => .pointer (some ⟨b10, 0, none⟩)
  | 14 => .int .i64 nx
  | 15 => .int .i64 (min ny nx)
  | 16 => .int .i64 (c : Int)
  | 17 => .pointer (some ⟨b9, 0, none⟩)
  | 18 => .int .i64 ny
  | 19 => .pointer (some ⟨b10, 0, none⟩)
  | 20 => .int .i64 nx
  | 21 => .int .i64 (min ny nx)
  | 22 => .bool (decide ((c : Int) = min ny nx))
  | 23 => .bool (decide ((c : Int) = min ny nx))
  | _ => undef
def ra82f (b9 b10 c : Nat) (py px' : List Int) (ny nx : Int) : Nat → Value
  | 0 => .pointer (some ⟨b9, 1, none⟩)
  | 1 => .agg (bv py).toArray
  | 2 => .pointer (some ⟨b10, 1, none⟩)
  | 3 => .agg (bv px').toArray
  | 4 => .bool false
  | 5 => .bool true
  | 6 => .bool true
  | 7 => undef
  | 8 => undef
  | 9 => undef
  | 10 => undef
  | 11 => undef
  | 12 => undef
  | 13 => undef
  | 14 => undef
  | 15 => undef
  | 16 => undef
  | 17 => undef
  | 18 => undef
  | 19 => undef
  | 20 => undef
  | 21 => undef
  | 22 => undef
  | 23 => .bool true
  | _ => undef
end Go.Proofs.YtpojalbpekbfdabDoor
/- The reference: Halves. -/
namespace Go.Proofs.YtpojalbpekbfdabDoor
open Go Go.RowKit
set_option linter.unusedSimpArgs false
set_option linter.unusedVariables false
set_option maxRecDepth 100000

theorem cut_uniq (c : Nat) : ∀ (l : List Nd) (k : Nat), k ≤ l.length → (∀ (i : Nat) (x : Nd), l[i]? = some x → i < k → bt x.p c = 0) → (∀ x, l[k]? = some x → bt x.p c ≠ 0) → cut c l = k
  | [], k, hk, _, _ => by simp at hk; subst hk; rfl
  | a :: r, 0, _, _, h => by simp only [cut]; rw [if_neg (h a rfl)]
  | a :: r, k + 1, hk, h1, h2 => by
    simp only [cut]
    rw [if_pos (h1 0 a rfl (by omega)), cut_uniq c r k (by simpa using hk) (fun i x hx hi => h1 (i + 1) x (by simpa using hx) (by omega)) (fun x hx => h2 x (by simpa using hx))]
def rhvf (b o len cap m : Nat) : Nat → Value
  | 0 => .slice (some ⟨b, o, none⟩) len cap
  | 1 => .int .i64 (m : Int)
  | 2 => .slice (some ⟨b, o, none⟩) m cap
  | 3 => .slice (some ⟨b, o, none⟩) len cap
  | 4 => .int .i64 (m : Int)
  | 5 => .slice (some ⟨b, o + m * 65, none⟩) (len - m) (cap - m)
  | 6 => .slice (some ⟨b, o, none⟩) m cap
  | 7 => .slice (some ⟨b, o + m * 65, none⟩) (len - m) (cap - m)
  | _ => undef
set_option maxHeartbeats 4000000 in
theorem rHalves_any (l : List Nd) (hk : ∀ x ∈ l, x.Ok) (c : Nat) (hc : c < 256) (hcut : cut c l < l.length) (v : Value) (w : World) (hv : NS w v l) (hn : l.length ≤ 140737488355328) :
    Calls Tryd.prog 31 #[v, .int .i64 (c : Int)] w fun e w' => ∃ v1 v2, e = .returned (.tuple #[v1, v2]) ∧ NS w' v1 (l.take (cut c l)) ∧ NS w' v2 (l.drop (cut c l)) ∧ Below w.heap.size w w' := by
  have HNS : Hid (NS w v l) := hv
  have hne : l ≠ [] := fun h0 => by rw [h0] at hcut; simp at hcut
  have HNE : Hid (l ≠ []) := hne
  obtain ⟨ad, cap, rfl, hcp, hx⟩ := hv
  rcases hx with ⟨h0, _⟩ | ⟨b, o, rfl, hlb, hmm⟩
  · exact absurd h0 hne
  have HOK : Hid (∀ x ∈ l, x.Ok) := hk
  have HMM : Hid (∀ (i : Nat) (x : Nd), l[i]? = some x → w.rangeAt b (o + i * 65) (nc x)) := hmm
  have HLB : Hid (b < w.heap.size) := hlb
  obtain ⟨len, hlen⟩ : ∃ len, l.length = len := ⟨_, rfl⟩
  have HLEN : Hid (l.length = len) := hlen
  have HCUT : Hid (cut c l < len) := by rw [← hlen]; exact hcut
  rw [hlen] at hn hcp ⊢
  clear hmm hlb hk hne hlen hcut
  go_enter Tryd.func31, Tryd.ntmps31
  go_wp2_with fail
  go_loopw [6] (fun i wr => ∃ k : Nat, k ≤ len ∧ i = .int .i64 (k : Int) ∧ (∀ (i : Nat) (x : Nd), l[i]? = some x → i < k → bt x.p c = 0) ∧ Below w.heap.size w wr) (fun i _ => len - (intOf i).toNat)
  case atStart => exact ⟨0, Nat.zero_le _, rfl, fun i x _ hi => by omega, Below.refl _ _⟩
  case round =>
    obtain ⟨m, hml, rfl, hall, h4⟩ := hrel
    have H4 : Hid (Below w.heap.size w wr) := h4
    have HA : Hid (∀ (i : Nat) (x : Nd), l[i]? = some x → i < m → bt x.p c = 0) := hall
    clear h4 hall
    by_cases hlt : m < len
    · obtain ⟨x, hx⟩ : ∃ x, l[m]? = some x := ⟨l[m]'(by have := HLEN.out; omega), List.getElem?_eq_getElem _⟩
      have HXK : Hid (l[m]? = some x) := hx
      have HP : Hid (L32 x.p) := (HOK.out x (List.mem_of_getElem? hx)).p
      have RP : Hid (wr.rangeAt b (o + m * 65 + 1) (bv x.p)) := nc_p (range_below (HMM.out m x hx) H4.out HLB.out)
      obtain ⟨z, hz⟩ : ∃ z, bt x.p c = z := ⟨_, rfl⟩
      have HBT : Hid (∀ W : World, Calls Tryd.prog 50 #[.agg (bv x.p).toArray, .int .i64 (c : Int)] W fun e w' => e = .returned (.int .u8 (z : Int)) ∧ Below W.heap.size W w') := fun W => by rw [← hz]; exact rBit_any x.p HP.out c hc W
      have HZ : Hid (bt x.p c = z) := hz
      clear hx hz
      by_cases he : z = 0
      · subst he
        go_wp2_with (first
          | (refine load_g rfl 25 (.tmp 15) rfl b (o + m * 65 + 1) rfl (bv x.p) _ RP.out Tryd.underlying25 rfl (size_l32 HP.out) ?_)
          | (go_at_call 50; refine (HBT.out wr).mono ?_; rintro e W9 ⟨rfl, g1⟩; have B9 : Hid (Below wr.heap.size wr W9) := g1; clear g1))
        exact ⟨⟨m + 1, by omega, by go_num, fun i y hy hi => by
          rcases Nat.lt_succ_iff_lt_or_eq.1 hi with q | rfl
          · exact HA.out i y hy q
          · rw [HXK.out] at hy; cases hy; exact HZ.out, H4.out.trans (B9.out.mono H4.out.size)⟩, by simp [intOf]; omega⟩
      · have he' : ¬ (z : Int) = 0 := by omega
        have E : Hid (cut c l = m) := cut_uniq c l m (by have := HLEN.out; omega) HA.out (fun y hy => by rw [HXK.out] at hy; cases hy; rw [HZ.out]; exact he)
        go_wp2_with (first
          | (refine load_g rfl 25 (.tmp 15) rfl b (o + m * 65 + 1) rfl (bv x.p) _ RP.out Tryd.underlying25 rfl (size_l32 HP.out) ?_)
          | (go_at_call 50; refine (HBT.out wr).mono ?_; rintro e W9 ⟨rfl, g1⟩; have B9 : Hid (Below wr.heap.size wr W9) := g1; clear g1))
        refine RU.wp_rgn' [] (rhvf b o len cap m) (fun _ => 0) (gΩ W9) (by kernel_rfl) (by kernel_rfl) (show Below W9.heap.size W9 _ from (Below.refl _ _).drew) ?_ ?_
        · refine ⟨?_, ?_, ?_, ?_, ?_, ?_, ?_, ?_, trivial⟩
          · refine RU.ObT.pure rfl rfl rfl (fun a V hf hp ev he hc W => ?_)
            have q0 : ev (.tmp 0) = .slice (some ⟨b, o, none⟩) len cap := (he (.tmp 0)).trans (hf 0 rfl)
            simp only [List.getElem_toArray, List.getElem_cons_succ, List.getElem_cons_zero, execOp, Option.map_some, Option.map_none]; rw [q0]
            first | (go_simp; done) | (go_simp; rfl) | rfl
          · refine RU.ObT.pure rfl rfl rfl (fun a V hf hp ev he hc W => ?_)
            have q6 : ev (.tmp 6) = .int .i64 (m : Int) := (he (.tmp 6)).trans (hf 6 rfl)
            simp only [List.getElem_toArray, List.getElem_cons_succ, List.getElem_cons_zero, execOp, Option.map_some, Option.map_none]; rw [q6]
            first | (go_simp; done) | (go_simp; rfl) | rfl
          · refine RU.ObT.pure rfl rfl rfl (fun a V hf hp ev he hc W => ?_)
            have q23 : ev (.tmp 23) = .slice (some ⟨b, o, none⟩) len cap := (he (.tmp 23)).trans (hp 0 23 rfl)
            have q24 : ev (.tmp 24) = .int .i64 (m : Int) := (he (.tmp 24)).trans (hp 1 24 rfl)
            simp only [List.getElem_toArray, List.getElem_cons_succ, List.getElem_cons_zero, execOp, Option.map_some, Option.map_none]; rw [q23, q24]
            have hm1 : (m : Int) ≤ (len : Int) := by omega
            have hm2 : (m : Int) ≤ (cap : Int) := by omega
            have hm3 : (len : Int) ≤ (cap : Int) := by omega
            first | (go_simp; done) | (go_simp; rfl) | rfl
          · refine RU.ObT.pure rfl rfl rfl (fun a V hf hp ev he hc W => ?_)
            have q0 : ev (.tmp 0) = .slice (some ⟨b, o, none⟩) len cap := (he (.tmp 0)).trans (hf 0 rfl)
            simp only [List.getElem_toArray, List.getElem_cons_succ, List.getElem_cons_zero, execOp, Option.map_some, Option.map_none]; rw [q0]
            first | (go_simp; done) | (go_simp; rfl) | rfl
          · refine RU.ObT.pure rfl rfl rfl (fun a V hf hp ev he hc W => ?_)
            have q6 : ev (.tmp 6) = .int .i64 (m : Int) := (he (.tmp 6)).trans (hf 6 rfl)
            simp only [List.getElem_toArray, List.getElem_cons_succ, List.getElem_cons_zero, execOp, Option.map_some, Option.map_none]; rw [q6]
            first | (go_simp; done) | (go_simp; rfl) | rfl
          · refine RU.ObT.pure rfl rfl rfl (fun a V hf hp ev he hc W => ?_)
            have q26 : ev (.tmp 26) = .slice (some ⟨b, o, none⟩) len cap := (he (.tmp 26)).trans (hp 3 26 rfl)
            have q27 : ev (.tmp 27) = .int .i64 (m : Int) := (he (.tmp 27)).trans (hp 4 27 rfl)
            simp only [List.getElem_toArray, List.getElem_cons_succ, List.getElem_cons_zero, execOp, Option.map_some, Option.map_none]; rw [q26, q27]
            have hm1 : (m : Int) ≤ (len : Int) := by omega
            have hm2 : (m : Int) ≤ (cap : Int) := by omega
            have hm3 : (len : Int) ≤ (cap : Int) := by omega
            have hcm : ¬ cap = m := by omega
            first | (go_simp; done) | (go_simp; rfl) | rfl
          · refine RU.ObT.pure rfl rfl rfl (fun a V hf hp ev he hc W => ?_)
            have q25 : ev (.tmp 25) = .slice (some ⟨b, o, none⟩) m cap := (he (.tmp 25)).trans (hp 2 25 rfl)
            simp only [List.getElem_toArray, List.getElem_cons_succ, List.getElem_cons_zero, execOp, Option.map_some, Option.map_none]; rw [q25]
            first | (go_simp; done) | (go_simp; rfl) | rfl
          · refine RU.ObT.pure rfl rfl rfl (fun a V hf hp ev he hc W => ?_)
            have q28 : ev (.tmp 28) = .slice (some ⟨b, o + m * 65, none⟩) (len - m) (cap - m) := (he (.tmp 28)).trans (hp 5 28 rfl)
            simp only [List.getElem_toArray, List.getElem_cons_succ, List.getElem_cons_zero, execOp, Option.map_some, Option.map_none]; rw [q28]
            first | (go_simp; done) | (go_simp; rfl) | rfl
        intro W3 VW3 hOW3
        have BW3 : Hid (Below W9.heap.size W9 W3) := hOW3
        clear hOW3
        simp only [RU.lay, RU.val, RU.at', rhvf, Act.put]
        simp only [List.setIfInBounds_toArray, List.set_cons_succ, List.set_cons_zero]
        go_wp2_with fail
        go_ret2
        rw [E.out]
        have hns : NS W3 (.slice (some ⟨b, o, none⟩) l.length cap) l := ((HNS.out.below H4.out).below B9.out).below BW3.out
        refine ⟨_, _, rfl, hns.take HNE.out (by rw [HLEN.out]; omega), ?_, H4.out.trans ((B9.out.trans (BW3.out.mono B9.out.size)).mono H4.out.size)⟩
        have := hns.drop HNE.out (m := m) (by rw [HLEN.out]; omega)
        rw [HLEN.out] at this
        exact this
    · have E : cut c l = m := cut_uniq c l m (by have := HLEN.out; omega) HA.out (fun y hy => by
        have := (List.getElem?_eq_some_iff.1 hy).1
        have := HLEN.out; omega)
      have := HCUT.out
      omega
end Go.Proofs.YtpojalbpekbfdabDoor
