/- SHA-512: words out of bytes: word32, word64. -/
import Derived.Test.YtdegfgncdphepaaDoorMemI
namespace Go.Proofs.YtdegfgncdphepaaDoor.Shf
open Go Go.RowKit
set_option linter.unusedSimpArgs false
set_option linter.unusedVariables false
/-- n bytes from the place o on. -/
def ByAt (l : List Value) (o n : Nat) : Prop := ∀ i, i < n → l[o + i]? = some (.int .u8 (intL l (o + i)))
theorem ByAt.sub {l : List Value} {o n : Nat} (h : ByAt l o n) (a k : Nat) (hk : a + k ≤ n) : ByAt l (o + a) k := fun i hi => by
  rw [Nat.add_assoc]; exact h (a + i) (by omega)
def slv (b o n k : Nat) : Value := .slice (some ⟨b, o, none⟩) n k
def w32 (a b c d : Int) : Int := bits .or .u32 (bits .or .u32 (bits .or .u32 (IntKind.u32.wrap (IntKind.u32.wrap a * 2 ^ 24)) (IntKind.u32.wrap (IntKind.u32.wrap b * 2 ^ 16))) (IntKind.u32.wrap (IntKind.u32.wrap c * 2 ^ 8))) (IntKind.u32.wrap d)
def W32 (l : List Value) (o : Nat) : Int := w32 (intL l o) (intL l (o + 1)) (intL l (o + 2)) (intL l (o + 3))
def T32 (l : List Value) (o n k : Nat) (qs : List Value) : Prop := qs = [] ∧ 4 ≤ n ∧ ByAt l o 4
def V32 (l : List Value) (o n : Nat) (qs : List Value) : Value := .int .u32 (W32 l o)
def N1 : Cx := Cx.none.terms
theorem N1_ok : N1.Ok Tryd.prog := Cx.terms_ok Cx.none_ok
def w32S (P : Program) (fn : Func) (l : List Value) (ty : BT) (o n k : Nat) : Act × Mem := runS P N1 40 (bodyOf fn) (sinit fn [slv 0 o n k], [some ⟨l, ty⟩])
theorem w32_e (l : List Value) (ty : BT) (o n k : Nat) : sexec Tryd.prog N1 40 (bodyOf Tryd.f86) [] (sinit Tryd.f86 [slv 0 o n k], [some ⟨l, ty⟩]) =
    some ([(0 : Int) ≤ 0 ∧ (0 : Int) < (n : Int), l[o]? = some (.int .u8 (intL l o)), (0 : Int) ≤ 24, (0 : Int) ≤ 1 ∧ (1 : Int) < (n : Int), l[o + 1]? = some (.int .u8 (intL l (o + 1))), (0 : Int) ≤ 16, (0 : Int) ≤ 2 ∧ (2 : Int) < (n : Int), l[o + 2]? = some (.int .u8 (intL l (o + 2))), (0 : Int) ≤ 8, (0 : Int) ≤ 3 ∧ (3 : Int) < (n : Int), l[o + 3]? = some (.int .u8 (intL l (o + 3)))],
      .ret, w32S Tryd.prog Tryd.f86 l ty o n k) := by kernel_rfl
theorem w32_r (l : List Value) (ty : BT) (o n k : Nat) : sres Tryd.prog Tryd.f86 (w32S Tryd.prog Tryd.f86 l ty o n k) = some (.int .u32 (W32 l o)) := by kernel_rfl
theorem w32_d (l : List Value) (ty : BT) (o n k : Nat) : (w32S Tryd.prog Tryd.f86 l ty o n k).1.defers = [] := by kernel_rfl
theorem w32_m (l : List Value) (ty : BT) (o n k : Nat) : (w32S Tryd.prog Tryd.f86 l ty o n k).2 = [some ⟨l, ty⟩] := by kernel_rfl
theorem gW32_ok {X : Cx} (hX : X.Ok Tryd.prog) : (X.read 86 (gRd [] T32 V32)).Ok Tryd.prog := by
  refine gRd_ok (gl := []) hX rfl rfl rfl Tryd.func86 (by kernel_rfl) (show _ = some (bodyOf Tryd.f86) from (by kernel_rfl)) ?_
  rintro l ty o n k qs hl hq ⟨rfl, hn, hb⟩
  refine ⟨rfl, SW.run N1_ok mixed 40 (w32_e l ty o n k) ?_ ⟨.inr rfl, w32_d l ty o n k, _, [], w32_r l ty o n k, .inl rfl, w32_m l ty o n k, rfl⟩⟩
  intro p hp
  simp only [List.mem_cons, List.not_mem_nil, or_false] at hp
  rcases hp with rfl | rfl | rfl | rfl | rfl | rfl | rfl | rfl | rfl | rfl | rfl
  all_goals first | omega | exact hb 0 (by decide) | exact hb 1 (by decide) | exact hb 2 (by decide) | exact hb 3 (by decide)
/-- word64 -/
def W64 (l : List Value) (o : Nat) : Int := bits .or .u64 (IntKind.u64.wrap (IntKind.u64.wrap (W32 l o) * 2 ^ 32)) (IntKind.u64.wrap (W32 l (o + 4)))
def T64 (l : List Value) (o n k : Nat) (qs : List Value) : Prop := qs = [] ∧ 8 ≤ k ∧ ByAt l o 8
def V64 (l : List Value) (o n : Nat) (qs : List Value) : Value := .int .u64 (W64 l o)
def N2 : Cx := (Cx.none.read 86 (gRd [] T32 V32)).terms
theorem N2_ok : N2.Ok Tryd.prog := Cx.terms_ok (gW32_ok Cx.none_ok)
def w64S (P : Program) (fn : Func) (l : List Value) (ty : BT) (o n k : Nat) : Act × Mem := runS P N2 40 (bodyOf fn) (sinit fn [slv 0 o n (k + 8)], [some ⟨l, ty⟩])
theorem w64_e (l : List Value) (ty : BT) (o n k : Nat) : sexec Tryd.prog N2 40 (bodyOf Tryd.f68) [] (sinit Tryd.f68 [slv 0 o n (k + 8)], [some ⟨l, ty⟩]) =
    some ([(0 : Int) ≤ 4 ∧ (4 : Int) ≤ ((k + 8 : Nat) : Int), l.all flatR = true, T32 l o (4 - 0) (k + 8 - 0) [], (0 : Int) ≤ 32, (0 : Int) ≤ 8 ∧ (8 : Int) ≤ ((k + 8 : Nat) : Int), (0 : Int) ≤ 4 ∧ (4 : Int) ≤ ((8 : Nat) : Int), l.all flatR = true, T32 l (o + 4) (8 - 4) (k + 8 - 4) []],
      .ret, w64S Tryd.prog Tryd.f68 l ty o n k) := by kernel_rfl
theorem w64_r (l : List Value) (ty : BT) (o n k : Nat) : sres Tryd.prog Tryd.f68 (w64S Tryd.prog Tryd.f68 l ty o n k) = some (.int .u64 (W64 l o)) := by kernel_rfl
theorem w64_d (l : List Value) (ty : BT) (o n k : Nat) : (w64S Tryd.prog Tryd.f68 l ty o n k).1.defers = [] := by kernel_rfl
theorem w64_m (l : List Value) (ty : BT) (o n k : Nat) : (w64S Tryd.prog Tryd.f68 l ty o n k).2 = [some ⟨l, ty⟩] := by kernel_rfl
theorem gW64_ok {X : Cx} (hX : X.Ok Tryd.prog) : (X.read 68 (gRd [] T64 V64)).Ok Tryd.prog := by
  refine gRd_ok (gl := []) hX rfl rfl rfl Tryd.func68 (by kernel_rfl) (show _ = some (bodyOf Tryd.f68) from (by kernel_rfl)) ?_
  rintro l ty o n k qs hl hq ⟨rfl, hk, hb⟩
  obtain ⟨k, rfl⟩ := Nat.exists_eq_add_of_le' hk
  refine ⟨rfl, SW.run N2_ok mixed 40 (w64_e l ty o n k) ?_ ⟨.inr rfl, w64_d l ty o n k, _, [], w64_r l ty o n k, .inl rfl, w64_m l ty o n k, rfl⟩⟩
  intro p hp
  simp only [List.mem_cons, List.not_mem_nil, or_false] at hp
  rcases hp with rfl | rfl | rfl | rfl | rfl | rfl | rfl | rfl
  all_goals first | omega | exact hl | exact ⟨rfl, by decide, hb.sub 0 4 (by decide)⟩ | exact ⟨rfl, by decide, hb.sub 4 4 (by decide)⟩
def H4 : Cx := H3.read 68 (gRd [] T64 V64)
theorem H4_ok : H4.Ok Tryd.prog := gW64_ok H3_ok
end Go.Proofs.YtdegfgncdphepaaDoor.Shf
/- Codes one behind the other, run as one. -/
namespace Go.Proofs.YtdegfgncdphepaaDoor
open Go Go.RowKit
set_option linter.unusedSimpArgs false
set_option linter.unusedVariables false
variable {gl : List Nat} {r : Ren} {w : World} {m : Mem} {P : Program} {X : Cx}
def sexecL (P : Program) (X : Cx) (n : Nat) : List Code → List Prop → Act × Mem → Option (List Prop × Act × Mem)
  | [], qs, s => some (qs, s)
  | c :: cs, qs, s => match sexec P X n c qs s with
    | some (qs', .normal, s') => sexecL P X n cs qs' s'
    | _ => none
def seqs : List Code → Code → Code
  | [], c => c
  | a :: cs, c => .seq a (seqs cs c)
def runL (P : Program) (X : Cx) (n : Nat) (cs : List Code) (s : Act × Mem) : Act × Mem :=
  match sexecL P X n cs [] s with
  | some (_, s') => s'
  | Option.none => s
theorem sexecL_ob {n : Nat} : ∀ (cs : List Code) (qs : List Prop) (s : Act × Mem) (rs : List Prop) (s' : Act × Mem), sexecL P X n cs qs s = some (rs, s') → ∀ p ∈ qs, p ∈ rs
  | [], qs, s, rs, s', h, p, hp => by simp only [sexecL, Option.some.injEq, Prod.mk.injEq] at h; rw [← h.1]; exact hp
  | c :: cs, qs, s, rs, s', h, p, hp => by
    simp only [sexecL] at h
    split at h
    · rename_i h1
      exact sexecL_ob cs _ _ _ _ h p (sexec_ob _ _ _ _ _ _ _ h1 p hp)
    · simp at h
theorem sexecL_sound (hX : X.Ok P) (hm : P.follows .mixedOrders = true) {n : Nat} {rest : Code} {Q : Exit → Act × Mem → Prop} {rs : List Prop} (hrs : ∀ p ∈ rs, p) : ∀ (cs : List Code) (qs : List Prop) (s s' : Act × Mem), sexecL P X n cs qs s = some (rs, s') → SW P X.gl rest s' Q → SW P X.gl (seqs cs rest) s Q
  | [], qs, s, s', h, hq => by simp only [sexecL, Option.some.injEq, Prod.mk.injEq] at h; rw [h.2]; exact hq
  | c :: cs, qs, s, s', h, hq => by
    simp only [sexecL] at h
    split at h
    · rename_i q1 s1 h1
      refine SW.seq ((sexec_sound hX hm hrs n c qs _ s _ _ h1 (sexecL_ob cs _ _ _ _ h)).mono ?_)
      rintro e s2 ⟨rfl, rfl⟩
      exact sexecL_sound hX hm hrs cs _ _ _ h hq
    · simp at h
/-- Some codes whose tests are all plain, and what is behind them. -/
theorem SW.pre (hX : X.Ok P) (hm : P.follows .mixedOrders = true) {n : Nat} {c rest : Code} {cs : List Code} {s s' : Act × Mem} {ps : List Prop} {Q : Exit → Act × Mem → Prop} (hc : c = seqs cs rest) (h : sexecL P X n cs [] s = some (ps, s')) (hp : ∀ p ∈ ps, p) (hq : SW P X.gl rest s' Q) : SW P X.gl c s Q := by
  rw [hc]; exact sexecL_sound hX hm hp cs [] s s' h hq
/-- The same, and then what is known of some slots is let go. -/
theorem SW.preK (hX : X.Ok P) (hm : P.follows .mixedOrders = true) {n : Nat} {c rest : Code} {cs : List Code} {s s' t : Act × Mem} {ps : List Prop} {Q : Exit → Act × Mem → Prop} {l : List Nat} (hc : c = seqs cs rest) (h : sexecL P X n cs [] s = some (ps, s')) (hp : ∀ p ∈ ps, p) (hk : (forgetL s'.1 l, s'.2) = t) (hq : SW P X.gl rest t Q) : SW P X.gl c s Q :=
  SW.pre hX hm hc h hp (SW.forget l (by rw [hk]; exact hq))
/-- A loop whose head is known up to some slots: rounds told by a counter. -/
theorem SW.loopK {c b : Code} {s : Act × Mem} {Q : Exit → Act × Mem → Prop} (hc : c = .loop b) (l : List Nat) (hd : Nat → Act × Mem) (k0 n : Nat) (h0 : (forgetL s.1 l, s.2) = hd k0) (hk : k0 ≤ n)
    (round : ∀ k, k0 ≤ k → k < n → SW P gl b (hd k) (thenS (fun s' => (forgetL s'.1 l, s'.2) = hd (k + 1)) Q))
    (last : SW P gl b (hd n) (thenS (fun _ => False) Q)) : SW P gl c s Q := by
  rw [hc]
  refine SW.loop (fun j s => ∃ k, k0 ≤ k ∧ k ≤ n ∧ j = n - k ∧ (forgetL s.1 l, s.2) = hd k) (n - k0) ⟨k0, Nat.le_refl _, hk, rfl, h0⟩ ?_
  rintro j ⟨a, m⟩ ⟨k, h1, h2, rfl, h3⟩
  refine SW.forget l ?_
  simp only at h3
  rw [h3]
  rcases Nat.lt_or_ge k n with h | h
  · refine (round k h1 h).mono ?_
    rintro (_ | _ | _ | _) s' hs
    · exact ⟨n - (k + 1), by omega, k + 1, by omega, by omega, rfl, hs⟩
    all_goals exact hs
  · have : k = n := by omega
    subst this
    refine last.mono ?_
    rintro (_ | _ | _ | _) s' hs
    · exact hs.elim
    all_goals exact hs
theorem SW.forgetK {c : Code} {s t : Act × Mem} {Q : Exit → Act × Mem → Prop} (l : List Nat) (h : (forgetL s.1 l, s.2) = t) (hq : SW P gl c t Q) : SW P gl c s Q := by
  obtain ⟨a, m⟩ := s
  exact SW.forget l (by rw [show (forgetL a l, m) = t from h]; exact hq)
theorem blockS_exit {id : Nat} {Q : Exit → Act × Mem → Prop} {s : Act × Mem} (h : Q .normal s) : blockS id Q (.exit id) s := by simp only [blockS, if_true]; exact h
theorem thenS_norm {N : Act × Mem → Prop} {Q : Exit → Act × Mem → Prop} {s : Act × Mem} (h : N s) : thenS N Q .normal s := h
theorem thenS_exit {N : Act × Mem → Prop} {Q : Exit → Act × Mem → Prop} {s : Act × Mem} {id : Nat} (h : Q (.exit id) s) : thenS N Q (.exit id) s := h
theorem SW.runG (hX : X.Ok P) (hm : P.follows .mixedOrders = true) (hg : X.gl = gl) {c : Code} {s s' : Act × Mem} {e : Exit} {ps : List Prop} {Q : Exit → Act × Mem → Prop} (n : Nat) (h : sexec P X n c [] s = some (ps, e, s')) (hp : ∀ p ∈ ps, p) (hq : Q e s') : SW P gl c s Q := by
  rw [← hg]; exact SW.run hX hm n h hp hq
theorem SW.preG (hX : X.Ok P) (hm : P.follows .mixedOrders = true) (hg : X.gl = gl) {n : Nat} {c rest : Code} {cs : List Code} {s s' : Act × Mem} {ps : List Prop} {Q : Exit → Act × Mem → Prop} (hc : c = seqs cs rest) (h : sexecL P X n cs [] s = some (ps, s')) (hp : ∀ p ∈ ps, p) (hq : SW P gl rest s' Q) : SW P gl c s Q := by
  subst hg; exact SW.pre hX hm hc h hp hq
end Go.Proofs.YtdegfgncdphepaaDoor
