/- The law's trees as the document's. -/
import Derived.Test.YtefaohokmhdplaaDoorJwF
import Derived.Test.YtefaohokmhdplaaDoorJxS
namespace Go.Proofs.YtefaohokmhdplaaDoor
open Go Go.RowKit
set_option linter.unusedSimpArgs false
set_option linter.unusedVariables false
set_option maxRecDepth 100000

def ourΩ (U : World) (K : Nat) (sv : Value) (k : Nat) (j : JT) (Y : List Tv) : Nat → (Nat → Value) → World → Prop
  | 0, _, W => Below U.heap.size U W
  | 1, V, W => ∃ x : Tv, V 0 = x.val ∧ OT (fun b => U.heap.size ≤ b) W x j ∧ Below U.heap.size U W
  | 2, V, W => ∃ (x : Tv) (W1 : World), OT (fun b => U.heap.size ≤ b) W1 x j ∧ Below U.heap.size U W1 ∧ V 1 = .slice (some ⟨W1.heap.size, 0, none⟩) 1 1 ∧ W = W1.alloc (.cells (tcv x).toArray 26)
  | 3, V, W => ∃ (x : Tv) (W1 : World) (p : Sv), OT (fun b => U.heap.size ≤ b) W1 x j ∧ Below U.heap.size U W1 ∧ V 2 = p.v ∧ W.ownsRow (K + 3) 26 5 p.v (k + 1) (tcs Y ++ tcv x) ∧ (W1.alloc (.cells (tcv x).toArray 26)).grownBy W sv.ownBlock ∧ (p.v.ownBlock = sv.ownBlock ∨ p.v.ownBlock = some (W1.alloc (.cells (tcv x).toArray 26)).heap.size)
  | _, V, W => ∃ (x : Tv) (W1 W2 : World) (p : Sv), OT (fun b => U.heap.size ≤ b) W1 x j ∧ Below U.heap.size U W1 ∧ W2.ownsRow (K + 3) 26 5 p.v (k + 1) (tcs Y ++ tcv x) ∧ (W1.alloc (.cells (tcv x).toArray 26)).grownBy W2 sv.ownBlock ∧ (p.v.ownBlock = sv.ownBlock ∨ p.v.ownBlock = some (W1.alloc (.cells (tcv x).toArray 26)).heap.size) ∧ W = W2.setCell ⟨K + 2, 4, none⟩ p.v
theorem ourΩ.low {U : World} {K : Nat} {sv : Value} {k : Nat} {j : JT} {Y : List Tv} {n : Nat} {V : Nat → Value} {W : World} (hn : n ≤ 2) (h : ourΩ U K sv k j Y n V W) : Below U.heap.size U W := by
  match n, hn, h with
  | 0, _, h => exact h
  | 1, _, ⟨x, _, _, h⟩ => exact h
  | 2, _, ⟨x, W1, _, hb9, _, e⟩ => subst e; exact hb9.alloc hb9.size _
theorem mid_row {w W : World} {b o k : Nat} {xs : List Tv} {y : Tv} (hm : w.rangeAt b o (tcs xs)) (hb : Below w.heap.size w W) (hlb : b < w.heap.size) (h : xs[k]? = some y) : W.rangeAt b (o + k * 5) (tcv y) := fun j v hv => by
  have hj : j < 5 := by have := (List.getElem?_eq_some_iff.1 hv).1; simpa [tcv] using this
  rw [hb.cell (p := ⟨b, o + k * 5 + j, none⟩) hlb, Nat.add_assoc]
  exact hm _ _ (by rw [tcs_at xs k y h j hj]; exact hv)
def our9 (K k b o pn pc : Nat) (sa : Option Addr) (sn sc : Nat) (y : Tv) : Nat → Value
  | 0 => .pointer (some ⟨K + 2, 4, none⟩)
  | 1 => .slice sa sn sc
  | 2 => .pointer (some ⟨K, 4, none⟩)
  | 3 => .slice (some ⟨b, o, none⟩) pn pc
  | 4 => .int .i64 (k : Int)
  | 5 => .pointer (some ⟨b, o + k * 5, none⟩)
  | 6 => Tv.val y
  | 7 => undef
  | 8 => undef
  | 9 => undef
  | 10 => .pointer (some ⟨K + 2, 4, none⟩)
  | 11 => undef
  | _ => undef
/-- What has been gathered. -/
def OW (K : Nat) (X : Tv) (ks : List ByteArray) (ps : List JT) (W' : World) (k m : Nat) : Prop := LC W' K X ∧ TC W' (K + 1) TN ∧ ∃ (kv sv : Sv) (gs : List ByteArray) (ys : List Tv), TC W' (K + 2) ⟨X.k, X.b, X.t, kv, sv⟩ ∧ W'.ownsRow (K + 3) 9 1 kv.v m (keyc gs) ∧ W'.ownsRow (K + 3) 26 5 sv.v k (tcs ys) ∧ gs.length = m ∧ ys.length = k ∧ (∀ (i : Nat) (g : ByteArray), gs[i]? = some g → g = (ks[i]?).getD ⟨#[]⟩) ∧ ∀ (i : Nat) (y : Tv) (j : JT), ys[i]? = some y → ps[i]? = some j → OT (fun b => K + 3 ≤ b ∧ kv.v.ownBlock ≠ some b ∧ sv.v.ownBlock ≠ some b) W' y j
theorem key_push {K k : Nat} {X : Tv} {ks : List ByteArray} {ps : List JT} {wr W1 W2 : World} {kv sv kv' : Sv} {gs : List ByteArray} {ys : List Tv} {key : ByteArray} {A : Array Value} {T : TypeId} (hlc : LC wr K X) (htn : TC wr (K + 1) TN) (htc : TC wr (K + 2) ⟨X.k, X.b, X.t, kv, sv⟩) (hrk : wr.ownsRow (K + 3) 9 1 kv.v k (keyc gs)) (hrp : wr.ownsRow (K + 3) 26 5 sv.v k (tcs ys)) (hgl : gs.length = k) (hyl : ys.length = k) (hg : ∀ (i : Nat) (g : ByteArray), gs[i]? = some g → g = (ks[i]?).getD ⟨#[]⟩) (hot : ∀ (i : Nat) (y : Tv) (j : JT), ys[i]? = some y → ps[i]? = some j → OT (fun b => K + 3 ≤ b ∧ kv.v.ownBlock ≠ some b ∧ sv.v.ownBlock ≠ some b) wr y j)
    (hkey : key = (ks[k]?).getD ⟨#[]⟩) (hW1 : wr.alloc (.cells A T) = W1) (o1 : W2.ownsRow (K + 3) 9 1 kv'.v (k + 1) (keyc gs ++ [.string key])) (o2 : W1.grownBy W2 kv.v.ownBlock) (o3 : kv'.v.ownBlock = kv.v.ownBlock ∨ kv'.v.ownBlock = some W1.heap.size) : OW K X ks ps (W2.setCell ⟨K + 2, 3, none⟩ kv'.v) k (k + 1) ∧ Below K wr (W2.setCell ⟨K + 2, 3, none⟩ kv'.v) := by
  have hs1 : W1.heap.size = wr.heap.size + 1 := by rw [← hW1]; simp
  have ow := fun b e => own_lt hrk b e
  have op := fun b e => own_lt hrp b e
  have lt := htc.lt
  have old : ∀ b, b < wr.heap.size → kv.v.ownBlock ≠ some b → b ≠ K + 2 → (W2.setCell ⟨K + 2, 3, none⟩ kv'.v).heap[b]? = wr.heap[b]? := fun b hb h1 h2 => by
    rw [Below.heap_setCell _ _ _ _ (by show b ≠ K + 2; exact h2), o2.block b (by omega) (fun e => h1 e.symm), ← hW1, heap_alloc_old _ _ hb]
  have nk : ∀ b, b < wr.heap.size → kv.v.ownBlock ≠ some b → kv'.v.ownBlock ≠ some b := fun b hb h2 e => by
    rcases o3 with x | x
    · exact h2 (x ▸ e)
    · rw [x] at e; cases e; omega
  have ks' : (W2.setCell ⟨K + 2, 3, none⟩ kv'.v).heap.size = W2.heap.size := by simp [World.setCell]
  have tc2 : TC W2 (K + 2) ⟨X.k, X.b, X.t, kv, sv⟩ := htc.keep ((o2.block _ (by omega) (fun e => by have := (ow _ e.symm).1; omega)).trans (by rw [← hW1]; exact heap_alloc_old _ _ lt))
  refine ⟨⟨hlc.keep (old K (by omega) (fun e => by have := (ow _ e).1; omega) (by omega)), htn.keep (old (K + 1) (by omega) (fun e => by have := (ow _ e).1; omega) (by omega)), kv', sv, gs ++ [key], ys, tc2.set3 kv', ?_, ?_, by simp [hgl], hyl, ?_, ?_⟩, ?_⟩
  · rw [show keyc (gs ++ [key]) = keyc gs ++ [.string key] by simp [keyc]]
    exact own_keep o1 (fun b e => Below.heap_setCell _ _ _ _ (by show b ≠ K + 2; have := (own_lt o1 b e).1; omega))
  · exact own_keep hrp (fun b e => old b (op b e).2 (fun q => own_apart hrk hrp (by decide) b q e) (by have := (op b e).1; omega))
  · intro i g hgi
    rcases Nat.lt_or_ge i gs.length with q | q
    · rw [List.getElem?_append_left q] at hgi; exact hg i g hgi
    · rw [List.getElem?_append_right q] at hgi
      have e : i = gs.length := by have := (List.getElem?_eq_some_iff.1 hgi).1; simp at this; omega
      subst e
      rw [Nat.sub_self] at hgi; simp at hgi; subst hgi
      rw [hgl]; exact hkey
  · intro i y j hy hj
    exact (hot i y j hy hj).keep (fun b hb hlt => ⟨⟨hb.1, nk b hlt hb.2.1, hb.2.2⟩, old b hlt hb.2.1 (by have := hb.1; omega)⟩) (by have := o2.size; omega)
  · exact ⟨o2.os.trans (by rw [← hW1]; rfl), o2.tape.trans (by rw [← hW1]; rfl), o2.output.trans (by rw [← hW1]; rfl), by have := o2.size; omega, fun b hb => old b (by omega) (fun e => by have := (ow _ e).1; omega) (by omega)⟩
theorem part_push {K k : Nat} {X : Tv} {ks : List ByteArray} {ps : List JT} {wr W : World} {kv sv : Sv} {gs : List ByteArray} {ys : List Tv} {j : JT} {V : Nat → Value} (hlc : LC wr K X) (htn : TC wr (K + 1) TN) (htc : TC wr (K + 2) ⟨X.k, X.b, X.t, kv, sv⟩) (hrk : wr.ownsRow (K + 3) 9 1 kv.v (k + 1) (keyc gs)) (hrp : wr.ownsRow (K + 3) 26 5 sv.v k (tcs ys)) (hgl : gs.length = k + 1) (hyl : ys.length = k) (hg : ∀ (i : Nat) (g : ByteArray), gs[i]? = some g → g = (ks[i]?).getD ⟨#[]⟩) (hot : ∀ (i : Nat) (y : Tv) (j : JT), ys[i]? = some y → ps[i]? = some j → OT (fun b => K + 3 ≤ b ∧ kv.v.ownBlock ≠ some b ∧ sv.v.ownBlock ≠ some b) wr y j)
    (hj : ps[k]? = some j) (h : ourΩ wr K sv.v k j ys 4 V W) : OW K X ks ps W (k + 1) (k + 1) ∧ Below K wr W := by
  obtain ⟨x, W1, W2, p, hox, hb, o1, o2, o3, rfl⟩ := h
  have hs1 := hb.size
  have ow := fun b e => own_lt hrk b e
  have op := fun b e => own_lt hrp b e
  have lt := htc.lt
  have hs2 := o2.size
  simp only [World.size_alloc] at o3 hs2
  have old1 : ∀ b, b < W1.heap.size → sv.v.ownBlock ≠ some b → b ≠ K + 2 → (W2.setCell ⟨K + 2, 4, none⟩ p.v).heap[b]? = W1.heap[b]? := fun b hb1 h1 h2 => by
    rw [Below.heap_setCell _ _ _ _ (by show b ≠ K + 2; exact h2), o2.block b (by simp; omega) (fun e => h1 e.symm), heap_alloc_old _ _ hb1]
  have old : ∀ b, b < wr.heap.size → sv.v.ownBlock ≠ some b → b ≠ K + 2 → (W2.setCell ⟨K + 2, 4, none⟩ p.v).heap[b]? = wr.heap[b]? := fun b hb1 h1 h2 => (old1 b (by omega) h1 h2).trans (hb.block b hb1)
  have nk : ∀ b, b < W1.heap.size → sv.v.ownBlock ≠ some b → p.v.ownBlock ≠ some b := fun b hb h2 e => by
    rcases o3 with x | x
    · exact h2 (x ▸ e)
    · rw [x] at e; cases e; omega
  have ks' : (W2.setCell ⟨K + 2, 4, none⟩ p.v).heap.size = W2.heap.size := by simp [World.setCell]
  have tc2 : TC W2 (K + 2) ⟨X.k, X.b, X.t, kv, sv⟩ := htc.keep ((o2.block _ (by simp; omega) (fun e => by have := (op _ e.symm).1; omega)).trans ((heap_alloc_old _ _ (by omega)).trans (hb.block _ lt)))
  refine ⟨⟨hlc.keep (old K (by omega) (fun e => by have := (op _ e).1; omega) (by omega)), htn.keep (old (K + 1) (by omega) (fun e => by have := (op _ e).1; omega) (by omega)), kv, p, gs, ys ++ [x], tc2.set4 p, ?_, ?_, hgl, by simp [hyl], hg, ?_⟩, ?_⟩
  · exact own_keep hrk (fun b e => old b (ow b e).2 (fun q => own_apart hrp hrk (by decide) b q e) (by have := (ow b e).1; omega))
  · rw [tcs_push]
    exact own_keep o1 (fun b e => Below.heap_setCell _ _ _ _ (by show b ≠ K + 2; have := (own_lt o1 b e).1; omega))
  · intro i y j' hy hj'
    rcases Nat.lt_or_ge i ys.length with q | q
    · rw [List.getElem?_append_left q] at hy
      exact (hot i y j' hy hj').keep (fun b hb2 hlt => ⟨⟨hb2.1, hb2.2.1, nk b (by omega) hb2.2.2⟩, old b hlt hb2.2.2 (by have := hb2.1; omega)⟩) (by omega)
    · rw [List.getElem?_append_right q] at hy
      have e : i = ys.length := by have := (List.getElem?_eq_some_iff.1 hy).1; simp at this; omega
      subst e
      rw [Nat.sub_self] at hy; simp at hy; subst hy
      rw [hyl, hj] at hj'; cases hj'
      refine hox.keep (fun b hb2 hlt => ?_) (by omega)
      have hb' : wr.heap.size ≤ b := hb2
      have h1 : kv.v.ownBlock ≠ some b := fun e => by have := (ow b e).2; omega
      have h2 : sv.v.ownBlock ≠ some b := fun e => by have := (op b e).2; omega
      exact ⟨⟨by omega, h1, nk b hlt h2⟩, old1 b hlt h2 (by omega)⟩
  · exact ⟨(o2.os.trans hb.os), (o2.tape.trans hb.tape), (o2.output.trans hb.output), by omega, fun b hb2 => old b (by omega) (fun e => by have := (op _ e).1; omega) (by omega)⟩
def OUC (w : World) (x : Tv) (j : JT) : Prop := ∀ (W : World), Below w.heap.size w W → Calls Tryd.prog 17 #[x.val] W fun e W' => ∃ y : Tv, e = .returned y.val ∧ OT (fun b => W.heap.size ≤ b) W' y j ∧ Below W.heap.size W W'
theorem tree_ret {fn : Func} (h : fn.results = #[.cell 2 26]) {Q : Ending → World → Prop} {tmps : Array Value} {W : World} {M : Nat} {x : Tv} (hW : TC W M x) (hp : tmps.getD 2 undef = .pointer (some ⟨M, 0, none⟩)) (hQ : Q (.returned x.val) W) :
    bodyPost Tryd.prog fn Q Exit.ret { tmps := tmps, defers := [] } W := by
  refine bodyPost_ret (v := x.val) ?_ rfl hQ
  have hp' : tmps[2]?.getD undef = .pointer (some ⟨M, 0, none⟩) := by simpa using hp
  simp [results, h, hp', asAddr, run_loadVar_mid W M 0 26 (tcv x) _ hW.range Tryd.underlying26 rfl (by kernel_rfl)]
  rfl
set_option maxHeartbeats 16000000 in
theorem ours_walk {A : Nat → Prop} {w : World} {x : Tv} {ks : List ByteArray} {xs : List Tv} {ps : List JT} (hkr : RV A w 1 x.ks.v (keyc ks)) (h : RV A w 5 x.ps.v (tcs xs)) (hl : xs.length = ps.length) (hl2 : ps.length ≤ 1048576) (hl3 : ks.length ≤ 1048576) (hv : ∀ (i : Nat) (y : Tv) (j : JT), xs[i]? = some y → ps[i]? = some j → OUC w y j) : OUC w x (.mk x.k x.b x.t ks ps) := by
  intro W hb
  obtain ⟨xk, xb, xt, ⟨ka, kn, kc⟩, ⟨pa, pn, pc⟩⟩ := x
  obtain ⟨ad, n, cap, hsl, hcl, hcc, hx⟩ := h
  cases hsl
  rw [tcs_length] at hcl
  have hcl : xs.length * 5 = pn * 5 := hcl
  have hn : pn = ps.length := by omega
  obtain ⟨ad, n, cap, hsl, hcl2, hcc2, hx2⟩ := hkr
  cases hsl
  have hcl2 : (keyc ks).length = kn * 1 := hcl2
  have hkn : kn = ks.length := by simp [keyc] at hcl2; omega
  have HXX : Hid (pn = 0 ∨ ∃ b o, pa = some ⟨b, o, none⟩ ∧ A b ∧ b < w.heap.size ∧ w.rangeAt b o (tcs xs)) := hx
  have HXK : Hid (kn = 0 ∨ ∃ b o, ka = some ⟨b, o, none⟩ ∧ A b ∧ b < w.heap.size ∧ w.rangeAt b o (keyc ks)) := hx2
  have HLX : Hid (xs.length = pn) := by show _ = _; omega
  have HLP : Hid (ps.length = pn) := hn.symm
  have HLK : Hid (ks.length = kn) := hkn.symm
  have HV : Hid (∀ (i : Nat) (y : Tv) (j : JT), xs[i]? = some y → ps[i]? = some j → OUC w y j) := hv
  have HB : Hid (Below w.heap.size w W) := hb
  have hpn : (pn : Int) ≤ 1048576 := by omega
  have hkn' : (kn : Int) ≤ 1048576 := by omega
  show Calls Tryd.prog 17 #[Tv.val ⟨xk, xb, xt, ⟨ka, kn, kc⟩, ⟨pa, pn, pc⟩⟩] W fun e W' => ∃ y : Tv, e = .returned y.val ∧ OT (fun b => W.heap.size ≤ b) W' y (.mk xk xb xt ks ps) ∧ Below W.heap.size W W'
  rw [show Tv.val ⟨xk, xb, xt, ⟨ka, kn, kc⟩, ⟨pa, pn, pc⟩⟩ = .agg #[.int .i64 xk, .bool xb, .string xt, .slice ka kn kc, .slice pa pn pc] from rfl]
  obtain ⟨K, hK⟩ : ∃ K, W.heap.size = K := ⟨_, rfl⟩
  have HK : Hid (W.heap.size = K) := hK
  obtain ⟨W0, hW0⟩ : ∃ W0, ((W.alloc (.cells #[.int .i64 xk, .bool xb, .string xt, .slice ka kn kc, .slice pa pn pc] 38)).alloc (.cells (tcv TN).toArray 26)).alloc (.cells (tcv ⟨xk, xb, xt, SN, SN⟩).toArray 26) = W0 := ⟨_, rfl⟩
  have HW0 : Hid (((W.alloc (.cells #[.int .i64 xk, .bool xb, .string xt, .slice ka kn kc, .slice pa pn pc] 38)).alloc (.cells #[.int .i64 0, .bool false, .string ⟨#[]⟩, .slice none 0 0, .slice none 0 0] 26)).alloc (.cells #[.int .i64 xk, .bool xb, .string xt, .slice none 0 0, .slice none 0 0] 26) = W0) := hW0
  have HST : Hid (OW K ⟨xk, xb, xt, ⟨ka, kn, kc⟩, ⟨pa, pn, pc⟩⟩ ks ps W0 0 0 ∧ Below W.heap.size W W0) := by
    subst hW0 hK
    refine ⟨⟨?_, ?_, SN, SN, [], [], ?_, ⟨rfl, .inl ⟨rfl, rfl⟩⟩, ⟨rfl, .inl ⟨rfl, rfl⟩⟩, rfl, rfl, fun i g h => by simp at h, fun i y j h => by simp at h⟩, ((Below.refl _ _).alloc (Nat.le_refl _) _ |>.alloc (by simp) _ |>.alloc (by simp; omega) _)⟩
    · unfold LC
      rw [heap_alloc_old _ _ (by simp; omega), heap_alloc_old _ _ (by simp)]
      exact heap_alloc_new _ _
    · unfold TC
      rw [heap_alloc_old _ _ (by simp)]
      have h9 := heap_alloc_new (W.alloc (.cells #[.int .i64 xk, .bool xb, .string xt, .slice ka kn kc, .slice pa pn pc] 38)) (.cells (tcv TN).toArray 26)
      rw [World.size_alloc] at h9; exact h9
    · have h9 := heap_alloc_new ((W.alloc (.cells #[.int .i64 xk, .bool xb, .string xt, .slice ka kn kc, .slice pa pn pc] 38)).alloc (.cells (tcv TN).toArray 26)) (.cells (tcv ⟨xk, xb, xt, SN, SN⟩).toArray 26)
      rw [World.size_alloc, World.size_alloc] at h9; exact h9
  clear hx hcl hv hl hb hcc hn hx2 hcl2 hcc2 hkn hW0
  go_enter Tryd.func17, Tryd.ntmps17
  go_wp2_with fail
  rw [show K + 1 + 1 = K + 2 from rfl, HW0.out]
  clear HW0
  go_loopw [16] (fun v W' => ∃ k : Nat, k ≤ pn ∧ v = .int .i64 (k : Int) ∧ OW K ⟨xk, xb, xt, ⟨ka, kn, kc⟩, ⟨pa, pn, pc⟩⟩ ks ps W' k k ∧ Below W.heap.size W W') (fun v _ => pn - (intOf v).toNat)
  case atStart => exact ⟨0, Nat.zero_le _, rfl, HST.out.1, HST.out.2⟩
  case round =>
    obtain ⟨k, hk, rfl, ⟨hlc, htn, ⟨g1, gn1, gc1⟩, ⟨s1, sn1, sc1⟩, gs, ys, htc, hrk, hrp, hgl, hyl, hg, hot⟩, hbw⟩ := hrel
    have HLC : Hid (LC wr K ⟨xk, xb, xt, ⟨ka, kn, kc⟩, ⟨pa, pn, pc⟩⟩) := hlc
    have HTM : Hid (TC wr (K + 1) TN) := htn
    have HTC : Hid (TC wr (K + 2) ⟨xk, xb, xt, ⟨g1, gn1, gc1⟩, ⟨s1, sn1, sc1⟩⟩) := htc
    have HRK : Hid (wr.ownsRow (K + 3) 9 1 (.slice g1 gn1 gc1) k (keyc gs)) := hrk
    have HRP : Hid (wr.ownsRow (K + 3) 26 5 (.slice s1 sn1 sc1) k (tcs ys)) := hrp
    have HGL : Hid (gs.length = k) := hgl
    have HYL : Hid (ys.length = k) := hyl
    have HG : Hid (∀ (i : Nat) (g : ByteArray), gs[i]? = some g → g = (ks[i]?).getD ⟨#[]⟩) := hg
    have HOT : Hid (∀ (i : Nat) (y : Tv) (j : JT), ys[i]? = some y → ps[i]? = some j → OT (fun b => K + 3 ≤ b ∧ (Value.slice g1 gn1 gc1).ownBlock ≠ some b ∧ (Value.slice s1 sn1 sc1).ownBlock ≠ some b) wr y j) := hot
    have HBW : Hid (Below W.heap.size W wr) := hbw
    obtain ⟨z0, z1, z2, z3, z4⟩ := hlc.cells
    obtain ⟨t0, t1, t2, t3, t4, tf⟩ := htc.cells
    have tf3 := tf 3
    have tf4 := tf 4
    have hKl := htc.lt
    simp only at z0 z1 z2 z3 z4 t0 t1 t2 t3 t4
    clear hlc htn htc hrk hrp hgl hyl hg hot hbw tf HST
    by_cases hlt : k < pn
    · rcases HXX.out with h0 | ⟨b, o, rfl, -, hlb, hm⟩
      · omega
      obtain ⟨y, hy⟩ : ∃ y, xs[k]? = some y := ⟨xs[k]'(by have := HLX.out; omega), List.getElem?_eq_getElem _⟩
      obtain ⟨j, hj⟩ : ∃ j, ps[k]? = some j := ⟨ps[k]'(by have := HLP.out; omega), List.getElem?_eq_getElem _⟩
      have HBT : Hid (Below w.heap.size w wr) := HB.out.trans (HBW.out.mono HB.out.size)
      have HM : Hid (w.rangeAt b o (tcs xs)) := hm
      have HLB : Hid (b < w.heap.size) := hlb
      have HCL : Hid (∀ W', Below w.heap.size w W' → Calls Tryd.prog 17 #[y.val] W' fun e W2 => ∃ x : Tv, e = .returned x.val ∧ OT (fun b => W'.heap.size ≤ b) W2 x j ∧ Below W'.heap.size W' W2) := HV.out k y j hy hj
      have HY : Hid (xs[k]? = some y) := hy
      have HJ : Hid (ps[k]? = some j) := hj
      have hk9 : k ≤ 1000000000 := by omega
      obtain ⟨yk, yb, yt, ⟨ya, yn, yc⟩, ⟨qa, qn, qc⟩⟩ := y
      clear hm hlb hy hj
      by_cases hkl : k < kn
      case pos =>
        rcases HXK.out with h0 | ⟨b2, o2, rfl, -, hlb2, hm2⟩
        case inl => exfalso; omega
        have e2 : ks[k]? = some (ks[k]'(by have := HLK.out; omega)) := List.getElem?_eq_getElem _
        obtain ⟨key, hkey⟩ : ∃ key, ks[k]'(by have := HLK.out; omega) = key := ⟨_, rfl⟩
        rw [hkey] at e2
        have HKEY : Hid (key = (ks[k]?).getD ⟨#[]⟩) := by show _ = _; rw [e2]; rfl
        have d0 : wr.cell? ⟨b2, o2 + k, none⟩ = some (.string key) := (HBT.out.cell (p := ⟨b2, o2 + k, none⟩) hlb2).trans (hm2 _ _ (by simp [keyc, List.getElem?_map, e2]))
        clear hm2 hlb2 e2 hkey
        have HRN : Hid ((wr.alloc (.cells #[.string key] 9)).ownsRow (K + 3) 9 1 (.slice g1 gn1 gc1) k (keyc gs)) := World.ownsRow.alloc HRK.out _
        have HCN : Hid ((wr.alloc (.cells #[.string key] 9)).cell? ⟨wr.heap.size, 0, none⟩ = some (.string key)) := cell_alloc wr #[.string key] _ _ 0
        have HBN : Hid (K + 3 ≤ (wr.alloc (.cells #[.string key] 9)).heap.size) := by show _ ≤ _; simp; omega
        have HTN : Hid (TC (wr.alloc (.cells #[.string key] 9)) (K + 2) ⟨xk, xb, xt, ⟨g1, gn1, gc1⟩, ⟨s1, sn1, sc1⟩⟩) := HTC.out.keep (heap_alloc_old _ _ HTC.out.lt)
        have HKG : Hid (∀ (W2 : World) (q : Sv), W2.ownsRow (K + 3) 9 1 q.v (k + 1) (keyc gs ++ [.string key]) → (wr.alloc (.cells #[.string key] 9)).grownBy W2 (Value.slice g1 gn1 gc1).ownBlock → (q.v.ownBlock = (Value.slice g1 gn1 gc1).ownBlock ∨ q.v.ownBlock = some (wr.alloc (.cells #[.string key] 9)).heap.size) → OW K ⟨xk, xb, xt, ⟨some ⟨b2, o2, none⟩, kn, kc⟩, ⟨some ⟨b, o, none⟩, pn, pc⟩⟩ ks ps (W2.setCell ⟨K + 2, 3, none⟩ q.v) k (k + 1) ∧ Below K wr (W2.setCell ⟨K + 2, 3, none⟩ q.v)) := fun W2 q h1 h2 h3 => key_push HLC.out HTM.out HTC.out HRK.out HRP.out HGL.out HYL.out HG.out HOT.out HKEY.out rfl h1 h2 h3
        clear z0 z1 z2
        go_wp2_with (at_builtin; refine app_txt1 rfl (.tmp 30) (.tmp 32) rfl (.slice g1 gn1 gc1) k (keyc gs) rfl HRN.out wr.heap.size key rfl HCN.out hk9 HBN.out ?_
                     intro v' W2 p1 p2 p3
                     obtain ⟨ad', nn, cc, hsl⟩ := own_slice p1
                     subst hsl
                     have HKP : Hid _ := HKG.out W2 ⟨ad', nn, cc⟩ p1 p2 p3
                     obtain ⟨y0, y1, y2, y3, y4, yf⟩ := (HTN.out.keep (p2.block (K + 2) HTN.out.lt (fun e => by have := (own_lt HRN.out _ e.symm).1; omega))).cells
                     have yf3 := yf 3
                     simp only at y3
                     clear p1 p2 p3 yf y0 y1 y2 y4)
        obtain ⟨U, hU⟩ : ∃ U, W2.setCell ⟨K + 2, 3, none⟩ (.slice ad' nn cc) = U := ⟨_, rfl⟩
        have hkp := HKP.out
        simp only [Sv.v] at hkp
        rw [hU] at hkp ⊢
        obtain ⟨⟨hlc, htn, ⟨ga, gn, gc⟩, ⟨sa, sn, sc⟩, gs2, ys2, htc, hrk, hrp, hgl, hyl, hg, hot⟩, hbk⟩ := hkp
        have HLU : Hid (LC U K ⟨xk, xb, xt, ⟨some ⟨b2, o2, none⟩, kn, kc⟩, ⟨some ⟨b, o, none⟩, pn, pc⟩⟩) := hlc
        have HTU : Hid (TC U (K + 2) ⟨xk, xb, xt, ⟨ga, gn, gc⟩, ⟨sa, sn, sc⟩⟩) := htc
        have HRU : Hid (U.ownsRow (K + 3) 26 5 (.slice sa sn sc) k (tcs ys2)) := hrp
        have HBWU : Hid (Below W.heap.size W U) := HBW.out.trans (by rw [HK.out]; exact hbk)
        have HBU : Hid (Below w.heap.size w U) := HB.out.trans (HBWU.out.mono HB.out.size)
        have HKU : Hid (K + 3 ≤ U.heap.size) := by show _ ≤ _; have := htc.lt; omega
        have HPU : Hid (∀ (V : Nat → Value) (W8 : World), ourΩ U K (.slice sa sn sc) k j ys2 4 V W8 → OW K ⟨xk, xb, xt, ⟨some ⟨b2, o2, none⟩, kn, kc⟩, ⟨some ⟨b, o, none⟩, pn, pc⟩⟩ ks ps W8 (k + 1) (k + 1) ∧ Below K U W8) := fun V W8 h8 => part_push (sv := ⟨sa, sn, sc⟩) hlc htn htc hrk hrp hgl hyl hg hot HJ.out h8
        clear hU HKP HKG HRN HCN HBN HTN hlc htn htc hrk hrp hgl hyl hg hot hbk y3 yf3 z3 z4 t0 t1 t2 t3 t4 tf3 tf4
        refine RU.wp_rgn' [7, 8, 9, 11] (our9 K k b o pn pc sa sn sc ⟨yk, yb, yt, ⟨ya, yn, yc⟩, ⟨qa, qn, qc⟩⟩) (fun i => if i = 10 then 3 else if i = 0 ∨ i = 1 then 2 else 0) (ourΩ U K (.slice sa sn sc) k j ys2) (by kernel_rfl) (by kernel_rfl) (show Below U.heap.size U _ from (Below.refl _ _).drew) ?_ ?_
        · refine ⟨?_, ?_, ?_, ?_, ?_, ?_, ?_, ?_, ?_, ?_, ?_, ?_, trivial⟩
          · refine RU.ObT.pure rfl rfl rfl (fun a V hf hp ev he hc W => ?_)
            have q3 : ev (.tmp 3) = .pointer (some ⟨K + 2, 0, none⟩) := (he (.tmp 3)).trans (hf 3 rfl)
            simp only [List.getElem_toArray, List.getElem_cons_succ, List.getElem_cons_zero, execOp, Option.map_some, Option.map_none]; rw [q3]
            first | (go_simp; done) | (go_simp; rfl) | rfl
          · refine RU.ObT.silent rfl (fun a W k0 V hO hf hp hk => ?_)
            have hU : Below U.heap.size U W := ourΩ.low hk hO
            have tcu := HTU.out.keep (hU.block _ HTU.out.lt)
            have hcell := tcu.cells.2.2.2.2.1
            refine RU.ob_val rfl (RU.wanted_none rfl) (fun ev he hc => ?_) ⟨rfl, hO⟩
            have q35 : ev (.tmp 35) = .pointer (some ⟨K + 2, 4, none⟩) := (he (.tmp 35)).trans (hp 0 35 rfl)
            simp only [List.getElem_toArray, List.getElem_cons_succ, List.getElem_cons_zero, execOp, Option.map_some, Option.map_none]; rw [q35]
            first | (go_simp; done) | (go_simp; rfl) | rfl
          · refine RU.ObT.pure rfl rfl rfl (fun a V hf hp ev he hc W => ?_)
            have q1 : ev (.tmp 1) = .pointer (some ⟨K, 0, none⟩) := (he (.tmp 1)).trans (hf 1 rfl)
            simp only [List.getElem_toArray, List.getElem_cons_succ, List.getElem_cons_zero, execOp, Option.map_some, Option.map_none]; rw [q1]
            first | (go_simp; done) | (go_simp; rfl) | rfl
          · refine RU.ObT.silent rfl (fun a W k0 V hO hf hp hk => ?_)
            have hU : Below U.heap.size U W := ourΩ.low (Nat.le_trans hk (by decide)) hO
            have lcu := HLU.out.keep (hU.block _ HLU.out.lt)
            have hcell := lcu.cells.2.2.2.2
            refine RU.ob_val rfl (RU.wanted_none rfl) (fun ev he hc => ?_) ⟨rfl, hO⟩
            have q37 : ev (.tmp 37) = .pointer (some ⟨K, 4, none⟩) := (he (.tmp 37)).trans (hp 2 37 rfl)
            simp only [List.getElem_toArray, List.getElem_cons_succ, List.getElem_cons_zero, execOp, Option.map_some, Option.map_none]; rw [q37]
            first | (go_simp; done) | (go_simp; rfl) | rfl
          · refine RU.ObT.pure rfl rfl rfl (fun a V hf hp ev he hc W => ?_)
            have q4 : ev (.tmp 4) = .int .i64 (k : Int) := (he (.tmp 4)).trans (hf 4 rfl)
            simp only [List.getElem_toArray, List.getElem_cons_succ, List.getElem_cons_zero, execOp, Option.map_some, Option.map_none]; rw [q4]
            first | (go_simp; done) | (go_simp; rfl) | rfl
          · refine RU.ObT.pure rfl rfl rfl (fun a V hf hp ev he hc W => ?_)
            have q38 : ev (.tmp 38) = .slice (some ⟨b, o, none⟩) pn pc := (he (.tmp 38)).trans (hp 3 38 rfl)
            have q39 : ev (.tmp 39) = .int .i64 (k : Int) := (he (.tmp 39)).trans (hp 4 39 rfl)
            simp only [List.getElem_toArray, List.getElem_cons_succ, List.getElem_cons_zero, execOp, Option.map_some, Option.map_none]; rw [q38, q39]
            first | (go_simp; done) | (go_simp; rfl) | rfl
          · refine RU.ObT.silent rfl (fun a W k0 V hO hf hp hk => ?_)
            have q40 : a.eval (.tmp 40) = .pointer (some ⟨b, o + k * 5, none⟩) := hp 5 40 rfl
            exact RU.ob_op rfl (RU.wanted_none rfl) (wp_load_mid 38 (.tmp 40) rfl (b) (o + k * 5) q40 (tcv ⟨yk, yb, yt, ⟨ya, yn, yc⟩, ⟨qa, qn, qc⟩⟩) _ (mid_row HM.out (HBU.out.trans ((ourΩ.low (Nat.le_trans hk (by decide)) hO).mono HBU.out.size)) HLB.out HY.out) Tryd.underlying38 rfl (by kernel_rfl) ⟨rfl, hO⟩)
          · refine RU.ObT.loud (j := 0) rfl (fun a W V hO hf hp => ?_)
            have hO' : Below U.heap.size U W := hO
            have e41 : a.eval (.tmp 41) = Tv.val ⟨yk, yb, yt, ⟨ya, yn, yc⟩, ⟨qa, qn, qc⟩⟩ := hp 6 41 rfl
            refine RU.ob_call (g := 17) (args := #[Tv.val ⟨yk, yb, yt, ⟨ya, yn, yc⟩, ⟨qa, qn, qc⟩⟩]) rfl (RU.wanted_none rfl) (fun ev he hc => ?_) ((HCL.out W (HBU.out.trans (hO'.mono HBU.out.size))).mono ?_)
            · have h41 := (he (.tmp 41)).trans e41
              have hfn := he (.func 17)
              simp only [List.getElem_toArray, List.getElem_cons_succ, List.getElem_cons_zero, execOp, Option.map_some, Option.map_none]
              simp only [resolve, invoke, Sem.run_bind, Sem.run_pure, Result.andThen_ok, List.map_toArray, List.map_cons, List.map_nil, h41, hfn, Act.eval, hc]
              rfl
            · rintro e' W2 ⟨x, rfl, hot, hb2⟩
              exact ⟨_, rfl, ⟨_, rfl, x, rfl, hot.keep (fun b hb hlt => ⟨Nat.le_trans hO'.size hb, rfl⟩) (Nat.le_refl _), bl_tr hO' hb2⟩⟩
          · refine RU.ObT.loud (j := 1) rfl (fun a W V hO hf hp => ?_)
            obtain ⟨x, hV, hot, hb⟩ : ∃ x : Tv, V 0 = x.val ∧ OT (fun b => U.heap.size ≤ b) W x j ∧ Below U.heap.size U W := hO
            have e42 : a.eval (.tmp 42) = x.val := (hp 7 42 rfl).trans hV
            have hr := run_onetree W x
            refine RU.ob_run (v := .slice (some ⟨W.heap.size, 0, none⟩) 1 1) (w' := W.alloc (.cells (tcv x).toArray 26)) rfl (RU.wanted_none rfl) (fun ev he hc => ?_) ⟨_, rfl, x, W, hot, hb, rfl, rfl⟩
            have q := (he (.tmp 42)).trans e42
            simp only [List.getElem_toArray, List.getElem_cons_succ, List.getElem_cons_zero, execOp, Option.map_some, Option.map_none, List.map_toArray, List.map_cons, List.map_nil, q, Sem.run_bind, hr, Result.andThen_ok, Sem.run_pure]
          · refine RU.ObT.loud (j := 2) rfl (fun a W V hO hf hp => ?_)
            obtain ⟨x, W1, hot, hb, hV, hW⟩ : ∃ (x : Tv) (W1 : World), OT (fun b => U.heap.size ≤ b) W1 x j ∧ Below U.heap.size U W1 ∧ V 1 = .slice (some ⟨W1.heap.size, 0, none⟩) 1 1 ∧ W = W1.alloc (.cells (tcv x).toArray 26) := hO
            subst hW
            have q36 : a.eval (.tmp 36) = .slice sa sn sc := hp 1 36 rfl
            have q43 : a.eval (.tmp 43) = .slice (some ⟨W1.heap.size, 0, none⟩) 1 1 := (hp 8 43 rfl).trans hV
            refine RD.ob_list rfl (RU.wanted_none rfl) ?_
            refine app_tree rfl (.tmp 36) (.tmp 43) rfl (.slice sa sn sc) k (tcs ys2) q36 (World.ownsRow.alloc (own_keep HRU.out (fun b e => hb.block b (own_lt HRU.out b e).2)) _) W1.heap.size x q43 (TC.range (heap_alloc_new _ _)) hk9 (by have := hb.size; have := HKU.out; simp; omega) ?_
            intro v' W9 o1 o2 o3
            obtain ⟨ad', nn, cc, hsl⟩ := own_slice o1
            subst hsl
            exact ⟨_, rfl, x, W1, ⟨ad', nn, cc⟩, hot, hb, rfl, o1, o2, o3⟩
          · refine RU.ObT.pure rfl rfl rfl (fun a V hf hp ev he hc W => ?_)
            have q3 : ev (.tmp 3) = .pointer (some ⟨K + 2, 0, none⟩) := (he (.tmp 3)).trans (hf 3 rfl)
            simp only [List.getElem_toArray, List.getElem_cons_succ, List.getElem_cons_zero, execOp, Option.map_some, Option.map_none]; rw [q3]
            first | (go_simp; done) | (go_simp; rfl) | rfl
          · refine RU.ObT.loud (j := 3) rfl (fun a W V hO hf hp => ?_)
            obtain ⟨x, W1, p, hot, hb, hV, o1, o2, o3⟩ : ∃ (x : Tv) (W1 : World) (p : Sv), OT (fun b => U.heap.size ≤ b) W1 x j ∧ Below U.heap.size U W1 ∧ V 2 = p.v ∧ W.ownsRow (K + 3) 26 5 p.v (k + 1) (tcs ys2 ++ tcv x) ∧ (W1.alloc (.cells (tcv x).toArray 26)).grownBy W (Value.slice sa sn sc).ownBlock ∧ (p.v.ownBlock = (Value.slice sa sn sc).ownBlock ∨ p.v.ownBlock = some (W1.alloc (.cells (tcv x).toArray 26)).heap.size) := hO
            have q1 : a.eval (.tmp 45) = .pointer (some ⟨K + 2, 4, none⟩) := hp 10 45 rfl
            have q2 : a.eval (.tmp 44) = p.v := (hp 9 44 rfl).trans hV
            have tc : TC W (K + 2) ⟨xk, xb, xt, ⟨ga, gn, gc⟩, ⟨sa, sn, sc⟩⟩ := HTU.out.keep ((o2.block (K + 2) (by have := HTU.out.lt; have := hb.size; simp; omega) (fun e => by have := (own_lt HRU.out _ e.symm).1; omega)).trans ((heap_alloc_old _ _ (Nat.lt_of_lt_of_le HTU.out.lt hb.size)).trans (hb.block _ HTU.out.lt)))
            have hcell := tc.cells.2.2.2.2.1
            have hfr := tc.cells.2.2.2.2.2 4
            refine RU.ob_skip (w' := W.setCell ⟨K + 2, 4, none⟩ p.v) rfl (RU.wanted_none rfl) (fun ev he hc => ?_) ⟨_, rfl, x, W1, W, p, hot, hb, o1, o2, o3, rfl⟩
            have h1 := (he (.tmp 45)).trans q1
            have h2 := (he (.tmp 44)).trans q2
            obtain ⟨za, zn, zc⟩ := p
            simp only [List.getElem_toArray, List.getElem_cons_succ, List.getElem_cons_zero, execOp, Option.map_some, Option.map_none]; rw [h1, h2]
            simp only [Sv.v]
            first | (go_simp; done) | (go_simp; rfl) | rfl
        intro W8 VW8 hOW8
        have P8 : Hid (ourΩ U K (.slice sa sn sc) k j ys2 4 VW8 W8) := hOW8
        clear hOW8
        simp only [RU.lay, RU.val, show RU.at' [7, 8, 9, 11] 0 = none from rfl, show RU.at' [7, 8, 9, 11] 1 = none from rfl, show RU.at' [7, 8, 9, 11] 2 = none from rfl, show RU.at' [7, 8, 9, 11] 3 = none from rfl, show RU.at' [7, 8, 9, 11] 4 = none from rfl, show RU.at' [7, 8, 9, 11] 5 = none from rfl, show RU.at' [7, 8, 9, 11] 6 = none from rfl, show RU.at' [7, 8, 9, 11] 7 = some 0 from rfl, show RU.at' [7, 8, 9, 11] 8 = some 1 from rfl, show RU.at' [7, 8, 9, 11] 9 = some 2 from rfl, show RU.at' [7, 8, 9, 11] 10 = none from rfl, show RU.at' [7, 8, 9, 11] 11 = some 3 from rfl, our9, Act.put]
        simp only [List.setIfInBounds_toArray, List.set_cons_succ, List.set_cons_zero]
        have HPP : Hid _ := HPU.out VW8 W8 P8.out
        obtain ⟨v42, hv42⟩ : ∃ v, VW8 0 = v := ⟨_, rfl⟩
        obtain ⟨v43, hv43⟩ : ∃ v, VW8 1 = v := ⟨_, rfl⟩
        obtain ⟨v44, hv44⟩ : ∃ v, VW8 2 = v := ⟨_, rfl⟩
        simp only [hv42, hv43, hv44]
        clear hv42 hv43 hv44 P8
        have HB8 : Hid (Below W.heap.size W W8) := HBWU.out.trans (by rw [HK.out]; exact HPP.out.2)
        go_wp2_with fail
        go_roundw
        case rel => exact ⟨k + 1, hlt, by go_num, HPP.out.1, HB8.out⟩
        case measure => simp [intOf]; omega
      case neg =>
        have HKEY : Hid ((⟨#[]⟩ : ByteArray) = (ks[k]?).getD ⟨#[]⟩) := by show _ = _; rw [List.getElem?_eq_none (by have := HLK.out; omega)]; rfl
        have HRN : Hid ((wr.alloc (.cells #[.string ⟨#[]⟩] 9)).ownsRow (K + 3) 9 1 (.slice g1 gn1 gc1) k (keyc gs)) := World.ownsRow.alloc HRK.out _
        have HCN : Hid ((wr.alloc (.cells #[.string ⟨#[]⟩] 9)).cell? ⟨wr.heap.size, 0, none⟩ = some (.string ⟨#[]⟩)) := cell_alloc wr #[.string ⟨#[]⟩] _ _ 0
        have HBN : Hid (K + 3 ≤ (wr.alloc (.cells #[.string ⟨#[]⟩] 9)).heap.size) := by show _ ≤ _; simp; omega
        have HTN : Hid (TC (wr.alloc (.cells #[.string ⟨#[]⟩] 9)) (K + 2) ⟨xk, xb, xt, ⟨g1, gn1, gc1⟩, ⟨s1, sn1, sc1⟩⟩) := HTC.out.keep (heap_alloc_old _ _ HTC.out.lt)
        have HKG : Hid (∀ (W2 : World) (q : Sv), W2.ownsRow (K + 3) 9 1 q.v (k + 1) (keyc gs ++ [.string ⟨#[]⟩]) → (wr.alloc (.cells #[.string ⟨#[]⟩] 9)).grownBy W2 (Value.slice g1 gn1 gc1).ownBlock → (q.v.ownBlock = (Value.slice g1 gn1 gc1).ownBlock ∨ q.v.ownBlock = some (wr.alloc (.cells #[.string ⟨#[]⟩] 9)).heap.size) → OW K ⟨xk, xb, xt, ⟨ka, kn, kc⟩, ⟨some ⟨b, o, none⟩, pn, pc⟩⟩ ks ps (W2.setCell ⟨K + 2, 3, none⟩ q.v) k (k + 1) ∧ Below K wr (W2.setCell ⟨K + 2, 3, none⟩ q.v)) := fun W2 q h1 h2 h3 => key_push HLC.out HTM.out HTC.out HRK.out HRP.out HGL.out HYL.out HG.out HOT.out HKEY.out rfl h1 h2 h3
        clear z0 z1 z2
        go_wp2_with (at_builtin; refine app_txt1 rfl (.tmp 30) (.tmp 32) rfl (.slice g1 gn1 gc1) k (keyc gs) rfl HRN.out wr.heap.size ⟨#[]⟩ rfl HCN.out hk9 HBN.out ?_
                     intro v' W2 p1 p2 p3
                     obtain ⟨ad', nn, cc, hsl⟩ := own_slice p1
                     subst hsl
                     have HKP : Hid _ := HKG.out W2 ⟨ad', nn, cc⟩ p1 p2 p3
                     obtain ⟨y0, y1, y2, y3, y4, yf⟩ := (HTN.out.keep (p2.block (K + 2) HTN.out.lt (fun e => by have := (own_lt HRN.out _ e.symm).1; omega))).cells
                     have yf3 := yf 3
                     simp only at y3
                     clear p1 p2 p3 yf y0 y1 y2 y4)
        obtain ⟨U, hU⟩ : ∃ U, W2.setCell ⟨K + 2, 3, none⟩ (.slice ad' nn cc) = U := ⟨_, rfl⟩
        have hkp := HKP.out
        simp only [Sv.v] at hkp
        rw [hU] at hkp ⊢
        obtain ⟨⟨hlc, htn, ⟨ga, gn, gc⟩, ⟨sa, sn, sc⟩, gs2, ys2, htc, hrk, hrp, hgl, hyl, hg, hot⟩, hbk⟩ := hkp
        have HLU : Hid (LC U K ⟨xk, xb, xt, ⟨ka, kn, kc⟩, ⟨some ⟨b, o, none⟩, pn, pc⟩⟩) := hlc
        have HTU : Hid (TC U (K + 2) ⟨xk, xb, xt, ⟨ga, gn, gc⟩, ⟨sa, sn, sc⟩⟩) := htc
        have HRU : Hid (U.ownsRow (K + 3) 26 5 (.slice sa sn sc) k (tcs ys2)) := hrp
        have HBWU : Hid (Below W.heap.size W U) := HBW.out.trans (by rw [HK.out]; exact hbk)
        have HBU : Hid (Below w.heap.size w U) := HB.out.trans (HBWU.out.mono HB.out.size)
        have HKU : Hid (K + 3 ≤ U.heap.size) := by show _ ≤ _; have := htc.lt; omega
        have HPU : Hid (∀ (V : Nat → Value) (W8 : World), ourΩ U K (.slice sa sn sc) k j ys2 4 V W8 → OW K ⟨xk, xb, xt, ⟨ka, kn, kc⟩, ⟨some ⟨b, o, none⟩, pn, pc⟩⟩ ks ps W8 (k + 1) (k + 1) ∧ Below K U W8) := fun V W8 h8 => part_push (sv := ⟨sa, sn, sc⟩) hlc htn htc hrk hrp hgl hyl hg hot HJ.out h8
        clear hU HKP HKG HRN HCN HBN HTN hlc htn htc hrk hrp hgl hyl hg hot hbk y3 yf3 z3 z4 t0 t1 t2 t3 t4 tf3 tf4
        refine RU.wp_rgn' [7, 8, 9, 11] (our9 K k b o pn pc sa sn sc ⟨yk, yb, yt, ⟨ya, yn, yc⟩, ⟨qa, qn, qc⟩⟩) (fun i => if i = 10 then 3 else if i = 0 ∨ i = 1 then 2 else 0) (ourΩ U K (.slice sa sn sc) k j ys2) (by kernel_rfl) (by kernel_rfl) (show Below U.heap.size U _ from (Below.refl _ _).drew) ?_ ?_
        · refine ⟨?_, ?_, ?_, ?_, ?_, ?_, ?_, ?_, ?_, ?_, ?_, ?_, trivial⟩
          · refine RU.ObT.pure rfl rfl rfl (fun a V hf hp ev he hc W => ?_)
            have q3 : ev (.tmp 3) = .pointer (some ⟨K + 2, 0, none⟩) := (he (.tmp 3)).trans (hf 3 rfl)
            simp only [List.getElem_toArray, List.getElem_cons_succ, List.getElem_cons_zero, execOp, Option.map_some, Option.map_none]; rw [q3]
            first | (go_simp; done) | (go_simp; rfl) | rfl
          · refine RU.ObT.silent rfl (fun a W k0 V hO hf hp hk => ?_)
            have hU : Below U.heap.size U W := ourΩ.low hk hO
            have tcu := HTU.out.keep (hU.block _ HTU.out.lt)
            have hcell := tcu.cells.2.2.2.2.1
            refine RU.ob_val rfl (RU.wanted_none rfl) (fun ev he hc => ?_) ⟨rfl, hO⟩
            have q35 : ev (.tmp 35) = .pointer (some ⟨K + 2, 4, none⟩) := (he (.tmp 35)).trans (hp 0 35 rfl)
            simp only [List.getElem_toArray, List.getElem_cons_succ, List.getElem_cons_zero, execOp, Option.map_some, Option.map_none]; rw [q35]
            first | (go_simp; done) | (go_simp; rfl) | rfl
          · refine RU.ObT.pure rfl rfl rfl (fun a V hf hp ev he hc W => ?_)
            have q1 : ev (.tmp 1) = .pointer (some ⟨K, 0, none⟩) := (he (.tmp 1)).trans (hf 1 rfl)
            simp only [List.getElem_toArray, List.getElem_cons_succ, List.getElem_cons_zero, execOp, Option.map_some, Option.map_none]; rw [q1]
            first | (go_simp; done) | (go_simp; rfl) | rfl
          · refine RU.ObT.silent rfl (fun a W k0 V hO hf hp hk => ?_)
            have hU : Below U.heap.size U W := ourΩ.low (Nat.le_trans hk (by decide)) hO
            have lcu := HLU.out.keep (hU.block _ HLU.out.lt)
            have hcell := lcu.cells.2.2.2.2
            refine RU.ob_val rfl (RU.wanted_none rfl) (fun ev he hc => ?_) ⟨rfl, hO⟩
            have q37 : ev (.tmp 37) = .pointer (some ⟨K, 4, none⟩) := (he (.tmp 37)).trans (hp 2 37 rfl)
            simp only [List.getElem_toArray, List.getElem_cons_succ, List.getElem_cons_zero, execOp, Option.map_some, Option.map_none]; rw [q37]
            first | (go_simp; done) | (go_simp; rfl) | rfl
          · refine RU.ObT.pure rfl rfl rfl (fun a V hf hp ev he hc W => ?_)
            have q4 : ev (.tmp 4) = .int .i64 (k : Int) := (he (.tmp 4)).trans (hf 4 rfl)
            simp only [List.getElem_toArray, List.getElem_cons_succ, List.getElem_cons_zero, execOp, Option.map_some, Option.map_none]; rw [q4]
            first | (go_simp; done) | (go_simp; rfl) | rfl
          · refine RU.ObT.pure rfl rfl rfl (fun a V hf hp ev he hc W => ?_)
            have q38 : ev (.tmp 38) = .slice (some ⟨b, o, none⟩) pn pc := (he (.tmp 38)).trans (hp 3 38 rfl)
            have q39 : ev (.tmp 39) = .int .i64 (k : Int) := (he (.tmp 39)).trans (hp 4 39 rfl)
            simp only [List.getElem_toArray, List.getElem_cons_succ, List.getElem_cons_zero, execOp, Option.map_some, Option.map_none]; rw [q38, q39]
            first | (go_simp; done) | (go_simp; rfl) | rfl
          · refine RU.ObT.silent rfl (fun a W k0 V hO hf hp hk => ?_)
            have q40 : a.eval (.tmp 40) = .pointer (some ⟨b, o + k * 5, none⟩) := hp 5 40 rfl
            exact RU.ob_op rfl (RU.wanted_none rfl) (wp_load_mid 38 (.tmp 40) rfl (b) (o + k * 5) q40 (tcv ⟨yk, yb, yt, ⟨ya, yn, yc⟩, ⟨qa, qn, qc⟩⟩) _ (mid_row HM.out (HBU.out.trans ((ourΩ.low (Nat.le_trans hk (by decide)) hO).mono HBU.out.size)) HLB.out HY.out) Tryd.underlying38 rfl (by kernel_rfl) ⟨rfl, hO⟩)
          · refine RU.ObT.loud (j := 0) rfl (fun a W V hO hf hp => ?_)
            have hO' : Below U.heap.size U W := hO
            have e41 : a.eval (.tmp 41) = Tv.val ⟨yk, yb, yt, ⟨ya, yn, yc⟩, ⟨qa, qn, qc⟩⟩ := hp 6 41 rfl
            refine RU.ob_call (g := 17) (args := #[Tv.val ⟨yk, yb, yt, ⟨ya, yn, yc⟩, ⟨qa, qn, qc⟩⟩]) rfl (RU.wanted_none rfl) (fun ev he hc => ?_) ((HCL.out W (HBU.out.trans (hO'.mono HBU.out.size))).mono ?_)
            · have h41 := (he (.tmp 41)).trans e41
              have hfn := he (.func 17)
              simp only [List.getElem_toArray, List.getElem_cons_succ, List.getElem_cons_zero, execOp, Option.map_some, Option.map_none]
              simp only [resolve, invoke, Sem.run_bind, Sem.run_pure, Result.andThen_ok, List.map_toArray, List.map_cons, List.map_nil, h41, hfn, Act.eval, hc]
              rfl
            · rintro e' W2 ⟨x, rfl, hot, hb2⟩
              exact ⟨_, rfl, ⟨_, rfl, x, rfl, hot.keep (fun b hb hlt => ⟨Nat.le_trans hO'.size hb, rfl⟩) (Nat.le_refl _), bl_tr hO' hb2⟩⟩
          · refine RU.ObT.loud (j := 1) rfl (fun a W V hO hf hp => ?_)
            obtain ⟨x, hV, hot, hb⟩ : ∃ x : Tv, V 0 = x.val ∧ OT (fun b => U.heap.size ≤ b) W x j ∧ Below U.heap.size U W := hO
            have e42 : a.eval (.tmp 42) = x.val := (hp 7 42 rfl).trans hV
            have hr := run_onetree W x
            refine RU.ob_run (v := .slice (some ⟨W.heap.size, 0, none⟩) 1 1) (w' := W.alloc (.cells (tcv x).toArray 26)) rfl (RU.wanted_none rfl) (fun ev he hc => ?_) ⟨_, rfl, x, W, hot, hb, rfl, rfl⟩
            have q := (he (.tmp 42)).trans e42
            simp only [List.getElem_toArray, List.getElem_cons_succ, List.getElem_cons_zero, execOp, Option.map_some, Option.map_none, List.map_toArray, List.map_cons, List.map_nil, q, Sem.run_bind, hr, Result.andThen_ok, Sem.run_pure]
          · refine RU.ObT.loud (j := 2) rfl (fun a W V hO hf hp => ?_)
            obtain ⟨x, W1, hot, hb, hV, hW⟩ : ∃ (x : Tv) (W1 : World), OT (fun b => U.heap.size ≤ b) W1 x j ∧ Below U.heap.size U W1 ∧ V 1 = .slice (some ⟨W1.heap.size, 0, none⟩) 1 1 ∧ W = W1.alloc (.cells (tcv x).toArray 26) := hO
            subst hW
            have q36 : a.eval (.tmp 36) = .slice sa sn sc := hp 1 36 rfl
            have q43 : a.eval (.tmp 43) = .slice (some ⟨W1.heap.size, 0, none⟩) 1 1 := (hp 8 43 rfl).trans hV
            refine RD.ob_list rfl (RU.wanted_none rfl) ?_
            refine app_tree rfl (.tmp 36) (.tmp 43) rfl (.slice sa sn sc) k (tcs ys2) q36 (World.ownsRow.alloc (own_keep HRU.out (fun b e => hb.block b (own_lt HRU.out b e).2)) _) W1.heap.size x q43 (TC.range (heap_alloc_new _ _)) hk9 (by have := hb.size; have := HKU.out; simp; omega) ?_
            intro v' W9 o1 o2 o3
            obtain ⟨ad', nn, cc, hsl⟩ := own_slice o1
            subst hsl
            exact ⟨_, rfl, x, W1, ⟨ad', nn, cc⟩, hot, hb, rfl, o1, o2, o3⟩
          · refine RU.ObT.pure rfl rfl rfl (fun a V hf hp ev he hc W => ?_)
            have q3 : ev (.tmp 3) = .pointer (some ⟨K + 2, 0, none⟩) := (he (.tmp 3)).trans (hf 3 rfl)
            simp only [List.getElem_toArray, List.getElem_cons_succ, List.getElem_cons_zero, execOp, Option.map_some, Option.map_none]; rw [q3]
            first | (go_simp; done) | (go_simp; rfl) | rfl
          · refine RU.ObT.loud (j := 3) rfl (fun a W V hO hf hp => ?_)
            obtain ⟨x, W1, p, hot, hb, hV, o1, o2, o3⟩ : ∃ (x : Tv) (W1 : World) (p : Sv), OT (fun b => U.heap.size ≤ b) W1 x j ∧ Below U.heap.size U W1 ∧ V 2 = p.v ∧ W.ownsRow (K + 3) 26 5 p.v (k + 1) (tcs ys2 ++ tcv x) ∧ (W1.alloc (.cells (tcv x).toArray 26)).grownBy W (Value.slice sa sn sc).ownBlock ∧ (p.v.ownBlock = (Value.slice sa sn sc).ownBlock ∨ p.v.ownBlock = some (W1.alloc (.cells (tcv x).toArray 26)).heap.size) := hO
            have q1 : a.eval (.tmp 45) = .pointer (some ⟨K + 2, 4, none⟩) := hp 10 45 rfl
            have q2 : a.eval (.tmp 44) = p.v := (hp 9 44 rfl).trans hV
            have tc : TC W (K + 2) ⟨xk, xb, xt, ⟨ga, gn, gc⟩, ⟨sa, sn, sc⟩⟩ := HTU.out.keep ((o2.block (K + 2) (by have := HTU.out.lt; have := hb.size; simp; omega) (fun e => by have := (own_lt HRU.out _ e.symm).1; omega)).trans ((heap_alloc_old _ _ (Nat.lt_of_lt_of_le HTU.out.lt hb.size)).trans (hb.block _ HTU.out.lt)))
            have hcell := tc.cells.2.2.2.2.1
            have hfr := tc.cells.2.2.2.2.2 4
            refine RU.ob_skip (w' := W.setCell ⟨K + 2, 4, none⟩ p.v) rfl (RU.wanted_none rfl) (fun ev he hc => ?_) ⟨_, rfl, x, W1, W, p, hot, hb, o1, o2, o3, rfl⟩
            have h1 := (he (.tmp 45)).trans q1
            have h2 := (he (.tmp 44)).trans q2
            obtain ⟨za, zn, zc⟩ := p
            simp only [List.getElem_toArray, List.getElem_cons_succ, List.getElem_cons_zero, execOp, Option.map_some, Option.map_none]; rw [h1, h2]
            simp only [Sv.v]
            first | (go_simp; done) | (go_simp; rfl) | rfl
        intro W8 VW8 hOW8
        have P8 : Hid (ourΩ U K (.slice sa sn sc) k j ys2 4 VW8 W8) := hOW8
        clear hOW8
        simp only [RU.lay, RU.val, show RU.at' [7, 8, 9, 11] 0 = none from rfl, show RU.at' [7, 8, 9, 11] 1 = none from rfl, show RU.at' [7, 8, 9, 11] 2 = none from rfl, show RU.at' [7, 8, 9, 11] 3 = none from rfl, show RU.at' [7, 8, 9, 11] 4 = none from rfl, show RU.at' [7, 8, 9, 11] 5 = none from rfl, show RU.at' [7, 8, 9, 11] 6 = none from rfl, show RU.at' [7, 8, 9, 11] 7 = some 0 from rfl, show RU.at' [7, 8, 9, 11] 8 = some 1 from rfl, show RU.at' [7, 8, 9, 11] 9 = some 2 from rfl, show RU.at' [7, 8, 9, 11] 10 = none from rfl, show RU.at' [7, 8, 9, 11] 11 = some 3 from rfl, our9, Act.put]
        simp only [List.setIfInBounds_toArray, List.set_cons_succ, List.set_cons_zero]
        have HPP : Hid _ := HPU.out VW8 W8 P8.out
        obtain ⟨v42, hv42⟩ : ∃ v, VW8 0 = v := ⟨_, rfl⟩
        obtain ⟨v43, hv43⟩ : ∃ v, VW8 1 = v := ⟨_, rfl⟩
        obtain ⟨v44, hv44⟩ : ∃ v, VW8 2 = v := ⟨_, rfl⟩
        simp only [hv42, hv43, hv44]
        clear hv42 hv43 hv44 P8
        have HB8 : Hid (Below W.heap.size W W8) := HBWU.out.trans (by rw [HK.out]; exact HPP.out.2)
        go_wp2_with fail
        go_roundw
        case rel => exact ⟨k + 1, hlt, by go_num, HPP.out.1, HB8.out⟩
        case measure => simp [intOf]; omega
    · have hkp : k = pn := by omega
      have HF : Hid (OT (fun b => W.heap.size ≤ b) (set5 wr (K + 1) ⟨xk, xb, xt, ⟨g1, gn1, gc1⟩, ⟨s1, sn1, sc1⟩⟩) ⟨xk, xb, xt, ⟨g1, gn1, gc1⟩, ⟨s1, sn1, sc1⟩⟩ (.mk xk xb xt ks ps)) := by
        have h0 : OT (fun b => K + 3 ≤ b) wr ⟨xk, xb, xt, ⟨g1, gn1, gc1⟩, ⟨s1, sn1, sc1⟩⟩ (.mk xk xb xt ks ps) := .mk ⟨xk, xb, xt, ⟨g1, gn1, gc1⟩, ⟨s1, sn1, sc1⟩⟩ ks gs ys ps (own_rv HRK.out (fun b e => (own_lt HRK.out b e).1)) (own_rv HRP.out (fun b e => (own_lt HRP.out b e).1)) (by have := HYL.out; have := HLP.out; omega) (by have := HGL.out; have := HLP.out; omega) HG.out (fun i y j hy hj => (HOT.out i y j hy hj).keep (fun b hbb hlt => ⟨hbb.1, rfl⟩) (Nat.le_refl _))
        exact h0.keep (fun b hbb hlt => ⟨by have h9 : K + 3 ≤ b := hbb; have := HK.out; show _ ≤ _; omega, set5_other _ _ _ (by have h9 : K + 3 ≤ b := hbb; omega)⟩) (by rw [set5_size]; exact Nat.le_refl _)
      have HFT : Hid (TC (set5 wr (K + 1) ⟨xk, xb, xt, ⟨g1, gn1, gc1⟩, ⟨s1, sn1, sc1⟩⟩) (K + 1) ⟨xk, xb, xt, ⟨g1, gn1, gc1⟩, ⟨s1, sn1, sc1⟩⟩) := set5_at HTM.out _
      have HFB : Hid (Below W.heap.size W (set5 wr (K + 1) ⟨xk, xb, xt, ⟨g1, gn1, gc1⟩, ⟨s1, sn1, sc1⟩⟩)) := ⟨HBW.out.os, HBW.out.tape, HBW.out.output, by rw [set5_size]; exact HBW.out.size, fun b hb => (set5_other _ _ _ (by have := HK.out; omega)).trans (HBW.out.block b hb)⟩
      obtain ⟨m0, m1, m2, m3, m4, mf⟩ := HTM.out.cells
      have mf0 := mf 0; have mf1 := mf 1; have mf2 := mf 2; have mf3 := mf 3; have mf4 := mf 4
      simp only [TN, SN] at m0 m1 m2 m3 m4
      clear hkp mf
      go_wp2
      refine tree_ret Tryd.results17 (M := K + 1) (x := ⟨xk, xb, xt, ⟨g1, gn1, gc1⟩, ⟨s1, sn1, sc1⟩⟩) HFT.out rfl ?_
      exact ⟨_, rfl, by first | exact HF.out | (rw [← HK.out]; exact HF.out), by first | exact HFB.out | (rw [← HK.out]; exact HFB.out)⟩
theorem ours_tree {A : Nat → Prop} {w : World} {x : Tv} {j : JT} (h : LT A w x j) : SJ j → OUC w x j := by
  induction h with
  | mk x ks xs ps hk hr hl hv ih =>
    intro hs
    cases hs with
    | mk _ _ _ _ _ h1 h2 h3 h4 h5 => exact ours_walk hk hr hl h2 h3 (fun i y j hy hj => ih i y j hy hj (h5 j (List.mem_of_getElem? hj)))
end Go.Proofs.YtefaohokmhdplaaDoor
