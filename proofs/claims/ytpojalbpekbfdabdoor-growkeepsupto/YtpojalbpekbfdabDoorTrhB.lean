/- The reference: Nodes. -/
import Derived.Test.YtpojalbpekbfdabDoorTrmC
import Derived.Test.YtpojalbpekbfdabDoorTrhA
import Derived.Test.YtpojalbpekbfdabDoorTrmB
import Derived.Test.YtpojalbpekbfdabDoorTrrK
namespace Go.Proofs.YtpojalbpekbfdabDoor
open Go Go.RowKit
set_option linter.unusedSimpArgs false
set_option linter.unusedVariables false
set_option maxRecDepth 100000

/-- What Nodes gives. -/
def RNo (ls : List Lf) (v' : Value) (ok : Bool) (w' : World) : Prop := (okl ls ∧ ok = true ∧ NS w' v' (so ls)) ∨ (¬ okl ls ∧ ok = false ∧ v' = .slice none 0 0)
def cpΩ (U : World) (g o : Nat) (cs : List Value) : Nat → (Nat → Value) → World → Prop
  | 0, _, W => Below U.heap.size U W
  | _ + 1, _, W => ∃ W0, Below U.heap.size U W0 ∧ W = W0.setCells g o cs
/-- Nodes moved on by one place. -/
theorem run_shift {B : Nat} {w : World} {g n cp a N q : Nat} {s : List Nd} {z : Nd} (h : NO B w (.slice (some ⟨g, 0, none⟩) N cp) (s ++ [z])) (hn : s.length = n) (ha : a ≤ n) (hcp : N ≤ cp) (hN : N = n + 1) (hq : q = a + 1) (dp : Option Addr) (hdp : (if cp = q then some ⟨g, 0, none⟩ else some ⟨g, q * 65, none⟩) = dp) :
    (Builtin.copy_ #[28, 28] 3 #[.slice dp (N - q) (cp - q), .slice (some ⟨g, a * 65, none⟩) (N - a) (cp - a)]).run Tryd.prog w = .ok (.int .i64 ((N - q : Nat) : Int)) (w.setCells g ((a + 1) * 65) (ncs (s.drop a))) := by
  subst hN hq
  rw [show n + 1 - (a + 1) = n - a by omega]
  obtain ⟨ho, hk, hB⟩ := h
  have hkd : ∀ x ∈ s.drop a, x.Ok := fun x hx => hk x (List.mem_append_left _ (List.mem_of_mem_drop hx))
  rcases Nat.lt_or_ge a n with q | q
  · rw [if_neg (by omega)] at hdp
    subst hdp
    have hl : (ncs (s.drop a)).length = (n - a) * 65 := by rw [ncs_length hkd, List.length_drop, hn]
    have hmin : Nat.min (n + 1 - a) (n - a) = n - a := Nat.min_eq_right (by omega)
    obtain ⟨h1, ⟨he, _⟩ | ⟨g', cap', cur, he, hBg, hg, hnc, hcm, hcs, htk⟩⟩ := id ho
    · cases he
    · simp only [Value.slice.injEq, Option.some.injEq, Addr.mk.injEq, and_true] at he
      obtain ⟨rfl, h2, rfl⟩ := he
      have hsz : (n + 1) * 65 ≤ cur.size := by rw [hcs]; exact Nat.mul_le_mul_right 65 hcp
      have e65 : (a + 1) * 65 + (n - a) * 65 = (n + 1) * 65 := by rw [← Nat.add_mul]; congr 1; omega
      have := run_copy_nd w 3 g ((a + 1) * 65) (n - a) (cp - (a + 1)) ⟨g, a * 65, none⟩ (n + 1 - a) (cp - a) (ncs (s.drop a)) (by rw [hl, hmin]) (fun j v hj => ?_) (fun j hj => ?_) (fun j hj => ?_) (fun v hv => ncs_one _ v hv)
      · rw [hmin] at this; exact this
      · have hjl := (List.getElem?_eq_some_iff.1 hj).1
        have e : (ncs (s ++ [z]))[a * 65 + j]? = some v := by
          rw [ncs_app, List.getElem?_append_left, ← hj, ← ncs_drop (l := s) (fun x hx => hk x (List.mem_append_left _ hx)) a (by omega), List.getElem?_drop]
          rw [ncs_length (fun x hx => hk x (List.mem_append_left _ hx)), hn]
          rw [hl] at hjl
          have : a * 65 + (n - a) * 65 = n * 65 := by rw [← Nat.add_mul]; congr 1; omega
          omega
        have := ho.cells (g := g) rfl (a * 65 + j) v e
        rw [addr_add0] at this ⊢
        rwa [Nat.zero_add] at this
      · have hlt : (a + 1) * 65 + j < cur.size := by omega
        unfold World.cell?
        show (match w.heap[g]? with | some (.cells c _ _) => _ | _ => _ : Option Value).isSome = true
        rw [hg]
        simp [hlt]
      · unfold World.frozen?
        show (match w.heap[g]? with | some (.cells _ _ (lo, hi)) => _ | _ => _) = false
        rw [hg]
        simp
  · obtain rfl : a = n := by omega
    have e : s.drop a = [] := by rw [← hn]; exact List.drop_length
    rw [e, Nat.sub_self]
    exact run_copy_no w _ dp _ _ _ _
def rn70f (ad : Option Addr) (b o n cp a j E : Nat) (py pz : List Int) (r : Bool) : Nat → Value
  | 0 => .int .i64 (a : Int)
  | 1 => .bool false
  | 2 => .bool false
  | 3 => undef
  | 4 => undef
  | 5 => undef
  | 6 => undef
  | 7 => undef
  | 8 => undef
  | 9 => undef
  | 10 => undef
  | 11 => undef
  | 12 => .bool false
  | _ => undef
def rn71f (ad : Option Addr) (b o n cp a j E : Nat) (py pz : List Int) (r : Bool) : Nat → Value
  | 0 => .int .i64 (a : Int)
  | 1 => .bool true
  | 2 => .bool true
  | 3 => .pointer (some ⟨E, 1, none⟩)
  | 4 => .agg (bv py).toArray
  | 5 => .slice (some ⟨b, o, none⟩) n cp
  | 6 => .int .i64 (a : Int)
  | 7 => .int .i64 (j : Int)
  | 8 => .pointer (some ⟨b, o + j * 65, none⟩)
  | 9 => .pointer (some ⟨b, o + j * 65 + 1, none⟩)
  | 10 => .agg (bv pz).toArray
  | 11 => .bool r
  | 12 => .bool r
  | _ => undef
def rn90f (ad : Option Addr) (b o n cp a j E : Nat) (py pz : List Int) (r : Bool) : Nat → Value
  | 0 => .int .i64 (a : Int)
  | 1 => .bool false
  | 2 => .bool false
  | 3 => undef
  | 4 => undef
  | 5 => undef
  | 6 => undef
  | 7 => undef
  | 8 => undef
  | 9 => undef
  | 10 => undef
  | 11 => undef
  | 12 => .bool false
  | _ => undef
def rn91f (ad : Option Addr) (b o n cp a j E : Nat) (py pz : List Int) (r : Bool) : Nat → Value
  | 0 => .int .i64 (a : Int)
  | 1 => .bool true
  | 2 => .bool true
  | 3 => .slice (some ⟨b, o, none⟩) n cp
  | 4 => .int .i64 (a : Int)
  | 5 => .int .i64 (j : Int)
  | 6 => .pointer (some ⟨b, o + j * 65, none⟩)
  | 7 => .pointer (some ⟨b, o + j * 65 + 1, none⟩)
  | 8 => .agg (bv pz).toArray
  | 9 => .pointer (some ⟨E, 1, none⟩)
  | 10 => .agg (bv py).toArray
  | 11 => .bool r
  | 12 => .bool r
  | _ => undef
def rn12f (dp : Option Addr) (g N q cq a : Nat) : Nat → Value
  | 0 => .slice (some ⟨g, 0, none⟩) N cq
  | 1 => .int .i64 (a : Int)
  | 2 => .int .i64 (q : Int)
  | 3 => .slice dp (N - q) (cq - q)
  | 4 => .slice (some ⟨g, 0, none⟩) N cq
  | 5 => .int .i64 (a : Int)
  | 6 => .slice (some ⟨g, a * 65, none⟩) (N - a) (cq - a)
  | 7 => .int .i64 ((N - q : Nat) : Int)
  | _ => undef
theorem cells_below {w w' : World} {E : Nat} (h : ∃ c t fr, w.heap[E]? = some (.cells c t fr) ∧ c.size = 65) (hb : Below w.heap.size w w') (hE : E < w.heap.size) : ∃ c t fr, w'.heap[E]? = some (.cells c t fr) ∧ c.size = 65 := by
  obtain ⟨c, t, fr, h1, h2⟩ := h
  exact ⟨c, t, fr, (hb.block E hE).trans h1, h2⟩
/-- A row of nodes that has grown lies in no block of one node. -/
theorem fresh_ne {w w3 : World} {B E g n N cq : Nat} {row : Option Nat} {s : List Nd} {y : Nd} (hg : w.grownBy w3 row) (hrow : row ≠ some E) (hE : E < w.heap.size) (hc : ∃ c t fr, w.heap[E]? = some (.cells c t fr) ∧ c.size = 65) (h256 : w.rangeAt E 0 (nc y)) (hy : y.n = 256)
    (h : NO B w3 (.slice (some ⟨g, 0, none⟩) N cq) (s ++ [ndz])) (hn : s.length = n) : E ≠ g ∧ w3.rangeAt E 0 (nc y) := by
  have hk := hg.block E hE (fun e => hrow e.symm)
  have hr3 : w3.rangeAt E 0 (nc y) := range_keep h256 hk
  refine ⟨?_, hr3⟩
  rintro rfl
  obtain ⟨c, t, fr, e1, e2⟩ := hc
  rw [← hk] at e1
  obtain ⟨h1, ⟨he, _⟩ | ⟨g', cap', cur, he, hBg, hg', hnc, hcm, hcs, htk⟩⟩ := id h.1
  · cases he
  · simp only [Value.slice.injEq, Option.some.injEq, Addr.mk.injEq, and_true] at he
    obtain ⟨rfl, h2, rfl⟩ := he
    rw [e1] at hg'
    cases hg'
    rw [e2] at hcs
    have hq : cq = 1 := by omega
    have hn0 : n = 0 := by rw [List.length_append, hn] at hnc; simp at hnc; omega
    have hs0 : s = [] := List.length_eq_zero_iff.1 (by omega)
    subst hs0
    have a1 := hr3 0 _ rfl
    have a2 := h.1.cells (g := E) rfl 0 (.int .i64 0) rfl
    rw [addr_add0] at a2
    rw [show (⟨E, 0 + 0, none⟩ : Addr) = ⟨E, 0 + 0, none⟩ from rfl] at a1
    rw [a1, hy] at a2
    simp at a2
theorem put_shape {s : List Nd} {y z : Nd} {n a : Nat} (hn : s.length = n) (ha : a ≤ n) : ((s ++ [z]).take (a + 1) ++ s.drop a).take a ++ [y] ++ ((s ++ [z]).take (a + 1) ++ s.drop a).drop (a + [y].length) = s.take a ++ [y] ++ s.drop a := by
  have h1 : ((s ++ [z]).take (a + 1)).length = a + 1 := by simp only [List.length_take, List.length_append, hn, List.length_cons, List.length_nil]; omega
  have h2 : ((s ++ [z]).take (a + 1) ++ s.drop a).take a = s.take a := by
    rw [List.take_append_of_le_length (by omega), List.take_take, Nat.min_eq_left (by omega), List.take_append_of_le_length (by omega)]
  have h3 : ((s ++ [z]).take (a + 1) ++ s.drop a).drop (a + [y].length) = s.drop a := by
    rw [show a + [y].length = ((s ++ [z]).take (a + 1)).length by rw [h1]; rfl, List.drop_left]
  rw [h2, h3]
theorem NO.there {B : Nat} {w : World} {g n cap : Nat} {l : List Nd} (h : NO B w (.slice (some ⟨g, 0, none⟩) n cap) l) {i : Nat} (hi : i < l.length) : w.there g (i * 65) 65 := by
  obtain ⟨h1, ⟨he, _⟩ | ⟨g', cap', cur, he, hBg, hg, hnc, hcm, hcs, htk⟩⟩ := h.1
  · cases he
  · simp only [Value.slice.injEq, Option.some.injEq, Addr.mk.injEq, and_true] at he
    obtain ⟨rfl, h2, rfl⟩ := he
    refine there_of_row' hg _ _ ?_
    have : (i + 1) * 65 ≤ cap * 65 := Nat.mul_le_mul_right 65 (by omega)
    omega
theorem NO.sl {B : Nat} {w : World} {v : Value} {l : List Nd} (h : NO B w v l) (hne : l ≠ []) : ∃ g cap, v = .slice (some ⟨g, 0, none⟩) l.length cap ∧ l.length ≤ cap := by
  obtain ⟨h1, ⟨he, h0⟩ | ⟨g', cap', cur, he, hBg, hg, hnc, hcm, hcs, htk⟩⟩ := h.1
  · exact absurd (List.length_eq_zero_iff.1 h0) hne
  · exact ⟨g', cap', he, hnc⟩
set_option maxHeartbeats 16000000 in
theorem rNodes_any (ls : List Lf) (hk : ∀ x ∈ ls, x.Ok) (hlen : ls.length ≤ 2500000000000) (v : Value) (w : World) (hv : LS w v ls) :
    Calls Tryd.prog 14 #[v] w fun e w' => ∃ v' ok, e = .returned (.tuple #[v', .bool ok]) ∧ RNo ls v' ok w' ∧ Below w.heap.size w w' := by
  obtain ⟨adl, cap, rfl, hc, hx⟩ := hv
  have HXX : Hid (ls = [] ∧ (adl = none → cap = 0) ∨ ∃ b o, adl = some ⟨b, o, none⟩ ∧ b < w.heap.size ∧ ∀ (i : Nat) (x : Lf), ls[i]? = some x → w.rangeAt b (o + i * 64) (lfc x)) := hx
  have HK : Hid (∀ x ∈ ls, x.Ok) := hk
  obtain ⟨len, hln⟩ : ∃ len, ls.length = len := ⟨_, rfl⟩
  have HLN : Hid (ls.length = len) := hln
  rw [hln] at hlen ⊢
  have hz := zero_nd
  obtain ⟨Z, hZ⟩ : ∃ Z, (nc ndz).toArray = Z := ⟨_, rfl⟩
  have HZS : Hid (Z.size = 65) := by show Z.size = 65; rw [← hZ]; exact nc_size ndz_ok
  rw [hZ] at hz
  clear hx hk hc hln hZ
  go_enter Tryd.func14, Tryd.ntmps14
  go_wp2_with fail
  go_loopw [4, 10] (fun nv i wr => ∃ (k : Nat) (s : List Nd), k ≤ len ∧ i = .int .i64 (k : Int) ∧ NO w.heap.size wr nv s ∧ s.Perm ((ls.take k).map ln) ∧ s.Pairwise (fun a b => pf a.p 256 < pf b.p 256) ∧ Below w.heap.size w wr) (fun _ i _ => len - (intOf i).toNat)
  case atStart => exact ⟨0, [], Nat.zero_le _, rfl, NO.nil w, List.Perm.refl _, List.Pairwise.nil, Below.refl _ _⟩
  case round =>
    obtain ⟨k, s, hkl, rfl, hno, hpm, hpw, h4⟩ := hrel
    have H4 : Hid (Below w.heap.size w wr) := h4
    have HNO : Hid (NO w.heap.size wr u4 s) := hno
    have HPM : Hid (s.Perm ((ls.take k).map ln)) := hpm
    have HPW : Hid (s.Pairwise (fun a b => pf a.p 256 < pf b.p 256)) := hpw
    clear h4 hno hpm hpw
    by_cases hlt : k < len
    · rcases HXX.out with ⟨h0, _⟩ | ⟨lb, lo, rfl, hlb, hm⟩
      · have := HLN.out; rw [h0] at this; simp at this; omega
      · obtain ⟨x, hx⟩ : ∃ x, ls[k]? = some x := ⟨ls[k]'(by have := HLN.out; omega), List.getElem?_eq_getElem _⟩
        have HX : Hid x.Ok := HK.out x (List.mem_of_getElem? hx)
        have HXK : Hid (ls[k]? = some x) := hx
        obtain ⟨y, hy⟩ : ∃ y, ln x = y := ⟨_, rfl⟩
        have HTK : Hid ((ls.take (k + 1)).map ln = (ls.take k).map ln ++ [y]) := by rw [← hy]; exact take_ln hx
        have HYO : Hid y.Ok := by rw [← hy]; exact ln_ok HX.out
        have HYN : Hid (y.n = 256) := by rw [← hy]; rfl
        have HYX : Hid (x.p = y.p) := by rw [← hy]; rfl
        have HRX : Hid (wr.rangeAt lb (lo + k * 64) (lfc x)) := range_below (hm k x hx) H4.out hlb
        have HLF : Hid (∀ W : World, Calls Tryd.prog 27 #[.agg (lfc x).toArray] W fun e w' => e = .returned (.agg (nc y).toArray) ∧ Below W.heap.size W w') := fun W => by rw [← hy]; exact rLeafNode_any x.p x.q HX.out.p HX.out.q W
        have HSL : Hid (s.length = k) := by show _ = _; rw [HPM.out.length_eq, List.length_map, List.length_take]; have := HLN.out; omega
        obtain ⟨X, hX⟩ : ∃ X, (lfc x).toArray = X := ⟨_, rfl⟩
        rw [hX] at HLF
        have HSO : Hid (∀ x ∈ s, x.Ok) := HNO.out.2.1
        obtain ⟨ad, cp, hu4, hcp, hxs⟩ := HNO.out.ns
        obtain ⟨n, hn⟩ : ∃ n, s.length = n := ⟨_, rfl⟩
        have HSN : Hid (s.length = n) := hn
        have hnl : n ≤ 2500000000000 := by have := HSL.out; omega
        rw [hn] at hu4
        subst hu4
        have HXS : Hid (s = [] ∧ (ad = none → cp = 0) ∨ ∃ b o, ad = some ⟨b, o, none⟩ ∧ b < wr.heap.size ∧ ∀ (i : Nat) (x : Nd), s[i]? = some x → wr.rangeAt b (o + i * 65) (nc x)) := hxs
        clear hm hlb hx hy hn hxs hcp
        go_upto_region 6 with (first
          | (refine load_g rfl 27 (.tmp 15) rfl lb (lo + k * 64) rfl (lfc x) _ HRX.out Tryd.underlying27 rfl (size_lfc HX.out) ?_; rw [hX])
          | (refine wpList_store_mid rfl 33 (.tmp 6) (.tmp 17) rfl w1.heap.size 0 (nc y).toArray rfl rfl (there_new w1 (by rw [nc_size HYO.out, HZS.out])) (by rw [List.size_toArray]; exact size_nc HYO.out) (nc_one _) ?_; simp only [List.toList_toArray])
          | (go_at_call 27; refine (HLF.out wr).mono ?_; rintro e w1 ⟨rfl, g1⟩; have B1 : Hid (Below wr.heap.size wr w1) := g1; clear g1))
        obtain ⟨U, hU⟩ : ∃ U, (w1.alloc (.cells Z 33)).setCells w1.heap.size 0 (nc y) = U := ⟨_, rfl⟩
        rw [hU]
        obtain ⟨r1, r2, r3⟩ := laid_row (by rw [nc_length HYO.out, HZS.out]) (by rw [nc_length HYO.out]; omega) hU
        have hes : ∃ c t fr, U.heap[w1.heap.size]? = some (.cells c t fr) ∧ c.size = 65 := by
          have q0 : (w1.alloc (.cells Z 33)).heap[w1.heap.size]? = some (.cells Z 33 (0, 0)) := by show (w1.heap.push _)[w1.heap.size]? = _; simp
          have q1 := heap_setC w1.heap.size (nc y) 0 _ Z 33 (0, 0) q0
          rw [hU] at q1
          exact ⟨_, _, _, q1, by rw [setL_size]; exact HZS.out⟩
        obtain ⟨E, hE⟩ : ∃ E, w1.heap.size = E := ⟨_, rfl⟩
        rw [hE] at hes
        have HES : Hid (∃ c t fr, U.heap[E]? = some (.cells c t fr) ∧ c.size = 65) := hes
        clear hes
        rw [hE] at r1 r3 ⊢
        have REU : Hid (U.rangeAt E 0 (nc y)) := r1
        have LEU : Hid (E < U.heap.size) := r3
        have BU : Hid (Below wr.heap.size wr U) := Below.tr' B1.out r2
        have CU : Hid (Below w.heap.size w U) := H4.out.trans (BU.out.mono H4.out.size)
        have NU : Hid (NO w.heap.size U (.slice ad n cp) s) := HNO.out.below BU.out
        have HEW : Hid (wr.heap.size ≤ E) := by rw [← hE]; exact B1.out.size
        have HROWA : Hid ((Value.slice ad n cp).ownBlock ≠ some E) := by
          intro e
          have h1 := (HNO.out.1.lt E e).2
          have h2 := HEW.out
          omega
        obtain ⟨py, hpy⟩ : ∃ p, y.p = p := ⟨_, rfl⟩
        have HPY : Hid (L32 py) := by rw [← hpy]; exact HYO.out.p
        have HYP : Hid (y.p = py) := hpy
        have REP : Hid (U.rangeAt E 1 (bv py)) := by have := nc_p REU.out; rw [hpy] at this; exact this
        clear r1 r2 r3 hU hX hE hpy
        go_wp2_with fail
        go_loopw [7] (fun i wr2 => ∃ a : Nat, a ≤ n ∧ i = .int .i64 (a : Int) ∧ (∀ (j : Nat) (x : Nd), a ≤ j → s[j]? = some x → pf y.p 256 < pf x.p 256) ∧ Below U.heap.size U wr2) (fun i _ => (intOf i).toNat)
        case atStart => exact ⟨n, Nat.le_refl _, rfl, fun j x hj hx => by have := (List.getElem?_eq_some_iff.1 hx).1; have := HSN.out; omega, Below.refl _ _⟩
        case round =>
          obtain ⟨a, han, rfl, hhi, h5⟩ := hrel
          have HHI : Hid (∀ (j : Nat) (x : Nd), a ≤ j → s[j]? = some x → pf y.p 256 < pf x.p 256) := hhi
          have H5 : Hid (Below U.heap.size U wr) := h5
          have REwr : Hid (wr.rangeAt E 1 (bv py)) := range_below REP.out H5.out LEU.out
          have LEwr : Hid (E < wr.heap.size) := Nat.lt_of_lt_of_le LEU.out H5.out.size
          clear hhi h5
          rcases Nat.eq_zero_or_pos a with ha0 | hap
          · have HA0 : Hid (a = 0) := ha0
            have HLO : Hid (∀ (j : Nat) (x : Nd), j < a → s[j]? = some x → pf x.p 256 < pf y.p 256) := fun j x hj => by have := HA0.out; omega
            clear ha0
            go_upto_region 7 with (fail)
            refine RU.wp_rgn' [] (rn70f ad 0 0 n cp a 0 E py [] false) (fun _ => 0) (gΩ wr) (by kernel_rfl) (by kernel_rfl) (show Below wr.heap.size wr _ from (Below.refl _ _).drew) ?_ ?_
            · refine ⟨?_, ?_, ?_, ?_, ?_, ?_, ?_, ?_, ?_, ?_, ?_, ?_, ?_, trivial⟩
              · refine RU.ObT.pure rfl rfl rfl (fun aa V hf hp ev he hc W => ?_)
                have q7 : ev (.tmp 7) = .int .i64 (a : Int) := (he (.tmp 7)).trans (hf 7 rfl)
                simp only [List.getElem_toArray, List.getElem_cons_succ, List.getElem_cons_zero, execOp, Option.map_some, Option.map_none]; rw [q7]
                first | (go_simp; done) | (go_simp; rfl) | rfl
              · refine RU.ObT.pure rfl rfl rfl (fun aa V hf hp ev he hc W => ?_)
                have q20 : ev (.tmp 20) = .int .i64 (a : Int) := (he (.tmp 20)).trans (hp 0 20 rfl)
                simp only [List.getElem_toArray, List.getElem_cons_succ, List.getElem_cons_zero, execOp, Option.map_some, Option.map_none]; rw [q20]
                try simp only [hc]
                have hkp : ¬ 0 < a := by have := HA0.out; omega
                first | (go_simp; done) | (go_simp; rfl) | rfl
              · refine RU.ObT.pure rfl rfl rfl (fun aa V hf hp ev he hc W => ?_)
                have q21 : ev (.tmp 21) = .bool false := (he (.tmp 21)).trans (hp 1 21 rfl)
                simp only [List.getElem_toArray, List.getElem_cons_succ, List.getElem_cons_zero, execOp, Option.map_some, Option.map_none]; rw [q21]
                first | (go_simp; done) | (go_simp; rfl) | rfl
              · exact RU.ObT.skip (g := 2) (d := 22) rfl rfl rfl rfl rfl rfl (fun U h => by cases h) rfl
              · exact RU.ObT.skip (g := 2) (d := 22) rfl rfl rfl rfl rfl rfl (fun U h => by cases h) rfl
              · exact RU.ObT.skip (g := 2) (d := 22) rfl rfl rfl rfl rfl rfl (fun U h => by cases h) rfl
              · exact RU.ObT.skip (g := 2) (d := 22) rfl rfl rfl rfl rfl rfl (fun U h => by cases h) rfl
              · exact RU.ObT.skip (g := 2) (d := 22) rfl rfl rfl rfl rfl rfl (fun U h => by cases h) rfl
              · exact RU.ObT.skip (g := 2) (d := 22) rfl rfl rfl rfl rfl rfl (fun U h => by cases h) rfl
              · exact RU.ObT.skip (g := 2) (d := 22) rfl rfl rfl rfl rfl rfl (fun U h => by cases h) rfl
              · exact RU.ObT.skip (g := 2) (d := 22) rfl rfl rfl rfl rfl rfl (fun U h => by cases h) rfl
              · exact RU.ObT.skip (g := 2) (d := 22) rfl rfl rfl rfl rfl rfl (fun U h => by cases h) rfl
              · refine RU.ObT.pure rfl rfl rfl (fun aa V hf hp ev he hc W => ?_)
                have q22 : ev (.tmp 22) = .bool false := (he (.tmp 22)).trans (hp 2 22 rfl)
                have q31 : ev (.tmp 31) = undef := (he (.tmp 31)).trans (hp 11 31 rfl)
                simp only [List.getElem_toArray, List.getElem_cons_succ, List.getElem_cons_zero, execOp, Option.map_some, Option.map_none]; rw [q22, q31]
                try simp only [hc]
                first | (go_simp; done) | (go_simp; rfl) | rfl
            intro W1 VW1 hOW1
            have BW1 : Hid (Below wr.heap.size wr W1) := hOW1
            clear hOW1
            simp only [RU.lay, RU.val, RU.at', rn70f, Act.put]
            simp only [List.setIfInBounds_toArray, List.set_cons_succ, List.set_cons_zero]
            go_upto_region 9 with (fail)
            refine RU.wp_rgn' [] (rn90f ad 0 0 n cp a 0 E py [] false) (fun _ => 0) (gΩ W1) (by kernel_rfl) (by kernel_rfl) (show Below W1.heap.size W1 _ from (Below.refl _ _).drew) ?_ ?_
            · refine ⟨?_, ?_, ?_, ?_, ?_, ?_, ?_, ?_, ?_, ?_, ?_, ?_, ?_, trivial⟩
              · refine RU.ObT.pure rfl rfl rfl (fun aa V hf hp ev he hc W => ?_)
                have q7 : ev (.tmp 7) = .int .i64 (a : Int) := (he (.tmp 7)).trans (hf 7 rfl)
                simp only [List.getElem_toArray, List.getElem_cons_succ, List.getElem_cons_zero, execOp, Option.map_some, Option.map_none]; rw [q7]
                first | (go_simp; done) | (go_simp; rfl) | rfl
              · refine RU.ObT.pure rfl rfl rfl (fun aa V hf hp ev he hc W => ?_)
                have q35 : ev (.tmp 35) = .int .i64 (a : Int) := (he (.tmp 35)).trans (hp 0 35 rfl)
                simp only [List.getElem_toArray, List.getElem_cons_succ, List.getElem_cons_zero, execOp, Option.map_some, Option.map_none]; rw [q35]
                try simp only [hc]
                have hkp : ¬ 0 < a := by have := HA0.out; omega
                first | (go_simp; done) | (go_simp; rfl) | rfl
              · refine RU.ObT.pure rfl rfl rfl (fun aa V hf hp ev he hc W => ?_)
                have q36 : ev (.tmp 36) = .bool false := (he (.tmp 36)).trans (hp 1 36 rfl)
                simp only [List.getElem_toArray, List.getElem_cons_succ, List.getElem_cons_zero, execOp, Option.map_some, Option.map_none]; rw [q36]
                first | (go_simp; done) | (go_simp; rfl) | rfl
              · exact RU.ObT.skip (g := 2) (d := 37) rfl rfl rfl rfl rfl rfl (fun U h => by cases h) rfl
              · exact RU.ObT.skip (g := 2) (d := 37) rfl rfl rfl rfl rfl rfl (fun U h => by cases h) rfl
              · exact RU.ObT.skip (g := 2) (d := 37) rfl rfl rfl rfl rfl rfl (fun U h => by cases h) rfl
              · exact RU.ObT.skip (g := 2) (d := 37) rfl rfl rfl rfl rfl rfl (fun U h => by cases h) rfl
              · exact RU.ObT.skip (g := 2) (d := 37) rfl rfl rfl rfl rfl rfl (fun U h => by cases h) rfl
              · exact RU.ObT.skip (g := 2) (d := 37) rfl rfl rfl rfl rfl rfl (fun U h => by cases h) rfl
              · exact RU.ObT.skip (g := 2) (d := 37) rfl rfl rfl rfl rfl rfl (fun U h => by cases h) rfl
              · exact RU.ObT.skip (g := 2) (d := 37) rfl rfl rfl rfl rfl rfl (fun U h => by cases h) rfl
              · exact RU.ObT.skip (g := 2) (d := 37) rfl rfl rfl rfl rfl rfl (fun U h => by cases h) rfl
              · refine RU.ObT.pure rfl rfl rfl (fun aa V hf hp ev he hc W => ?_)
                have q37 : ev (.tmp 37) = .bool false := (he (.tmp 37)).trans (hp 2 37 rfl)
                have q46 : ev (.tmp 46) = undef := (he (.tmp 46)).trans (hp 11 46 rfl)
                simp only [List.getElem_toArray, List.getElem_cons_succ, List.getElem_cons_zero, execOp, Option.map_some, Option.map_none]; rw [q37, q46]
                try simp only [hc]
                first | (go_simp; done) | (go_simp; rfl) | rfl
            intro W2 VW2 hOW2
            have BW2 : Hid (Below W1.heap.size W1 W2) := hOW2
            clear hOW2
            simp only [RU.lay, RU.val, RU.at', rn90f, Act.put]
            simp only [List.setIfInBounds_toArray, List.set_cons_succ, List.set_cons_zero]
            have C2 : Hid (Below U.heap.size U W2) := Below.tr' H5.out (Below.tr' BW1.out BW2.out)
            have NV : Hid (NO w.heap.size W2 (.slice ad n cp) s) := NU.out.below C2.out
            have RE2 : Hid (W2.rangeAt E 0 (nc y)) := range_below REU.out C2.out LEU.out
            have LE2 : Hid (E < W2.heap.size) := Nat.lt_of_lt_of_le LEU.out C2.out.size
            go_upto_region 11 with (fail)
            refine wp_region_list ?_
            go_wp2_with (first
              | (refine wp_build0 33 rfl rfl _ (build_n0 W2) ?_)
              | (refine wpList_onen rfl (.tmp 49) rfl ndz ndz_ok rfl ?_)
              | (at_builtin; refine wp_appg rfl (.tmp 48) (.tmp 50) rfl rfl w.heap.size (.slice ad n cp) (.slice (some ⟨W2.heap.size, 0, none⟩) 1 1) s [ndz] rfl rfl (NV.out.alloc _) (fun z hz => by simp at hz; subst hz; exact ndz_ok) (ns_one W2 ndz _) (by have h1 := HSN.out; simp only [List.length_cons, List.length_nil]; omega) ?_; intro v3 w3 g1 g2 g3; have hgr : Hid ((World.alloc _ _).grownBy w3 _) := g3; have hg1 : Hid (NO w.heap.size w3 v3 (s ++ [ndz])) := g1; have hg2 : Hid (Below w.heap.size W2 w3) := (Below.alloc (Below.refl _ _) NV.out.2.2 _).trans g2; clear g1 g2 g3))
            obtain ⟨g, cq, hv3, hcq'⟩ := hg1.out.sl (by simp)
            rw [List.length_append, HSN.out] at hv3 hcq'
            obtain ⟨N, hN⟩ : ∃ N, N = n + 1 := ⟨_, rfl⟩
            have HN : Hid (N = n + 1) := hN
            have hcq : N ≤ cq := by rw [hN]; exact hcq'
            have hv3' : v3 = .slice (some ⟨g, 0, none⟩) N cq := by rw [hN]; exact hv3
            have N3 : Hid (NO w.heap.size w3 (.slice (some ⟨g, 0, none⟩) N cq) (s ++ [ndz])) := by have := hg1.out; rw [hv3'] at this; exact this
            clear hN
            subst hv3'
            have C3 : Hid (Below w.heap.size w w3) := (CU.out.trans (C2.out.mono CU.out.size)).trans hg2.out
            obtain ⟨fe1, fe2⟩ := fresh_ne hgr.out HROWA.out (show E < (World.alloc _ _).heap.size by have := LE2.out; simp; omega) (cells_below HES.out (Below.tr' C2.out (Below.alloc (Below.refl _ _) (Nat.le_refl _) _)) LEU.out) (range_below RE2.out (Below.alloc (Below.refl _ _) (Nat.le_refl _) _) LE2.out) HYN.out N3.out HSN.out
            have HEG : Hid (E ≠ g) := fe1
            have RE3 : Hid (w3.rangeAt E 0 (nc y)) := fe2
            clear fe1 fe2
            have LE3 : Hid (E < w3.heap.size) := Nat.lt_of_lt_of_le LE2.out hg2.out.size
            clear hcq' hv3
            obtain ⟨q, hq⟩ : ∃ q, q = a + 1 := ⟨_, rfl⟩
            have HQ : Hid (q = a + 1) := hq
            have HDW : Hid (∀ W : World, Below w3.heap.size w3 W → NO w.heap.size W (.slice (some ⟨g, 0, none⟩) N cq) (s ++ [ndz])) := fun W q => N3.out.below q
            obtain ⟨dp, hdp⟩ : ∃ dp, (if cq = q then some ⟨g, 0, none⟩ else some ⟨g, q * 65, none⟩ : Option Addr) = dp := ⟨_, rfl⟩
            have HDP : Hid ((if cq = q then some ⟨g, 0, none⟩ else some ⟨g, q * 65, none⟩ : Option Addr) = dp) := hdp
            have HCP : Hid (∀ W : World, Below w3.heap.size w3 W → (Builtin.copy_ #[28, 28] 3 #[.slice dp (N - q) (cq - q), .slice (some ⟨g, a * 65, none⟩) (N - a) (cq - a)]).run Tryd.prog W = .ok (.int .i64 ((N - q : Nat) : Int)) (W.setCells g ((a + 1) * 65) (ncs (s.drop a)))) := fun W q => run_shift (HDW.out W q) HSN.out han hcq HN.out HQ.out dp hdp
            clear hdp hq
            go_upto_region 12 with (fail)
            refine RU.wp_rgn' [7] (rn12f dp g N q cq a) (fun _ => 0) (cpΩ w3 g ((a + 1) * 65) (ncs (s.drop a))) (by kernel_rfl) (by kernel_rfl) (show Below w3.heap.size w3 _ from (Below.refl _ _).drew) ?_ ?_
            · refine ⟨?_, ?_, ?_, ?_, ?_, ?_, ?_, ?_, trivial⟩
              · refine RU.ObT.pure rfl rfl rfl (fun aa V hf hp ev he hc W => ?_)
                have q4 : ev (.tmp 4) = .slice (some ⟨g, 0, none⟩) N cq := (he (.tmp 4)).trans (hf 4 rfl)
                simp only [List.getElem_toArray, List.getElem_cons_succ, List.getElem_cons_zero, execOp, Option.map_some, Option.map_none]; rw [q4]
                first | (go_simp; done) | (go_simp; rfl) | rfl
              · refine RU.ObT.pure rfl rfl rfl (fun aa V hf hp ev he hc W => ?_)
                have q7 : ev (.tmp 7) = .int .i64 (a : Int) := (he (.tmp 7)).trans (hf 7 rfl)
                simp only [List.getElem_toArray, List.getElem_cons_succ, List.getElem_cons_zero, execOp, Option.map_some, Option.map_none]; rw [q7]
                first | (go_simp; done) | (go_simp; rfl) | rfl
              · refine RU.ObT.pure rfl rfl rfl (fun aa V hf hp ev he hc W => ?_)
                have q53 : ev (.tmp 53) = .int .i64 (a : Int) := (he (.tmp 53)).trans (hp 1 53 rfl)
                simp only [List.getElem_toArray, List.getElem_cons_succ, List.getElem_cons_zero, execOp, Option.map_some, Option.map_none]; rw [q53]
                try simp only [hc]
                have hw1 : IntKind.i64.wrap ((a : Int) + 1) = (q : Int) := by have := HQ.out; rw [IntKind.wrap_i64]; omega
                first | (go_simp; done) | (go_simp; rfl) | rfl
              · refine RU.ObT.pure rfl rfl rfl (fun aa V hf hp ev he hc W => ?_)
                have q52 : ev (.tmp 52) = .slice (some ⟨g, 0, none⟩) N cq := (he (.tmp 52)).trans (hp 0 52 rfl)
                have q54 : ev (.tmp 54) = .int .i64 (q : Int) := (he (.tmp 54)).trans (hp 2 54 rfl)
                simp only [List.getElem_toArray, List.getElem_cons_succ, List.getElem_cons_zero, execOp, Option.map_some, Option.map_none]; rw [q52, q54]
                have h1 := HN.out
                have h2 := HQ.out
                have hm1 : (q : Int) ≤ (N : Int) := by omega
                have hm2 : (q : Int) ≤ (cq : Int) := by omega
                have hm3 : (N : Int) ≤ (cq : Int) := by omega
                have hm4 : (a : Int) ≤ (N : Int) := by omega
                have hm5 : (a : Int) ≤ (cq : Int) := by omega
                have hm6 : ¬ cq = a := by omega
                clear h1 h2
                rw [← HDP.out]; by_cases hcm : cq = q <;> ((first | rw [if_pos hcm] | rw [if_neg hcm]); first | (go_simp; done) | (go_simp; rfl) | (subst hcm; go_simp; simp [rn12f]; done) | (subst hcm; simp only [rn12f]; go_simp; done))
              · refine RU.ObT.pure rfl rfl rfl (fun aa V hf hp ev he hc W => ?_)
                have q4 : ev (.tmp 4) = .slice (some ⟨g, 0, none⟩) N cq := (he (.tmp 4)).trans (hf 4 rfl)
                simp only [List.getElem_toArray, List.getElem_cons_succ, List.getElem_cons_zero, execOp, Option.map_some, Option.map_none]; rw [q4]
                first | (go_simp; done) | (go_simp; rfl) | rfl
              · refine RU.ObT.pure rfl rfl rfl (fun aa V hf hp ev he hc W => ?_)
                have q7 : ev (.tmp 7) = .int .i64 (a : Int) := (he (.tmp 7)).trans (hf 7 rfl)
                simp only [List.getElem_toArray, List.getElem_cons_succ, List.getElem_cons_zero, execOp, Option.map_some, Option.map_none]; rw [q7]
                first | (go_simp; done) | (go_simp; rfl) | rfl
              · refine RU.ObT.pure rfl rfl rfl (fun aa V hf hp ev he hc W => ?_)
                have q56 : ev (.tmp 56) = .slice (some ⟨g, 0, none⟩) N cq := (he (.tmp 56)).trans (hp 4 56 rfl)
                have q57 : ev (.tmp 57) = .int .i64 (a : Int) := (he (.tmp 57)).trans (hp 5 57 rfl)
                simp only [List.getElem_toArray, List.getElem_cons_succ, List.getElem_cons_zero, execOp, Option.map_some, Option.map_none]; rw [q56, q57]
                have h1 := HN.out
                have h2 := HQ.out
                have hm1 : (q : Int) ≤ (N : Int) := by omega
                have hm2 : (q : Int) ≤ (cq : Int) := by omega
                have hm3 : (N : Int) ≤ (cq : Int) := by omega
                have hm4 : (a : Int) ≤ (N : Int) := by omega
                have hm5 : (a : Int) ≤ (cq : Int) := by omega
                have hm6 : ¬ cq = a := by omega
                clear h1 h2
                first | (go_simp; done) | (go_simp; rfl) | rfl
              · refine RU.ObT.loud (j := 0) rfl (fun aa W V hO hf hp => ?_)
                have hO' : Below w3.heap.size w3 W := hO
                have q55 : aa.eval (.tmp 55) = .slice dp (N - q) (cq - q) := hp 3 55 rfl
                have q58 : aa.eval (.tmp 58) = .slice (some ⟨g, a * 65, none⟩) (N - a) (cq - a) := hp 6 58 rfl
                refine RU.ob_run (v := .int .i64 ((N - q : Nat) : Int)) (w' := W.setCells g ((a + 1) * 65) (ncs (s.drop a))) rfl (RU.wanted_none rfl) (fun ev he hc => ?_) ⟨_, rfl, W, hO', rfl⟩
                have e1 := (he (.tmp 55)).trans q55
                have e2 := (he (.tmp 58)).trans q58
                simp only [List.getElem_toArray, List.getElem_cons_succ, List.getElem_cons_zero, execOp, resolve, invoke, builtin, Sem.run_bind, Sem.run_pure, Result.andThen_ok, List.map_toArray, List.map_cons, List.map_nil, e1, e2, HCP.out W hO']
            intro W4 VW4 hOW4
            obtain ⟨W0, hW0, hWW⟩ := hOW4
            subst hWW
            have B4 : Hid (Below w3.heap.size w3 W0) := hW0
            clear hW0
            simp only [RU.lay, RU.val, RU.at', rn12f, Act.put]
            simp only [List.setIfInBounds_toArray, List.set_cons_succ, List.set_cons_zero]
            have N4 : Hid (NO w.heap.size (W0.setCells g ((a + 1) * 65) (ncs (s.drop a))) (.slice (some ⟨g, 0, none⟩) N cq) ((s ++ [ndz]).take (a + 1) ++ s.drop a)) := by
              have := (HDW.out W0 B4.out).set (m := s.drop a) (i := a + 1) (fun x hx => HSO.out x (List.mem_of_mem_drop hx)) (by rw [List.length_append, List.length_drop, HSN.out]; simp; omega)
              rw [show a + 1 + (s.drop a).length = (s ++ [ndz]).length by rw [List.length_append, List.length_drop, HSN.out]; simp; omega, List.drop_length, List.append_nil] at this
              exact this
            obtain ⟨w4, hw4⟩ : ∃ w4, W0.setCells g ((a + 1) * 65) (ncs (s.drop a)) = w4 := ⟨_, rfl⟩
            have HGB : Hid (w.heap.size ≤ g) := (N3.out.1.lt g rfl).1
            have C4 : Hid (Below w.heap.size w w4) := by rw [← hw4]; exact below_setCells HGB.out _ _ (C3.out.trans (B4.out.mono C3.out.size))
            have RE4 : Hid (w4.rangeAt E 0 (nc y)) := by rw [← hw4]; exact World.rangeAt_setCells_apart (range_below RE3.out B4.out LE3.out) _ _ _ (.inl (fun e => HEG.out e))
            rw [hw4] at N4 ⊢
            clear hw4
            have T4 : Hid (w4.there g (a * 65) 65) := NO.there N4.out (by simp only [List.length_append, List.length_take, List.length_drop, HSN.out, List.length_cons, List.length_nil]; omega)
            have haN : a < N := by have := HN.out; omega
            go_wp2_with (first
              | (refine ld 33 (.tmp 6) rfl rfl E 0 rfl (nc y) _ RE4.out Tryd.underlying33 rfl (size_nc HYO.out) ?_)
              | (refine wpList_store_mid rfl 33 (.tmp 63) (.tmp 62) rfl g (a * 65) (nc y).toArray rfl rfl (by rw [nc_size HYO.out]; exact T4.out) (by rw [List.size_toArray]; exact size_nc HYO.out) (nc_one _) ?_; simp only [List.toList_toArray]))
            have N5 : NO w.heap.size (w4.setCells g (a * 65) (nc y)) (.slice (some ⟨g, 0, none⟩) N cq) (s.take a ++ [y] ++ s.drop a) := by
              have := N4.out.set (m := [y]) (i := a) (fun x hx => by simp at hx; subst hx; exact HYO.out) (by simp only [List.length_append, List.length_take, List.length_drop, HSN.out, List.length_cons, List.length_nil]; omega)
              rw [show ncs [y] = nc y by simp [ncs]] at this
              rw [put_shape HSN.out han] at this
              exact this
            exact ⟨⟨k + 1, _, by omega, by go_num, N5, by rw [HTK.out]; exact put_perm HPM.out y a, put_rise HPW.out HLO.out HHI.out, below_setCells HGB.out _ _ C4.out⟩, by simp [intOf]; omega⟩
          · obtain ⟨j, hj⟩ : ∃ j, a = j + 1 := ⟨a - 1, by omega⟩
            have HJ : Hid (a = j + 1) := hj
            rcases HXS.out with ⟨h0, _⟩ | ⟨b, o, rfl, hlb, hm⟩
            · have := HSN.out; rw [h0] at this; simp at this; omega
            obtain ⟨z, hz0⟩ : ∃ z, s[j]? = some z := ⟨s[j]'(by have := HSN.out; omega), List.getElem?_eq_getElem _⟩
            have HZK : Hid (s[j]? = some z) := hz0
            have HZO : Hid z.Ok := HSO.out z (List.mem_of_getElem? hz0)
            obtain ⟨pz, hpz⟩ : ∃ p, z.p = p := ⟨_, rfl⟩
            have HZP : Hid (z.p = pz) := hpz
            have HPZ : Hid (L32 pz) := by rw [← hpz]; exact HZO.out.p
            have RJwr : Hid (wr.rangeAt b (o + j * 65 + 1) (bv pz)) := by
              have := nc_p (range_below (range_below (hm j z hz0) BU.out hlb) H5.out (Nat.lt_of_lt_of_le hlb BU.out.size)); rw [hpz] at this; exact this
            have LBwr : Hid (b < wr.heap.size) := Nat.lt_of_lt_of_le hlb (Nat.le_trans BU.out.size H5.out.size)
            obtain ⟨r, hr⟩ : ∃ r, ltb py pz = r := ⟨_, rfl⟩
            have HRR : Hid (ltb py pz = r) := hr
            have HBL : Hid (∀ W : World, Calls Tryd.prog 28 #[.agg (bv py).toArray, .agg (bv pz).toArray] W fun e w' => e = .returned (.bool r) ∧ Below W.heap.size W w') := fun W => by rw [← hr]; exact below_any py pz W HPY.out.len HPZ.out.len HPY.out.byt HPZ.out.byt
            clear hj hz0 hpz hr hm hlb hap
            go_upto_region 7 with (fail)
            refine RU.wp_rgn' [] (rn71f (some ⟨b, o, none⟩) b o n cp a j E py pz r) (fun _ => 0) (gΩ wr) (by kernel_rfl) (by kernel_rfl) (show Below wr.heap.size wr _ from (Below.refl _ _).drew) ?_ ?_
            · refine ⟨?_, ?_, ?_, ?_, ?_, ?_, ?_, ?_, ?_, ?_, ?_, ?_, ?_, trivial⟩
              · refine RU.ObT.pure rfl rfl rfl (fun aa V hf hp ev he hc W => ?_)
                have q7 : ev (.tmp 7) = .int .i64 (a : Int) := (he (.tmp 7)).trans (hf 7 rfl)
                simp only [List.getElem_toArray, List.getElem_cons_succ, List.getElem_cons_zero, execOp, Option.map_some, Option.map_none]; rw [q7]
                first | (go_simp; done) | (go_simp; rfl) | rfl
              · refine RU.ObT.pure rfl rfl rfl (fun aa V hf hp ev he hc W => ?_)
                have q20 : ev (.tmp 20) = .int .i64 (a : Int) := (he (.tmp 20)).trans (hp 0 20 rfl)
                simp only [List.getElem_toArray, List.getElem_cons_succ, List.getElem_cons_zero, execOp, Option.map_some, Option.map_none]; rw [q20]
                try simp only [hc]
                have hkp : 0 < a := by have := HJ.out; omega
                first | (go_simp; done) | (go_simp; rfl) | rfl
              · refine RU.ObT.pure rfl rfl rfl (fun aa V hf hp ev he hc W => ?_)
                have q21 : ev (.tmp 21) = .bool true := (he (.tmp 21)).trans (hp 1 21 rfl)
                simp only [List.getElem_toArray, List.getElem_cons_succ, List.getElem_cons_zero, execOp, Option.map_some, Option.map_none]; rw [q21]
                first | (go_simp; done) | (go_simp; rfl) | rfl
              · refine RU.ObT.silent rfl (fun aa W k0 V hO hf hp hk => ?_)
                have hg : aa.eval (.tmp 22) = .bool true := hp 2 22 rfl
                refine RU.ob_val rfl (RU.wanted_some rfl rfl rfl hg) (fun ev he hc => ?_) ⟨rfl, hO⟩
                have q6 : ev (.tmp 6) = .pointer (some ⟨E, 0, none⟩) := (he (.tmp 6)).trans (hf 6 rfl)
                simp only [List.getElem_toArray, List.getElem_cons_succ, List.getElem_cons_zero, execOp, Option.map_some, Option.map_none]; rw [q6]
                first | (go_simp; done) | (go_simp; rfl) | rfl
              · refine RU.ObT.silent rfl (fun aa W k0 V hO hf hp hk => ?_)
                have hg : aa.eval (.tmp 22) = .bool true := hp 2 22 rfl
                have hO' : Below wr.heap.size wr W := hO
                have q23 : aa.eval (.tmp 23) = .pointer (some ⟨E, 1, none⟩) := hp 3 23 rfl
                exact RU.ob_op rfl (RU.wanted_some rfl rfl rfl hg) (wp_load_mid 25 (.tmp 23) rfl (E) (1) q23 (bv py) _ (range_below REwr.out hO' LEwr.out) Tryd.underlying25 rfl (size_l32 HPY.out) ⟨rfl, hO⟩)
              · refine RU.ObT.silent rfl (fun aa W k0 V hO hf hp hk => ?_)
                have hg : aa.eval (.tmp 22) = .bool true := hp 2 22 rfl
                refine RU.ob_val rfl (RU.wanted_some rfl rfl rfl hg) (fun ev he hc => ?_) ⟨rfl, hO⟩
                have q4 : ev (.tmp 4) = .slice (some ⟨b, o, none⟩) n cp := (he (.tmp 4)).trans (hf 4 rfl)
                simp only [List.getElem_toArray, List.getElem_cons_succ, List.getElem_cons_zero, execOp, Option.map_some, Option.map_none]; rw [q4]
                first | (go_simp; done) | (go_simp; rfl) | rfl
              · refine RU.ObT.silent rfl (fun aa W k0 V hO hf hp hk => ?_)
                have hg : aa.eval (.tmp 22) = .bool true := hp 2 22 rfl
                refine RU.ob_val rfl (RU.wanted_some rfl rfl rfl hg) (fun ev he hc => ?_) ⟨rfl, hO⟩
                have q7 : ev (.tmp 7) = .int .i64 (a : Int) := (he (.tmp 7)).trans (hf 7 rfl)
                simp only [List.getElem_toArray, List.getElem_cons_succ, List.getElem_cons_zero, execOp, Option.map_some, Option.map_none]; rw [q7]
                first | (go_simp; done) | (go_simp; rfl) | rfl
              · refine RU.ObT.silent rfl (fun aa W k0 V hO hf hp hk => ?_)
                have hg : aa.eval (.tmp 22) = .bool true := hp 2 22 rfl
                refine RU.ob_val rfl (RU.wanted_some rfl rfl rfl hg) (fun ev he hc => ?_) ⟨rfl, hO⟩
                have q26 : ev (.tmp 26) = .int .i64 (a : Int) := (he (.tmp 26)).trans (hp 6 26 rfl)
                simp only [List.getElem_toArray, List.getElem_cons_succ, List.getElem_cons_zero, execOp, Option.map_some, Option.map_none]; rw [q26]
                try simp only [hc]
                have hw1 : IntKind.i64.wrap ((a : Int) - 1) = (j : Int) := by have := HJ.out; rw [IntKind.wrap_i64]; omega
                first | (go_simp; done) | (go_simp; rfl) | rfl
              · refine RU.ObT.silent rfl (fun aa W k0 V hO hf hp hk => ?_)
                have hg : aa.eval (.tmp 22) = .bool true := hp 2 22 rfl
                refine RU.ob_val rfl (RU.wanted_some rfl rfl rfl hg) (fun ev he hc => ?_) ⟨rfl, hO⟩
                have q25 : ev (.tmp 25) = .slice (some ⟨b, o, none⟩) n cp := (he (.tmp 25)).trans (hp 5 25 rfl)
                have q27 : ev (.tmp 27) = .int .i64 (j : Int) := (he (.tmp 27)).trans (hp 7 27 rfl)
                simp only [List.getElem_toArray, List.getElem_cons_succ, List.getElem_cons_zero, execOp, Option.map_some, Option.map_none]; rw [q25, q27]
                have hj9 : (j : Int) < (n : Int) := by have := HJ.out; omega
                first | (go_simp; done) | (go_simp; rfl) | rfl
              · refine RU.ObT.silent rfl (fun aa W k0 V hO hf hp hk => ?_)
                have hg : aa.eval (.tmp 22) = .bool true := hp 2 22 rfl
                refine RU.ob_val rfl (RU.wanted_some rfl rfl rfl hg) (fun ev he hc => ?_) ⟨rfl, hO⟩
                have q28 : ev (.tmp 28) = .pointer (some ⟨b, o + j * 65, none⟩) := (he (.tmp 28)).trans (hp 8 28 rfl)
                simp only [List.getElem_toArray, List.getElem_cons_succ, List.getElem_cons_zero, execOp, Option.map_some, Option.map_none]; rw [q28]
                first | (go_simp; done) | (go_simp; rfl) | rfl
              · refine RU.ObT.silent rfl (fun aa W k0 V hO hf hp hk => ?_)
                have hg : aa.eval (.tmp 22) = .bool true := hp 2 22 rfl
                have hO' : Below wr.heap.size wr W := hO
                have q29 : aa.eval (.tmp 29) = .pointer (some ⟨b, o + j * 65 + 1, none⟩) := hp 9 29 rfl
                exact RU.ob_op rfl (RU.wanted_some rfl rfl rfl hg) (wp_load_mid 25 (.tmp 29) rfl (b) (o + j * 65 + 1) q29 (bv pz) _ (range_below RJwr.out hO' LBwr.out) Tryd.underlying25 rfl (size_l32 HPZ.out) ⟨rfl, hO⟩)
              · refine RU.ObT.silent rfl (fun aa W k0 V hO hf hp hk => ?_)
                have hg : aa.eval (.tmp 22) = .bool true := hp 2 22 rfl
                have hO' : Below wr.heap.size wr W := hO
                have e24 : aa.eval (.tmp 24) = .agg (bv py).toArray := hp 4 24 rfl
                have e30 : aa.eval (.tmp 30) = .agg (bv pz).toArray := hp 10 30 rfl
                refine RU.ob_call (g := 28) (args := #[.agg (bv py).toArray, .agg (bv pz).toArray]) rfl (RU.wanted_some rfl rfl rfl hg) (fun ev he hc => ?_) ((HBL.out W).mono ?_)
                · have h24 := (he (.tmp 24)).trans e24
                  have h30 := (he (.tmp 30)).trans e30
                  have hfn := he (.func 28)
                  simp only [List.getElem_toArray, List.getElem_cons_succ, List.getElem_cons_zero, execOp, Option.map_some, Option.map_none]
                  simp only [resolve, invoke, Sem.run_bind, Sem.run_pure, Result.andThen_ok, List.map_toArray, List.map_cons, List.map_nil, h24, h30, hfn, Act.eval, hc]
                  rfl
                · rintro e' W9 ⟨rfl, hb2⟩
                  exact ⟨_, rfl, rfl, (hO'.trans (hb2.mono hO'.size) : Below wr.heap.size wr W9)⟩
              · refine RU.ObT.pure rfl rfl rfl (fun aa V hf hp ev he hc W => ?_)
                have q22 : ev (.tmp 22) = .bool true := (he (.tmp 22)).trans (hp 2 22 rfl)
                have q31 : ev (.tmp 31) = .bool r := (he (.tmp 31)).trans (hp 11 31 rfl)
                simp only [List.getElem_toArray, List.getElem_cons_succ, List.getElem_cons_zero, execOp, Option.map_some, Option.map_none]; rw [q22, q31]
                try simp only [hc]
                first | (go_simp; done) | (go_simp; rfl) | rfl
            intro W1 VW1 hOW1
            have BW1 : Hid (Below wr.heap.size wr W1) := hOW1
            clear hOW1
            simp only [RU.lay, RU.val, RU.at', rn71f, Act.put]
            simp only [List.setIfInBounds_toArray, List.set_cons_succ, List.set_cons_zero]
            cases r with
            | true =>
              go_wp2_with fail
              have hw1 : IntKind.i64.wrap ((a : Int) - 1) = (j : Int) := by have := HJ.out; rw [IntKind.wrap_i64]; omega
              exact ⟨⟨j, by have := HJ.out; omega, by first | rw [hw1] | (have := HJ.out; go_num), fun i x hi hx => by
                rcases Nat.lt_or_ge j i with q | q
                · exact HHI.out i x (by have := HJ.out; omega) hx
                · obtain rfl : i = j := by omega
                  rw [HZK.out] at hx; cases hx
                  have := (ltb_iff HPY.out HPZ.out).1 HRR.out
                  rw [HYP.out, HZP.out]; exact this, Below.tr' H5.out BW1.out⟩, by have := HJ.out; simp [intOf]; omega⟩
            | false =>
              have REW1 : Hid (W1.rangeAt E 1 (bv py)) := range_below REwr.out BW1.out LEwr.out
              have LEW1 : Hid (E < W1.heap.size) := Nat.lt_of_lt_of_le LEwr.out BW1.out.size
              have RJW1 : Hid (W1.rangeAt b (o + j * 65 + 1) (bv pz)) := range_below RJwr.out BW1.out LBwr.out
              have LBW1 : Hid (b < W1.heap.size) := Nat.lt_of_lt_of_le LBwr.out BW1.out.size
              obtain ⟨r, hr⟩ : ∃ r, decide (pz = py) = r := ⟨_, rfl⟩
              have HEE : Hid (decide (pz = py) = r) := hr
              have HEQ : Hid (∀ W : World, (binOp .eql 25 (.agg (bv pz).toArray) (.agg (bv py).toArray)).run Tryd.prog W = .ok (.bool r) W) := fun W => by rw [← hr]; exact eql_32 HPZ.out HPY.out W
              clear hr
              go_upto_region 9 with (fail)
              refine RU.wp_rgn' [] (rn91f (some ⟨b, o, none⟩) b o n cp a j E py pz r) (fun _ => 0) (gΩ W1) (by kernel_rfl) (by kernel_rfl) (show Below W1.heap.size W1 _ from (Below.refl _ _).drew) ?_ ?_
              · refine ⟨?_, ?_, ?_, ?_, ?_, ?_, ?_, ?_, ?_, ?_, ?_, ?_, ?_, trivial⟩
                · refine RU.ObT.pure rfl rfl rfl (fun aa V hf hp ev he hc W => ?_)
                  have q7 : ev (.tmp 7) = .int .i64 (a : Int) := (he (.tmp 7)).trans (hf 7 rfl)
                  simp only [List.getElem_toArray, List.getElem_cons_succ, List.getElem_cons_zero, execOp, Option.map_some, Option.map_none]; rw [q7]
                  first | (go_simp; done) | (go_simp; rfl) | rfl
                · refine RU.ObT.pure rfl rfl rfl (fun aa V hf hp ev he hc W => ?_)
                  have q35 : ev (.tmp 35) = .int .i64 (a : Int) := (he (.tmp 35)).trans (hp 0 35 rfl)
                  simp only [List.getElem_toArray, List.getElem_cons_succ, List.getElem_cons_zero, execOp, Option.map_some, Option.map_none]; rw [q35]
                  try simp only [hc]
                  have hkp : 0 < a := by have := HJ.out; omega
                  first | (go_simp; done) | (go_simp; rfl) | rfl
                · refine RU.ObT.pure rfl rfl rfl (fun aa V hf hp ev he hc W => ?_)
                  have q36 : ev (.tmp 36) = .bool true := (he (.tmp 36)).trans (hp 1 36 rfl)
                  simp only [List.getElem_toArray, List.getElem_cons_succ, List.getElem_cons_zero, execOp, Option.map_some, Option.map_none]; rw [q36]
                  first | (go_simp; done) | (go_simp; rfl) | rfl
                · refine RU.ObT.silent rfl (fun aa W k0 V hO hf hp hk => ?_)
                  have hg : aa.eval (.tmp 37) = .bool true := hp 2 37 rfl
                  refine RU.ob_val rfl (RU.wanted_some rfl rfl rfl hg) (fun ev he hc => ?_) ⟨rfl, hO⟩
                  have q4 : ev (.tmp 4) = .slice (some ⟨b, o, none⟩) n cp := (he (.tmp 4)).trans (hf 4 rfl)
                  simp only [List.getElem_toArray, List.getElem_cons_succ, List.getElem_cons_zero, execOp, Option.map_some, Option.map_none]; rw [q4]
                  first | (go_simp; done) | (go_simp; rfl) | rfl
                · refine RU.ObT.silent rfl (fun aa W k0 V hO hf hp hk => ?_)
                  have hg : aa.eval (.tmp 37) = .bool true := hp 2 37 rfl
                  refine RU.ob_val rfl (RU.wanted_some rfl rfl rfl hg) (fun ev he hc => ?_) ⟨rfl, hO⟩
                  have q7 : ev (.tmp 7) = .int .i64 (a : Int) := (he (.tmp 7)).trans (hf 7 rfl)
                  simp only [List.getElem_toArray, List.getElem_cons_succ, List.getElem_cons_zero, execOp, Option.map_some, Option.map_none]; rw [q7]
                  first | (go_simp; done) | (go_simp; rfl) | rfl
                · refine RU.ObT.silent rfl (fun aa W k0 V hO hf hp hk => ?_)
                  have hg : aa.eval (.tmp 37) = .bool true := hp 2 37 rfl
                  refine RU.ob_val rfl (RU.wanted_some rfl rfl rfl hg) (fun ev he hc => ?_) ⟨rfl, hO⟩
                  have q39 : ev (.tmp 39) = .int .i64 (a : Int) := (he (.tmp 39)).trans (hp 4 39 rfl)
                  simp only [List.getElem_toArray, List.getElem_cons_succ, List.getElem_cons_zero, execOp, Option.map_some, Option.map_none]; rw [q39]
                  try simp only [hc]
                  have hw1 : IntKind.i64.wrap ((a : Int) - 1) = (j : Int) := by have := HJ.out; rw [IntKind.wrap_i64]; omega
                  first | (go_simp; done) | (go_simp; rfl) | rfl
                · refine RU.ObT.silent rfl (fun aa W k0 V hO hf hp hk => ?_)
                  have hg : aa.eval (.tmp 37) = .bool true := hp 2 37 rfl
                  refine RU.ob_val rfl (RU.wanted_some rfl rfl rfl hg) (fun ev he hc => ?_) ⟨rfl, hO⟩
                  have q38 : ev (.tmp 38) = .slice (some ⟨b, o, none⟩) n cp := (he (.tmp 38)).trans (hp 3 38 rfl)
                  have q40 : ev (.tmp 40) = .int .i64 (j : Int) := (he (.tmp 40)).trans (hp 5 40 rfl)
                  simp only [List.getElem_toArray, List.getElem_cons_succ, List.getElem_cons_zero, execOp, Option.map_some, Option.map_none]; rw [q38, q40]
                  have hj9 : (j : Int) < (n : Int) := by have := HJ.out; omega
                  first | (go_simp; done) | (go_simp; rfl) | rfl
                · refine RU.ObT.silent rfl (fun aa W k0 V hO hf hp hk => ?_)
                  have hg : aa.eval (.tmp 37) = .bool true := hp 2 37 rfl
                  refine RU.ob_val rfl (RU.wanted_some rfl rfl rfl hg) (fun ev he hc => ?_) ⟨rfl, hO⟩
                  have q41 : ev (.tmp 41) = .pointer (some ⟨b, o + j * 65, none⟩) := (he (.tmp 41)).trans (hp 6 41 rfl)
                  simp only [List.getElem_toArray, List.getElem_cons_succ, List.getElem_cons_zero, execOp, Option.map_some, Option.map_none]; rw [q41]
                  first | (go_simp; done) | (go_simp; rfl) | rfl
                · refine RU.ObT.silent rfl (fun aa W k0 V hO hf hp hk => ?_)
                  have hg : aa.eval (.tmp 37) = .bool true := hp 2 37 rfl
                  have hO' : Below W1.heap.size W1 W := hO
                  have q42 : aa.eval (.tmp 42) = .pointer (some ⟨b, o + j * 65 + 1, none⟩) := hp 7 42 rfl
                  exact RU.ob_op rfl (RU.wanted_some rfl rfl rfl hg) (wp_load_mid 25 (.tmp 42) rfl (b) (o + j * 65 + 1) q42 (bv pz) _ (range_below RJW1.out hO' LBW1.out) Tryd.underlying25 rfl (size_l32 HPZ.out) ⟨rfl, hO⟩)
                · refine RU.ObT.silent rfl (fun aa W k0 V hO hf hp hk => ?_)
                  have hg : aa.eval (.tmp 37) = .bool true := hp 2 37 rfl
                  refine RU.ob_val rfl (RU.wanted_some rfl rfl rfl hg) (fun ev he hc => ?_) ⟨rfl, hO⟩
                  have q6 : ev (.tmp 6) = .pointer (some ⟨E, 0, none⟩) := (he (.tmp 6)).trans (hf 6 rfl)
                  simp only [List.getElem_toArray, List.getElem_cons_succ, List.getElem_cons_zero, execOp, Option.map_some, Option.map_none]; rw [q6]
                  first | (go_simp; done) | (go_simp; rfl) | rfl
                · refine RU.ObT.silent rfl (fun aa W k0 V hO hf hp hk => ?_)
                  have hg : aa.eval (.tmp 37) = .bool true := hp 2 37 rfl
                  have hO' : Below W1.heap.size W1 W := hO
                  have q44 : aa.eval (.tmp 44) = .pointer (some ⟨E, 1, none⟩) := hp 9 44 rfl
                  exact RU.ob_op rfl (RU.wanted_some rfl rfl rfl hg) (wp_load_mid 25 (.tmp 44) rfl (E) (1) q44 (bv py) _ (range_below REW1.out hO' LEW1.out) Tryd.underlying25 rfl (size_l32 HPY.out) ⟨rfl, hO⟩)
                · refine RU.ObT.silent rfl (fun aa W k0 V hO hf hp hk => ?_)
                  have hg : aa.eval (.tmp 37) = .bool true := hp 2 37 rfl
                  refine RU.ob_val rfl (RU.wanted_some rfl rfl rfl hg) (fun ev he hc => ?_) ⟨rfl, hO⟩
                  have q43 : ev (.tmp 43) = .agg (bv pz).toArray := (he (.tmp 43)).trans (hp 8 43 rfl)
                  have q45 : ev (.tmp 45) = .agg (bv py).toArray := (he (.tmp 45)).trans (hp 10 45 rfl)
                  simp only [List.getElem_toArray, List.getElem_cons_succ, List.getElem_cons_zero, execOp, Option.map_some, Option.map_none]; rw [q43, q45]
                  simp only [Sem.run_bind, eqg_32, HEQ.out W, Result.andThen_ok, Sem.run_pure]; rfl
                · refine RU.ObT.pure rfl rfl rfl (fun aa V hf hp ev he hc W => ?_)
                  have q37 : ev (.tmp 37) = .bool true := (he (.tmp 37)).trans (hp 2 37 rfl)
                  have q46 : ev (.tmp 46) = .bool r := (he (.tmp 46)).trans (hp 11 46 rfl)
                  simp only [List.getElem_toArray, List.getElem_cons_succ, List.getElem_cons_zero, execOp, Option.map_some, Option.map_none]; rw [q37, q46]
                  try simp only [hc]
                  first | (go_simp; done) | (go_simp; rfl) | rfl
              intro W2 VW2 hOW2
              have BW2 : Hid (Below W1.heap.size W1 W2) := hOW2
              clear hOW2
              simp only [RU.lay, RU.val, RU.at', rn91f, Act.put]
              simp only [List.setIfInBounds_toArray, List.set_cons_succ, List.set_cons_zero]
              cases r with
              | true =>
                go_wp2_with fail
                go_ret2
                have he : pz = py := by simpa using HEE.out
                exact ⟨_, _, rfl, .inr ⟨dup_not HK.out HXK.out HPM.out (List.mem_of_getElem? HZK.out) (by rw [HZP.out, he, ← HYP.out, ← HYX.out]), rfl, rfl⟩, CU.out.trans ((Below.tr' H5.out (Below.tr' BW1.out BW2.out)).mono CU.out.size)⟩
              | false =>
                have HLO : Hid (∀ (j : Nat) (x : Nd), j < a → s[j]? = some x → pf x.p 256 < pf y.p 256) := by
                  have hj := HJ.out
                  refine rise_lo HPW.out (a := a) (z := z) (by rw [hj]; exact HZK.out) (by omega) ?_
                  have h1 : ¬ pf py 256 < pf pz 256 := fun q => by have := (ltb_iff HPY.out HPZ.out).2 q; rw [HRR.out] at this; cases this
                  have h2 : pf pz 256 ≠ pf py 256 := fun q => by have := HPZ.out.ext HPY.out q; have he := HEE.out; rw [this] at he; simp at he
                  rw [HZP.out, HYP.out]; omega
                have C2 : Hid (Below U.heap.size U W2) := Below.tr' H5.out (Below.tr' BW1.out BW2.out)
                have NV : Hid (NO w.heap.size W2 (.slice (some ⟨b, o, none⟩) n cp) s) := NU.out.below C2.out
                have RE2 : Hid (W2.rangeAt E 0 (nc y)) := range_below REU.out C2.out LEU.out
                have LE2 : Hid (E < W2.heap.size) := Nat.lt_of_lt_of_le LEU.out C2.out.size
                go_upto_region 11 with (fail)
                refine wp_region_list ?_
                go_wp2_with (first
                  | (refine wp_build0 33 rfl rfl _ (build_n0 W2) ?_)
                  | (refine wpList_onen rfl (.tmp 49) rfl ndz ndz_ok rfl ?_)
                  | (at_builtin; refine wp_appg rfl (.tmp 48) (.tmp 50) rfl rfl w.heap.size (.slice (some ⟨b, o, none⟩) n cp) (.slice (some ⟨W2.heap.size, 0, none⟩) 1 1) s [ndz] rfl rfl (NV.out.alloc _) (fun z hz => by simp at hz; subst hz; exact ndz_ok) (ns_one W2 ndz _) (by have h1 := HSN.out; simp only [List.length_cons, List.length_nil]; omega) ?_; intro v3 w3 g1 g2 g3; have hgr : Hid ((World.alloc _ _).grownBy w3 _) := g3; have hg1 : Hid (NO w.heap.size w3 v3 (s ++ [ndz])) := g1; have hg2 : Hid (Below w.heap.size W2 w3) := (Below.alloc (Below.refl _ _) NV.out.2.2 _).trans g2; clear g1 g2 g3))
                obtain ⟨g, cq, hv3, hcq'⟩ := hg1.out.sl (by simp)
                rw [List.length_append, HSN.out] at hv3 hcq'
                obtain ⟨N, hN⟩ : ∃ N, N = n + 1 := ⟨_, rfl⟩
                have HN : Hid (N = n + 1) := hN
                have hcq : N ≤ cq := by rw [hN]; exact hcq'
                have hv3' : v3 = .slice (some ⟨g, 0, none⟩) N cq := by rw [hN]; exact hv3
                have N3 : Hid (NO w.heap.size w3 (.slice (some ⟨g, 0, none⟩) N cq) (s ++ [ndz])) := by have := hg1.out; rw [hv3'] at this; exact this
                clear hN
                subst hv3'
                have C3 : Hid (Below w.heap.size w w3) := (CU.out.trans (C2.out.mono CU.out.size)).trans hg2.out
                obtain ⟨fe1, fe2⟩ := fresh_ne hgr.out HROWA.out (show E < (World.alloc _ _).heap.size by have := LE2.out; simp; omega) (cells_below HES.out (Below.tr' C2.out (Below.alloc (Below.refl _ _) (Nat.le_refl _) _)) LEU.out) (range_below RE2.out (Below.alloc (Below.refl _ _) (Nat.le_refl _) _) LE2.out) HYN.out N3.out HSN.out
                have HEG : Hid (E ≠ g) := fe1
                have RE3 : Hid (w3.rangeAt E 0 (nc y)) := fe2
                clear fe1 fe2
                have LE3 : Hid (E < w3.heap.size) := Nat.lt_of_lt_of_le LE2.out hg2.out.size
                clear hcq' hv3
                obtain ⟨q, hq⟩ : ∃ q, q = a + 1 := ⟨_, rfl⟩
                have HQ : Hid (q = a + 1) := hq
                have HDW : Hid (∀ W : World, Below w3.heap.size w3 W → NO w.heap.size W (.slice (some ⟨g, 0, none⟩) N cq) (s ++ [ndz])) := fun W q => N3.out.below q
                obtain ⟨dp, hdp⟩ : ∃ dp, (if cq = q then some ⟨g, 0, none⟩ else some ⟨g, q * 65, none⟩ : Option Addr) = dp := ⟨_, rfl⟩
                have HDP : Hid ((if cq = q then some ⟨g, 0, none⟩ else some ⟨g, q * 65, none⟩ : Option Addr) = dp) := hdp
                have HCP : Hid (∀ W : World, Below w3.heap.size w3 W → (Builtin.copy_ #[28, 28] 3 #[.slice dp (N - q) (cq - q), .slice (some ⟨g, a * 65, none⟩) (N - a) (cq - a)]).run Tryd.prog W = .ok (.int .i64 ((N - q : Nat) : Int)) (W.setCells g ((a + 1) * 65) (ncs (s.drop a)))) := fun W q => run_shift (HDW.out W q) HSN.out han hcq HN.out HQ.out dp hdp
                clear hdp hq
                go_upto_region 12 with (fail)
                refine RU.wp_rgn' [7] (rn12f dp g N q cq a) (fun _ => 0) (cpΩ w3 g ((a + 1) * 65) (ncs (s.drop a))) (by kernel_rfl) (by kernel_rfl) (show Below w3.heap.size w3 _ from (Below.refl _ _).drew) ?_ ?_
                · refine ⟨?_, ?_, ?_, ?_, ?_, ?_, ?_, ?_, trivial⟩
                  · refine RU.ObT.pure rfl rfl rfl (fun aa V hf hp ev he hc W => ?_)
                    have q4 : ev (.tmp 4) = .slice (some ⟨g, 0, none⟩) N cq := (he (.tmp 4)).trans (hf 4 rfl)
                    simp only [List.getElem_toArray, List.getElem_cons_succ, List.getElem_cons_zero, execOp, Option.map_some, Option.map_none]; rw [q4]
                    first | (go_simp; done) | (go_simp; rfl) | rfl
                  · refine RU.ObT.pure rfl rfl rfl (fun aa V hf hp ev he hc W => ?_)
                    have q7 : ev (.tmp 7) = .int .i64 (a : Int) := (he (.tmp 7)).trans (hf 7 rfl)
                    simp only [List.getElem_toArray, List.getElem_cons_succ, List.getElem_cons_zero, execOp, Option.map_some, Option.map_none]; rw [q7]
                    first | (go_simp; done) | (go_simp; rfl) | rfl
                  · refine RU.ObT.pure rfl rfl rfl (fun aa V hf hp ev he hc W => ?_)
                    have q53 : ev (.tmp 53) = .int .i64 (a : Int) := (he (.tmp 53)).trans (hp 1 53 rfl)
                    simp only [List.getElem_toArray, List.getElem_cons_succ, List.getElem_cons_zero, execOp, Option.map_some, Option.map_none]; rw [q53]
                    try simp only [hc]
                    have hw1 : IntKind.i64.wrap ((a : Int) + 1) = (q : Int) := by have := HQ.out; rw [IntKind.wrap_i64]; omega
                    first | (go_simp; done) | (go_simp; rfl) | rfl
                  · refine RU.ObT.pure rfl rfl rfl (fun aa V hf hp ev he hc W => ?_)
                    have q52 : ev (.tmp 52) = .slice (some ⟨g, 0, none⟩) N cq := (he (.tmp 52)).trans (hp 0 52 rfl)
                    have q54 : ev (.tmp 54) = .int .i64 (q : Int) := (he (.tmp 54)).trans (hp 2 54 rfl)
                    simp only [List.getElem_toArray, List.getElem_cons_succ, List.getElem_cons_zero, execOp, Option.map_some, Option.map_none]; rw [q52, q54]
                    have h1 := HN.out
                    have h2 := HQ.out
                    have hm1 : (q : Int) ≤ (N : Int) := by omega
                    have hm2 : (q : Int) ≤ (cq : Int) := by omega
                    have hm3 : (N : Int) ≤ (cq : Int) := by omega
                    have hm4 : (a : Int) ≤ (N : Int) := by omega
                    have hm5 : (a : Int) ≤ (cq : Int) := by omega
                    have hm6 : ¬ cq = a := by omega
                    clear h1 h2
                    rw [← HDP.out]; by_cases hcm : cq = q <;> ((first | rw [if_pos hcm] | rw [if_neg hcm]); first | (go_simp; done) | (go_simp; rfl) | (subst hcm; go_simp; simp [rn12f]; done) | (subst hcm; simp only [rn12f]; go_simp; done))
                  · refine RU.ObT.pure rfl rfl rfl (fun aa V hf hp ev he hc W => ?_)
                    have q4 : ev (.tmp 4) = .slice (some ⟨g, 0, none⟩) N cq := (he (.tmp 4)).trans (hf 4 rfl)
                    simp only [List.getElem_toArray, List.getElem_cons_succ, List.getElem_cons_zero, execOp, Option.map_some, Option.map_none]; rw [q4]
                    first | (go_simp; done) | (go_simp; rfl) | rfl
                  · refine RU.ObT.pure rfl rfl rfl (fun aa V hf hp ev he hc W => ?_)
                    have q7 : ev (.tmp 7) = .int .i64 (a : Int) := (he (.tmp 7)).trans (hf 7 rfl)
                    simp only [List.getElem_toArray, List.getElem_cons_succ, List.getElem_cons_zero, execOp, Option.map_some, Option.map_none]; rw [q7]
                    first | (go_simp; done) | (go_simp; rfl) | rfl
                  · refine RU.ObT.pure rfl rfl rfl (fun aa V hf hp ev he hc W => ?_)
                    have q56 : ev (.tmp 56) = .slice (some ⟨g, 0, none⟩) N cq := (he (.tmp 56)).trans (hp 4 56 rfl)
                    have q57 : ev (.tmp 57) = .int .i64 (a : Int) := (he (.tmp 57)).trans (hp 5 57 rfl)
                    simp only [List.getElem_toArray, List.getElem_cons_succ, List.getElem_cons_zero, execOp, Option.map_some, Option.map_none]; rw [q56, q57]
                    have h1 := HN.out
                    have h2 := HQ.out
                    have hm1 : (q : Int) ≤ (N : Int) := by omega
                    have hm2 : (q : Int) ≤ (cq : Int) := by omega
                    have hm3 : (N : Int) ≤ (cq : Int) := by omega
                    have hm4 : (a : Int) ≤ (N : Int) := by omega
                    have hm5 : (a : Int) ≤ (cq : Int) := by omega
                    have hm6 : ¬ cq = a := by omega
                    clear h1 h2
                    first | (go_simp; done) | (go_simp; rfl) | rfl
                  · refine RU.ObT.loud (j := 0) rfl (fun aa W V hO hf hp => ?_)
                    have hO' : Below w3.heap.size w3 W := hO
                    have q55 : aa.eval (.tmp 55) = .slice dp (N - q) (cq - q) := hp 3 55 rfl
                    have q58 : aa.eval (.tmp 58) = .slice (some ⟨g, a * 65, none⟩) (N - a) (cq - a) := hp 6 58 rfl
                    refine RU.ob_run (v := .int .i64 ((N - q : Nat) : Int)) (w' := W.setCells g ((a + 1) * 65) (ncs (s.drop a))) rfl (RU.wanted_none rfl) (fun ev he hc => ?_) ⟨_, rfl, W, hO', rfl⟩
                    have e1 := (he (.tmp 55)).trans q55
                    have e2 := (he (.tmp 58)).trans q58
                    simp only [List.getElem_toArray, List.getElem_cons_succ, List.getElem_cons_zero, execOp, resolve, invoke, builtin, Sem.run_bind, Sem.run_pure, Result.andThen_ok, List.map_toArray, List.map_cons, List.map_nil, e1, e2, HCP.out W hO']
                intro W4 VW4 hOW4
                obtain ⟨W0, hW0, hWW⟩ := hOW4
                subst hWW
                have B4 : Hid (Below w3.heap.size w3 W0) := hW0
                clear hW0
                simp only [RU.lay, RU.val, RU.at', rn12f, Act.put]
                simp only [List.setIfInBounds_toArray, List.set_cons_succ, List.set_cons_zero]
                have N4 : Hid (NO w.heap.size (W0.setCells g ((a + 1) * 65) (ncs (s.drop a))) (.slice (some ⟨g, 0, none⟩) N cq) ((s ++ [ndz]).take (a + 1) ++ s.drop a)) := by
                  have := (HDW.out W0 B4.out).set (m := s.drop a) (i := a + 1) (fun x hx => HSO.out x (List.mem_of_mem_drop hx)) (by rw [List.length_append, List.length_drop, HSN.out]; simp; omega)
                  rw [show a + 1 + (s.drop a).length = (s ++ [ndz]).length by rw [List.length_append, List.length_drop, HSN.out]; simp; omega, List.drop_length, List.append_nil] at this
                  exact this
                obtain ⟨w4, hw4⟩ : ∃ w4, W0.setCells g ((a + 1) * 65) (ncs (s.drop a)) = w4 := ⟨_, rfl⟩
                have HGB : Hid (w.heap.size ≤ g) := (N3.out.1.lt g rfl).1
                have C4 : Hid (Below w.heap.size w w4) := by rw [← hw4]; exact below_setCells HGB.out _ _ (C3.out.trans (B4.out.mono C3.out.size))
                have RE4 : Hid (w4.rangeAt E 0 (nc y)) := by rw [← hw4]; exact World.rangeAt_setCells_apart (range_below RE3.out B4.out LE3.out) _ _ _ (.inl (fun e => HEG.out e))
                rw [hw4] at N4 ⊢
                clear hw4
                have T4 : Hid (w4.there g (a * 65) 65) := NO.there N4.out (by simp only [List.length_append, List.length_take, List.length_drop, HSN.out, List.length_cons, List.length_nil]; omega)
                have haN : a < N := by have := HN.out; omega
                go_wp2_with (first
                  | (refine ld 33 (.tmp 6) rfl rfl E 0 rfl (nc y) _ RE4.out Tryd.underlying33 rfl (size_nc HYO.out) ?_)
                  | (refine wpList_store_mid rfl 33 (.tmp 63) (.tmp 62) rfl g (a * 65) (nc y).toArray rfl rfl (by rw [nc_size HYO.out]; exact T4.out) (by rw [List.size_toArray]; exact size_nc HYO.out) (nc_one _) ?_; simp only [List.toList_toArray]))
                have N5 : NO w.heap.size (w4.setCells g (a * 65) (nc y)) (.slice (some ⟨g, 0, none⟩) N cq) (s.take a ++ [y] ++ s.drop a) := by
                  have := N4.out.set (m := [y]) (i := a) (fun x hx => by simp at hx; subst hx; exact HYO.out) (by simp only [List.length_append, List.length_take, List.length_drop, HSN.out, List.length_cons, List.length_nil]; omega)
                  rw [show ncs [y] = nc y by simp [ncs]] at this
                  rw [put_shape HSN.out han] at this
                  exact this
                exact ⟨⟨k + 1, _, by omega, by go_num, N5, by rw [HTK.out]; exact put_perm HPM.out y a, put_rise HPW.out HLO.out HHI.out, below_setCells HGB.out _ _ C4.out⟩, by simp [intOf]; omega⟩
    · obtain rfl : k = len := by omega
      have HTA : Hid ((ls.take k).map ln = ls.map ln) := by show _ = _; rw [← HLN.out, List.take_length]
      have HPM2 : Hid (s.Perm (ls.map ln)) := by have := HPM.out; rw [HTA.out] at this; exact this
      obtain ⟨o1, o2⟩ := so_rise HK.out HPM2.out HPW.out
      have HO1 : Hid (okl ls) := o1
      have HO2 : Hid (so ls = s) := o2
      clear o1 o2
      go_wp2_with fail
      go_ret2
      exact ⟨_, _, rfl, .inl ⟨HO1.out, rfl, by rw [HO2.out]; exact HNO.out.ns⟩, H4.out⟩
end Go.Proofs.YtpojalbpekbfdabDoor
