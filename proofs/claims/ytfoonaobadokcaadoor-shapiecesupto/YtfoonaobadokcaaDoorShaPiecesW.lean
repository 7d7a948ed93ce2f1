/- The walk of ShaPieces. -/
import Derived.Test.YtfoonaobadokcaaDoorShaT
import Derived.Test.YtfoonaobadokcaaDoorShaU
namespace Go.Proofs.YtfoonaobadokcaaDoor
open Go Go.RowKit
set_option linter.unusedSimpArgs false
set_option linter.unusedVariables false

theorem sum256_at (S : St) (m : Nat → BitVec 8) (n : Nat) (v : Value) (hS : sumSt K256 H256 m n = S) (hn : n < 1152921504606846976) (w : World) (hT : Tabs w K256 H256) (hv : Bytes w v n m w.heap.size) :
    Calls Tryd.prog 10 #[v] w fun e w' => e = .returned (.agg (srow S)) ∧ Below w.heap.size w w' := by
  subst hS; exact sum256_any K256 H256 m n v hn w hT hv
theorem Gath.bytes {B0 : Nat} {wr : World} {v : Value} {k : Nat} {f : Nat → BitVec 8} (h : Gath B0 wr v k f) : Bytes wr v k f wr.heap.size := by
  rcases h.2 with ⟨rfl, rfl⟩ | ⟨g, cap, cur, hv, hb, hg, hc, _, hs, ht⟩
  · exact .inl ⟨⟨_, rfl⟩, rfl⟩
  · have hlt := (Array.getElem?_eq_some_iff.1 hg).1
    refine .inr ⟨g, 0, cap, hv, hc, hlt, Nat.ne_of_lt hlt, fun i hi => ?_⟩
    rw [Nat.zero_add, cell_of_row wr g i cur _ _ hg]
    have e : (cur.toList.take (k * 1))[i]? = some (B (f i)) := by rw [ht]; simp [bl, hi]
    rw [List.getElem?_take, if_pos (by omega), Array.getElem?_toList] at e
    exact e
/-- What the loop over the pieces holds. -/
structure QRel (M : Nat → BitVec 8) (w wr : World) (B0 hb N : Nat) (v : Value) : Prop where
  below : Below w.heap.size w wr
  inv : HInv K256 H256 M wr hb N
  gath : Gath B0 wr v N M
  base : B0 ≤ wr.heap.size
theorem QRel.next {M : Nat → BitVec 8} {w wr wr' : World} {B0 hb N : Nat} {v : Value} (h : QRel M w wr B0 hb N v) (hb' : Below wr.heap.size wr wr') : QRel M w wr' B0 hb N v := by
  obtain ⟨buf, h1, h2⟩ := h.inv
  exact ⟨h.below.trans (hb'.mono h.below.size), h.inv.grown (hb'.block hb h1.lt), h.gath.keep (fun b _ hb => hb'.block b hb), Nat.le_trans h.base hb'.size⟩

set_option maxRecDepth 100000 in
set_option maxHeartbeats 2000000 in
theorem shaPieces_walk (M : Nat → BitVec 8) (pre ln cp : Nat → Nat) (ad : Nat → Option Addr) (pa : Option Addr) (n c : Nat) (w : World) (hT : Tabs w K256 H256)
    (hpa : 0 < n → ∃ pb po, pa = some ⟨pb, po, none⟩ ∧ pb < w.heap.size ∧ ∀ i, i < n → w.cell? ⟨pb, po + i, none⟩ = some (.slice (ad i) (ln i) (cp i)))
    (hby : ∀ i, i < n → Bytes w (.slice (ad i) (ln i) (cp i)) (ln i) (fun j => M (pre i + j)) w.heap.size)
    (p0 : pre 0 = 0) (ps : ∀ i, i < n → pre (i + 1) = pre i + ln i) (pn : ∀ i, i ≤ n → pre i ≤ 1048576) (hn : n ≤ 1048576) :
    Calls Tryd.prog 5 #[.slice pa n c] w fun e w' => e = .returned (.bool true) ∧ Below w.heap.size w w' := by
  have HT : Hid (Tabs w K256 H256) := hT
  have HPA : Hid (0 < n → ∃ pb po, pa = some ⟨pb, po, none⟩ ∧ pb < w.heap.size ∧ ∀ i, i < n → w.cell? ⟨pb, po + i, none⟩ = some (.slice (ad i) (ln i) (cp i))) := hpa
  have HBY : Hid (∀ i, i < n → Bytes w (.slice (ad i) (ln i) (cp i)) (ln i) (fun j => M (pre i + j)) w.heap.size) := hby
  have P0 : Hid (pre 0 = 0) := p0
  have PS : Hid (∀ i, i < n → pre (i + 1) = pre i + ln i) := ps
  have PN : Hid (∀ i, i ≤ n → pre i ≤ 1048576) := pn
  have hl : Hid (1 < w.heap.size ∧ 3 < w.heap.size) := hT.lt
  have gn : (n : Int) ≤ 1048576 := by omega
  clear hT hpa hby p0 ps pn
  have he := eq_same
  go_enter Tryd.func5, Tryd.ntmps5
  go_wp2_with fail
  refine (awake_any w HT.out).mono ?_
  rintro e w1 ⟨rfl, hb1⟩
  have B1 : Hid (Below w.heap.size w w1) := hb1
  clear hb1
  go_wp2_with fail
  refine (new_any K256 H256 w1 (HT.out.below B1.out hl.out.1 hl.out.2)).mono ?_
  rintro e w2 ⟨hb, rfl, hb2, hle2, hrow2⟩
  have hle : Hid (w.heap.size ≤ hb) := Nat.le_trans B1.out.size hle2
  obtain ⟨B0, hB0⟩ : ∃ B0, B0 = w2.heap.size := ⟨_, rfl⟩
  have hbB : Hid (hb < B0) := by show hb < B0; rw [hB0]; exact hrow2.lt
  have HP : Hid (QRel M w w2 B0 hb (pre 0) (.slice none 0 0)) := by
    refine ⟨B1.out.trans (hb2.mono B1.out.size), ?_, ?_, Nat.le_of_eq hB0⟩
    · rw [P0.out]; exact HInv.new _ _ _ _ _ hrow2
    · rw [P0.out]; exact Gath.nil _ _ _
  clear hb2 hle2 hrow2 hB0 B1
  go_wp2_with fail
  go_loopw [4, 5, 11] (fun x _ i wr => ∃ k : Nat, k ≤ n ∧ i = .int .i64 (k : Int) ∧ QRel M w wr B0 hb (pre k) x) (fun _ _ i _ => n - (intOf i).toNat)
  case atStart => exact ⟨0, Nat.zero_le _, rfl, HP.out⟩
  case round =>
    obtain ⟨k, hk, rfl, hrel⟩ := hrel
    have HQ : Hid (QRel M w _ B0 hb (pre k) _) := hrel
    clear hrel HP
    obtain ⟨x4, y4, hv4, -⟩ := HQ.out.gath.src
    by_cases hkn : k = n
    · subst hkn
      rw [hv4] at HQ
      rw [hv4]
      clear hv4
      obtain ⟨N, hN⟩ : ∃ N, pre k = N := ⟨_, rfl⟩
      have lN : N ≤ 1048576 := by rw [← hN]; exact PN.out k (Nat.le_refl _)
      rw [hN] at HQ
      rw [hN]
      clear hN
      obtain ⟨S, hS⟩ : ∃ S, sumSt K256 H256 M N = S := ⟨_, rfl⟩
      have HS : Hid (sumSt K256 H256 M N = S) := hS
      clear hS
      have h0 : (decide ((k : Int) < (k : Int))) = false := by simp
      go_wp2_with fail
      refine (sum_at S K256 H256 M hb N HS.out (by omega) _ HQ.out.inv (HT.out.below HQ.out.below hl.out.1 hl.out.2).cu).mono ?_
      rintro e w11 ⟨rfl, hb11⟩
      have HQ1 : Hid (QRel M w w11 B0 hb N (.slice x4 N y4)) := HQ.out.next hb11
      clear hb11 HQ
      have S4 : Hid (Src w11 x4 N y4 M) := by obtain ⟨ad, cap, hv, hs⟩ := HQ1.out.gath.src; cases hv; exact hs
      go_wp2_with fail
      refine (rsum_at S M x4 N y4 HS.out (by omega) w11 S4.out).mono ?_
      rintro e w12 ⟨rfl, hb12⟩
      have BB : Hid (Below w.heap.size w w12) := HQ1.out.below.trans (hb12.mono HQ1.out.below.size)
      clear hb12
      go_wp2
      go_ret
      exact ⟨rfl, BB.out⟩
    · have hlt : k < n := by omega
      obtain ⟨pb, po, rfl, hpb, hcs⟩ := HPA.out (by omega)
      have hc0 := hcs k hlt
      clear hcs
      have hpbl : Hid (pb < w.heap.size) := hpb
      have hzw : Hid (w.heap.size ≤ B0) := by have h1 := hle.out; have h2 := hbB.out; show w.heap.size ≤ B0; omega
      have HC0 : Hid (w.cell? ⟨pb, po + k, none⟩ = some (.slice (ad k) (ln k) (cp k))) := hc0
      clear hc0 hpb
      rw [hv4] at HQ
      rw [hv4]
      clear hv4
      obtain ⟨N, hN⟩ : ∃ N, pre k = N := ⟨_, rfl⟩
      obtain ⟨L, hL⟩ : ∃ L, ln k = L := ⟨_, rfl⟩
      obtain ⟨A, hA⟩ : ∃ A, ad k = A := ⟨_, rfl⟩
      obtain ⟨C, hC⟩ : ∃ C, cp k = C := ⟨_, rfl⟩
      have HB : Hid (Bytes w (.slice A L C) L (fun j => M (N + j)) w.heap.size) := by
        have := HBY.out k hlt
        rw [hN, hL, hA, hC] at this; exact this
      have HN1 : Hid (pre (k + 1) = N + L) := by show pre (k + 1) = N + L; rw [PS.out k hlt, hN, hL]
      have lN : N + L ≤ 1048576 := by rw [← HN1.out]; exact PN.out (k + 1) hlt
      rw [hL, hA, hC] at HC0
      rw [hN] at HQ
      rw [hN]
      clear hN hL hA hC
      obtain ⟨N', hN'⟩ : ∃ N', N' = N + L := ⟨_, rfl⟩
      have HN2 : Hid (N' = N + L) := hN'
      have lN' : N' ≤ 1048576 := by omega
      clear hN'
      have HSB : Hid (Src w A L C (fun j => M (N + j))) := by obtain ⟨ad, cap, hv, hs⟩ := HB.out.src; cases hv; exact hs
      obtain ⟨S, hS⟩ : ∃ S, sumSt K256 H256 M N' = S := ⟨_, rfl⟩
      have HS : Hid (sumSt K256 H256 M N' = S) := hS
      clear hS
      have gk : (k : Int) < (n : Int) := by omega
      have hc1 : wr.cell? ⟨pb, po + k, none⟩ = some (.slice A L C) := (HQ.out.below.cell (p := ⟨pb, po + k, none⟩) hpbl.out).trans HC0.out
      go_wp2_with fail
      refine (write_any K256 H256 M hb N L _ (by omega) (by have h := hl.out.2; have h' := hle.out; omega) wr HQ.out.inv (HB.out.mono HQ.out.below hle.out) (HT.out.below HQ.out.below hl.out.1 hl.out.2).cu).mono ?_
      rintro e w5 ⟨rfl, hg5, hi5⟩
      rw [← HN2.out] at hi5
      have I5 : Hid (HInv K256 H256 M w5 hb N') := hi5
      have B5 : Hid (Below w.heap.size w w5) := below_of_grown HQ.out.below hg5 HQ.out.below.size hle.out
      have G5 : Hid (Gath B0 w5 (.slice x4 N y4) N M) := HQ.out.gath.keep (fun b h1 h2 => hg5.block b h2 (by have := hbB.out; intro h; cases h; omega))
      have Z5 : Hid (B0 ≤ w5.heap.size) := Nat.le_trans HQ.out.base hg5.size
      have hc5 : w5.cell? ⟨pb, po + k, none⟩ = some (.slice A L C) := (B5.out.cell (p := ⟨pb, po + k, none⟩) hpbl.out).trans HC0.out
      clear hc1 hg5 hi5 HQ
      go_wp2_with (at_builtin; refine app_gath rfl (.tmp 20) (.tmp 24) rfl Z5.out _ N M rfl G5.out A L C rfl (HSB.out.below B5.out (Nat.le_refl _)) (by omega) ?_; intro v6 w6 h6 hb6; rw [← HN2.out] at h6; have HQ6 : Hid (QRel M w w6 B0 hb N' v6) := ⟨B5.out.trans (hb6.mono hzw.out), I5.out.grown (hb6.block hb hbB.out), h6, Nat.le_trans Z5.out hb6.size⟩; obtain ⟨x6, y6, hv6, -⟩ := h6.src; clear h6 hb6; rw [hv6] at HQ6; rw [hv6]; clear hv6)
      clear hc5 I5 G5 Z5 B5
      refine (sum_at S K256 H256 M hb N' HS.out (by omega) w6 HQ6.out.inv (HT.out.below HQ6.out.below hl.out.1 hl.out.2).cu).mono ?_
      rintro e w7 ⟨rfl, hb7⟩
      have HQ7 : Hid (QRel M w w7 B0 hb N' (.slice x6 N' y6)) := HQ6.out.next hb7
      clear hb7 HQ6
      have S7 : Hid (Src w7 x6 N' y6 M) := by obtain ⟨ad, cap, hv, hs⟩ := HQ7.out.gath.src; cases hv; exact hs
      go_wp2_with fail
      refine (rsum_at S M x6 N' y6 HS.out (by omega) w7 S7.out).mono ?_
      rintro e w8 ⟨rfl, hb8⟩
      have HQ8 : Hid (QRel M w w8 B0 hb N' (.slice x6 N' y6)) := HQ7.out.next hb8
      clear hb8 HQ7 S7
      obtain ⟨b8, r8, -⟩ := HQ8.out.inv
      have R8 : Hid (HRow w8 hb (blocks K256 H256 M (N' / 64)) b8 N') := r8
      clear r8
      go_wp2_with fail
      refine (len_any hb _ b8 N' w8 R8.out).mono ?_
      rintro e w9 ⟨rfl, rfl⟩
      go_wp2_with fail
      refine (sum_at S K256 H256 M hb N' HS.out (by omega) w9 HQ8.out.inv (HT.out.below HQ8.out.below hl.out.1 hl.out.2).cu).mono ?_
      rintro e w10 ⟨rfl, hb10⟩
      have HQ10 : Hid (QRel M w w10 B0 hb N' (.slice x6 N' y6)) := HQ8.out.next hb10
      clear hb10 HQ8 R8
      go_wp2_with fail
      refine (sum256_at S M N' (.slice x6 N' y6) HS.out (by omega) w10 (HT.out.below HQ10.out.below hl.out.1 hl.out.2) HQ10.out.gath.bytes).mono ?_
      rintro e w11 ⟨rfl, hb11⟩
      have HQ11 : Hid (QRel M w w11 B0 hb N' (.slice x6 N' y6)) := HQ10.out.next hb11
      clear hb11 HQ10
      go_wp2
      go_roundw
      case rel =>
        refine ⟨k + 1, hlt, by simp, ?_⟩
        rw [HN1.out, ← HN2.out]; exact HQ11.out
      case measure => simp [intOf]; omega
theorem shaPiecesProof.walk (a0 : Option Addr) (len0 cap0 : Nat) (ad : Nat → Option Addr) (ln cp : Nat → Nat) (m : Nat → Nat → BitVec 8) {w : World}
    (hc : 0 < len0 → ∃ pb po, a0 = some ⟨pb, po, none⟩ ∧ pb < w.heap.size ∧ ∀ i, i < len0 → w.cell? ⟨pb, po + i, none⟩ = some (.slice (ad i) (ln i) (cp i)))
    (hb : ∀ i, i < len0 → Bytes w (.slice (ad i) (ln i) (cp i)) (ln i) (m i) w.heap.size) (W : World) (hT : Tabs w K256 H256) (hk : total ln len0 + len0 ≤ 1048576) :
    Calls Tryd.prog 5 #[.slice a0 len0 cap0] w fun e w' => e = .returned (.bool true) ∧ Below w.heap.size w w' :=
  shaPieces_walk (joined ln m len0) (total ln) ln cp ad a0 len0 cap0 w hT hc (fun i hi => (hb i hi).congr (fun j hj => (joined_at ln m len0 i hi j hj).symm)) rfl (fun _ _ => rfl)
    (fun i hi => by have := total_mono ln len0 hi; omega) (by omega)
end Go.Proofs.YtfoonaobadokcaaDoor
