/- The reference's Restart. -/
import Derived.Test.YtmlialabdijcoaaDskS
namespace Go.Proofs.Ytmlialabdijcoaa
open Go Go.RowKit
set_option linter.unusedSimpArgs false
set_option linter.unusedVariables false
set_option maxRecDepth 100000

theorem SB.cell {w : World} {gs n i k : Nat} {st : Nat → List Int} (h : SB w gs n st) (hi : i < n) (hk : k < 64) : w.cell? ⟨gs, i * 64 + k, none⟩ = some (.int .u8 (gi (st i) k)) ∧ w.frozen? ⟨gs, i * 64 + k, none⟩ = false := by
  refine ⟨h.at' i hi k _ (bv_get _ (by rw [h.len i hi]; exact hk)), ((h.there hi) k hk).2⟩
theorem SB.set {w : World} {gs n i k : Nat} {st : Nat → List Int} (h : SB w gs n st) (hi : i < n) (hk : k < 64) (z : Int) : SB (w.setCell ⟨gs, i * 64 + k, none⟩ (.int .u8 z)) gs n (upd st i ((st i).set k z)) := by
  obtain ⟨cur, h1, h2⟩ := h.blk
  have hb := heap_setCell_same (j := i * 64 + k) h1 (.int .u8 z)
  refine ⟨⟨_, hb, by simp [h2]⟩, fun j hj => ?_, fun j hj m u hu => ?_⟩
  · unfold upd; split
    · simp [h.len i hi]
    · exact h.len j hj
  · have hm : m < 64 := by
      have := (List.getElem?_eq_some_iff.1 hu).1
      rw [bv_length] at this
      unfold upd at this
      split at this
      · simpa [h.len i hi] using this
      · rwa [h.len j hj] at this
    rw [cell_of_row _ gs _ _ _ _ hb, Array.getElem?_setIfInBounds]
    have hold : cur[j * 64 + m]? = w.cell? ⟨gs, j * 64 + m, none⟩ := (cell_of_row w gs _ cur _ _ h1).symm
    unfold upd at hu
    by_cases e : j = i
    · subst e
      rw [if_pos rfl, bv_get', ] at hu
      obtain ⟨y, hy, rfl⟩ := hu
      by_cases e' : k = m
      · subst e'
        rw [if_pos rfl, if_pos (by omega)]
        rw [List.getElem?_set, if_pos rfl, if_pos (by rw [h.len j hj]; exact hk)] at hy
        cases hy; rfl
      · rw [if_neg (by omega), hold]
        rw [List.getElem?_set, if_neg e'] at hy
        exact h.at' j hj m _ (bv_get'.2 ⟨y, hy, rfl⟩)
    · rw [if_neg e] at hu
      rw [if_neg (by omega), hold]
      exact h.at' j hj m u hu
theorem wc_cell {w : World} {b m : Nat} {p : Nat × List Int} (h : w.rangeAt b 0 (wc p)) (hm : m < p.2.length) : w.cell? ⟨b, 1 + m, none⟩ = some (.int .u8 (gi p.2 m)) := by
  have := h (m + 1) (.int .u8 (gi p.2 m)) (by rw [wc, List.getElem?_cons_succ]; exact bv_get _ hm)
  rwa [show 0 + (m + 1) = 1 + m by omega] at this
theorem Sl.lies' {w : World} {ad : Option Addr} {n cap : Nat} {xs : List Int} (h : Sl w (.slice ad n cap) xs) {k : Nat} (hk : k < xs.length) : ∃ b o, ad = some ⟨b, o, none⟩ ∧ b < w.heap.size ∧ w.cell? ⟨b, o + k, none⟩ = some (.int .u8 (gi xs k)) := by
  obtain ⟨a1, c1, e1, -, h1⟩ := h
  cases e1
  rcases h1 with ⟨h1, -⟩ | ⟨b, o, h1, h2, h3⟩
  · rw [h1] at hk; simp at hk
  · exact ⟨b, o, h1, h2, h3 k hk⟩
/-- Which bytes of a torn write are written. -/
def sel (c : Int) (m : Nat) : Bool := decide (c = 1) || (decide (c = 2) && decide (m < 32)) || (decide (c = 3) && decide (32 ≤ m))
/-- The first k bytes looked at. -/
def tearK (c : Int) (o x : List Int) (k : Nat) : List Int := (List.range 64).map (fun m => if m < k ∧ sel c m = true then gi x m else gi o m)
theorem tearK_length (c : Int) (o x : List Int) (k : Nat) : (tearK c o x k).length = 64 := by simp [tearK]
theorem tearK_get (c : Int) (o x : List Int) (k : Nat) {m : Nat} (h : m < 64) : (tearK c o x k)[m]? = some (if m < k ∧ sel c m = true then gi x m else gi o m) := by simp [tearK, h]
theorem list_of_gi {a b : List Int} (ha : a.length = 64) (hb : b.length = 64) (h : ∀ m, m < 64 → a[m]? = b[m]?) : a = b := by
  apply List.ext_getElem?
  intro m
  by_cases hm : m < 64
  · exact h m hm
  · rw [List.getElem?_eq_none (by omega), List.getElem?_eq_none (by omega)]
theorem get_gi {a : List Int} {m : Nat} (h : m < a.length) : a[m]? = some (gi a m) := by rw [gi_get h, List.getElem?_eq_getElem h]
theorem tearK_zero (c : Int) {o : List Int} (x : List Int) (ho : o.length = 64) : tearK c o x 0 = o := list_of_gi (tearK_length _ _ _ _) ho (fun m hm => by rw [tearK_get c o x 0 hm, if_neg (by omega), get_gi (by omega)])
theorem tearK_set {c : Int} {o x : List Int} {k : Nat} (hk : k < 64) (hs : sel c k = true) : (tearK c o x k).set k (gi x k) = tearK c o x (k + 1) := by
  refine list_of_gi (by simp [tearK_length]) (tearK_length _ _ _ _) (fun m hm => ?_)
  rw [List.getElem?_set, tearK_get c o x (k + 1) hm]
  by_cases e : k = m
  · subst e; rw [if_pos rfl, if_pos (by rw [tearK_length]; exact hk), if_pos ⟨by omega, hs⟩]
  · rw [if_neg e, tearK_get c o x k hm]
    congr 1
    by_cases h : m < k ∧ sel c m = true
    · rw [if_pos h, if_pos ⟨by omega, h.2⟩]
    · rw [if_neg h, if_neg (by intro q; exact h ⟨by omega, q.2⟩)]
theorem tearK_stay {c : Int} {o x : List Int} {k : Nat} (hs : sel c k = false) : tearK c o x (k + 1) = tearK c o x k := by
  refine list_of_gi (tearK_length _ _ _ _) (tearK_length _ _ _ _) (fun m hm => ?_)
  rw [tearK_get c o x (k + 1) hm, tearK_get c o x k hm]
  congr 1
  by_cases h : m < k ∧ sel c m = true
  · rw [if_pos h, if_pos ⟨by omega, h.2⟩]
  · rw [if_neg h, if_neg (by
      intro q
      by_cases e : m = k
      · subst e; rw [hs] at q; exact absurd q.2 (by simp)
      · exact h ⟨by omega, q.2⟩)]
theorem tearK_all (c : Int) {o x : List Int} (ho : o.length = 64) (hx : x.length = 64) : tearK c o x 64 = tear c o x := by
  refine list_of_gi (tearK_length _ _ _ _) (tear_length c ho hx) (fun m hm => ?_)
  rw [tearK_get c o x 64 hm]
  have gx := get_gi (a := x) (m := m) (by omega)
  have go := get_gi (a := o) (m := m) (by omega)
  unfold tear sel
  by_cases c1 : c = 1
  · simp [c1, hm, gx]
  · by_cases c2 : c = 2
    · subst c2
      by_cases h : m < 32
      · simp [hm, h, gx, List.getElem?_append, hx]; first | done | exact gi_get (by omega)
      · simp [hm, h, List.getElem?_append, hx]
        rw [show 32 + (m - 32) = m by omega, go]
    · by_cases c3 : c = 3
      · subst c3
        by_cases h : 32 ≤ m
        · simp [hm, h, List.getElem?_append, ho]
          first | exact gx.symm | (rw [if_neg (by omega), show 32 + (m - 32) = m by omega, gx])
        · simp [hm, h, List.getElem?_append, ho]
          first | exact go.symm | (rw [if_pos (by omega), List.getElem?_take, if_pos (by omega), go])
      · simp [c1, c2, c3, go]
theorem upd_upd (st : Nat → List Int) (i : Nat) (a b : List Int) : upd (upd st i a) i b = upd st i b := by
  funext j; unfold upd; split <;> rfl
variable {F : Nat → Prop} {w : World} {g : Nat} {s : Dk} {gs : Nat} {wv : Value} {fz : Int}
/-- Between two writes. -/
def TX (F : Nat → Prop) (w0 w : World) (g : Nat) (s : Dk) (cs : List Int) (gs : Nat) (wv : Value) (fz : Int) (k : Nat) : Prop := QX F w g { s with st := rsK s.st s.wt cs k } gs wv fz ∧ Chg F w0 w
/-- Within one write: its first m bytes are looked at. -/
def TM (F : Nat → Prop) (w0 w : World) (g : Nat) (s : Dk) (cs : List Int) (gs : Nat) (wv : Value) (fz : Int) (k b5 : Nat) (p : Nat × List Int) (c : Int) (m : Nat) : Prop :=
  QX F w g { s with st := upd (rsK s.st s.wt cs k) p.1 (tearK c (rsK s.st s.wt cs k p.1) p.2 m) } gs wv fz ∧ Chg F w0 w ∧ w.rangeAt b5 0 (wc p)
def tΩ (F : Nat → Prop) (w0 : World) (g : Nat) (s : Dk) (cs : List Int) (gs : Nat) (wv : Value) (fz : Int) (k b5 : Nat) (p : Nat × List Int) (c : Int) (m : Nat) : Nat → (Nat → Value) → World → Prop
  | 0, _, w => TM F w0 w g s cs gs wv fz k b5 p c m
  | _, _, w => TM F w0 w g s cs gs wv fz k b5 p c (m + 1)
def tf (g gs b5 m : Nat) (s : Dk) (p : Nat × List Int) : Nat → Value
  | 0 => .pointer (some ⟨g, 0, none⟩)
  | 1 => .pointer (some ⟨g, 0, none⟩)
  | 2 => .pointer (some ⟨g, 0, none⟩)
  | 3 => .slice (some ⟨gs, 0, none⟩) s.n s.n
  | 4 => .pointer (some ⟨b5, 0, none⟩)
  | 5 => .int .i64 (p.1 : Int)
  | 6 => .int .i64 (m : Int)
  | 7 => .int .i64 (m : Int)
  | 8 => .pointer (some ⟨b5, 1, none⟩)
  | 9 => .pointer (some ⟨b5, 1 + m, none⟩)
  | 10 => .int .u8 (gi p.2 m)
  | 11 => .pointer (some ⟨gs, p.1 * 64, none⟩)
  | 12 => .pointer (some ⟨gs, p.1 * 64 + m, none⟩)
  | _ => undef
theorem TM.step {w0 : World} {cs : List Int} {k b5 m : Nat} {p : Nat × List Int} {c : Int} (h : TM F w0 w g s cs gs wv fz k b5 p c m) (hp : p.1 < s.n) (hm : m < 64) (hs : sel c m = true) (hb : b5 ≠ gs) :
    TM F w0 (w.setCell ⟨gs, p.1 * 64 + m, none⟩ (.int .u8 (gi p.2 m))) g s cs gs wv fz k b5 p c (m + 1) := by
  obtain ⟨h, hc, hr⟩ := h
  have hne : ∀ c, c ≠ gs → (w.setCell ⟨gs, p.1 * 64 + m, none⟩ (.int .u8 (gi p.2 m))).heap[c]? = w.heap[c]? := fun c hc => Below.heap_setCell _ _ _ _ hc
  have hz : (w.setCell ⟨gs, p.1 * 64 + m, none⟩ (.int .u8 (gi p.2 m))).heap.size = w.heap.size := by simp [World.setCell]
  refine ⟨⟨h.db.keep (hne g h.ggs), h.fz, ?_, h.wb.keep (fun c hc => hne c (fun e => h.wgs (by rw [hc, e]))), h.ggs, h.wg, h.wgs, h.Fg, h.Fgs, h.Fw, fun b hb => by rw [hz]; exact h.Flt b hb, h.n1, h.n2⟩, hc.setCell h.Fgs, fun j u hu => (World.cell?_of_block (w := w) (a := ⟨b5, 0 + j, none⟩) (hne b5 hb)).trans (hr j u hu)⟩
  have : SB (w.setCell ⟨gs, p.1 * 64 + m, none⟩ (.int .u8 (gi p.2 m))) gs s.n (upd (upd (rsK s.st s.wt cs k) p.1 (tearK c (rsK s.st s.wt cs k p.1) p.2 m)) p.1 ((upd (rsK s.st s.wt cs k) p.1 (tearK c (rsK s.st s.wt cs k p.1) p.2 m) p.1).set m (gi p.2 m))) := h.sb.set hp hm (gi p.2 m)
  show SB _ gs s.n (upd (rsK s.st s.wt cs k) p.1 (tearK c (rsK s.st s.wt cs k p.1) p.2 (m + 1)))
  rw [← tearK_set hm hs]
  rw [upd_upd] at this
  have e : upd (rsK s.st s.wt cs k) p.1 (tearK c (rsK s.st s.wt cs k p.1) p.2 m) p.1 = tearK c (rsK s.st s.wt cs k p.1) p.2 m := by unfold upd; rw [if_pos rfl]
  rw [e] at this
  exact this
theorem TM.stay {w0 : World} {cs : List Int} {k b5 m : Nat} {p : Nat × List Int} {c : Int} (h : TM F w0 w g s cs gs wv fz k b5 p c m) (hs : sel c m = false) : TM F w0 w g s cs gs wv fz k b5 p c (m + 1) := by
  unfold TM at h ⊢
  rw [tearK_stay hs]; exact h
theorem TM.start {w0 : World} {cs : List Int} {k b5 : Nat} {p : Nat × List Int} (c : Int) (h : TX F w0 w g s cs gs wv fz k) (hp : p.1 < s.n) (hr : w.rangeAt b5 0 (wc p)) : TM F w0 w g s cs gs wv fz k b5 p c 0 := by
  unfold TM
  rw [tearK_zero c _ (h.1.sb.len p.1 hp), upd_self]
  exact ⟨h.1, h.2, hr⟩
theorem TM.done {w0 : World} {cs : List Int} {k b5 : Nat} {p : Nat × List Int} {c : Int} (h : TM F w0 w g s cs gs wv fz k b5 p c 64) (hp : s.wt[k]? = some p) (hc : c = gi cs k ∧ (rsK s.st s.wt cs k p.1).length = 64) (hx : p.2.length = 64) : TX F w0 w g s cs gs wv fz (k + 1) := by
  unfold TM at h
  unfold TX
  rw [tearK_all c hc.2 hx, hc.1] at h
  rw [rsK_step hp]
  exact ⟨h.1, h.2.1⟩
theorem zero_rwrite (w : World) : (zeroValue 61).run Try.prog w = .ok (.agg (wc (0, z64)).toArray) w := by kernel_rfl
theorem size_rwrite : (Try.prog.info? 61).map (·.size) = some 65 := by kernel_rfl
theorem rwrite_start {w W : World} {p : Nat × List Int} (hp : p.2.length = 64) (eW : (w.alloc (.cells (wc (0, z64)).toArray 61)).setCells w.heap.size 0 (wc p) = W) : Hid (Below w.heap.size w W ∧ W.rangeAt w.heap.size 0 (wc p)) := by
  have h1 : (w.alloc (.cells (wc (0, z64)).toArray 61)).there w.heap.size 0 65 := there_of_row' (cs := (wc (0, z64)).toArray) (t := 61) (by rw [World.alloc]; simp only [Array.getElem?_push, if_true]) 0 65 (by rw [List.size_toArray, wc_length z64_length]; omega)
  subst eW
  exact ⟨below_setCells _ (Nat.le_refl _) _ _ _ ((Below.refl _ _).alloc (Nat.le_refl _) _), World.rangeAt_setCells_same _ _ _ _ (by rw [wc_length hp]; exact h1)⟩
theorem rwrite_there (w : World) {p : Nat × List Int} (hp : p.2.length = 64) : (w.alloc (.cells (wc (0, z64)).toArray 61)).there w.heap.size 0 (wc p).toArray.size := by
  have e : (wc p).toArray.size = 65 := wc_length hp
  rw [e]
  exact there_of_row' (cs := (wc (0, z64)).toArray) (t := 61) (by rw [World.alloc]; simp only [Array.getElem?_push, if_true]) 0 65 (by rw [List.size_toArray, wc_length z64_length]; omega)
theorem rwrite_size {p : Nat × List Int} (hp : p.2.length = 64) : (Try.prog.info? 61).map (·.size) = some (wc p).toArray.size := by rw [List.size_toArray, wc_length hp]; exact size_rwrite
theorem TX.keep {w0 w' : World} {cs : List Int} {k : Nat} (h : TX F w0 w g s cs gs wv fz k) (hb : Below w.heap.size w w') : TX F w0 w' g s cs gs wv fz k :=
  ⟨h.1.keep hb.size (fun b hb' => hb.block b (h.1.Flt b hb')), h.2.trans (Chg.ofBelow hb)⟩
set_option maxHeartbeats 8000000 in
theorem rrestart_QX (h : QX F w g s gs wv fz) (cs : List Int) (cv : Value) (hc : Sl w cv cs) (hF : ∀ b, cv.ownBlock = some b → cs ≠ [] → ¬ F b) (hcl : cs.length ≤ 140737488355328) :
    Calls Try.prog 24 #[.pointer (some ⟨g, 0, none⟩), cv] w fun e w' => e = .returned (.tuple #[]) ∧ QAft F w w' g (rsS s cs) := by
  have H : Hid (QX F w g s gs wv fz) := h
  have HCS : Hid (Sl w cv cs) := hc
  have HF : Hid (∀ b, cv.ownBlock = some b → cs ≠ [] → ¬ F b) := hF
  obtain ⟨ad, cap, hv, hcap, hn0, -⟩ := h.wb.shape
  obtain ⟨k0, k1, -, -, -⟩ := h.db.cells
  have hle := h.wb.le
  obtain ⟨cad, ccap, hcv, hccap, -⟩ := hc
  subst hv
  subst hcv
  have H0 : Hid (TX F w w g s cs gs (.slice ad s.wt.length cap) fz 0) := ⟨h, Chg.refl _ _⟩
  clear h hF
  have hz := zero_rwrite
  go_enter Try.func24, Try.ntmps24
  go_wp2_with fail
  go_loopw [13] (fun q wr => ∃ k : Nat, k ≤ s.wt.length ∧ q = .int .i64 (k : Int) ∧ Hid (TX F w wr g s cs gs (.slice ad s.wt.length cap) fz k)) (fun q _ => s.wt.length - (intOf q).toNat)
  case atStart => exact ⟨0, Nat.zero_le _, rfl, H0⟩
  case round =>
    obtain ⟨k, hk, rfl, HK⟩ := hrel
    obtain ⟨-, k1, -, -, -⟩ := HK.out.1.db.cells
    by_cases hlt : k < s.wt.length
    · obtain ⟨p, hp⟩ : ∃ p, s.wt[k]? = some p := ⟨s.wt[k], List.getElem?_eq_getElem hlt⟩
      cases ad with
      | none => rw [hn0 rfl] at hp; simp at hp
      | some ad =>
        obtain ⟨ad', cap', hv', -, -, hsh⟩ := HK.out.1.wb.shape
        cases hv'
        obtain ⟨b, rfl, hb, hmm⟩ := hsh ad rfl
        have HR : Hid (wr.rangeAt b (k * 65) (wc p)) := hmm k p hp
        have HP : Hid (s.wt[k]? = some p) := hp
        have hok := H.out.wb.ok p (List.mem_of_getElem? hp)
        have HO : Hid (p.1 < s.n ∧ p.2.length = 64) := hok
        have HCk : Hid (Sl wr (.slice cad cs.length ccap) cs) := HCS.out.chg HK.out.2 HF.out
        have HLK : Hid ((rsK s.st s.wt cs k p.1).length = 64) := HK.out.1.sb.len p.1 hok.1
        have HGS : Hid (gs < wr.heap.size) := HK.out.1.sb.lt
        clear hmm hsh hp hok hn0 hb
        by_cases hkc : k < cs.length
        · obtain ⟨cb, co, rfl, hcb, hcc⟩ := Sl.lies' HCk.out hkc
          have HCC : Hid (cb < wr.heap.size ∧ wr.cell? ⟨cb, co + k, none⟩ = some (.int .u8 (gi cs k))) := ⟨hcb, hcc⟩
          clear hcb hcc
          have hkc' : (k : Int) < (cs.length : Int) := by omega
          go_wp2_with (first
            | (refine wpList_load_mid rfl 61 _ rfl b (k * 65) rfl (wc p) _ HR.out Try.underlying61 rfl (by rw [wc_length HO.out.2]; exact size_rwrite) ?_)
            | (refine wpList_store_mid rfl 61 _ _ rfl wr.heap.size 0 (wc p).toArray rfl rfl (rwrite_there wr HO.out.2) (rwrite_size HO.out.2) (all_oneCell_toArray (wc_one p)) ?_; generalize hW3 : World.setCells _ _ _ _ = W3; have H3 := rwrite_start HO.out.2 hW3; clear hW3; have HK3 : Hid (TX F w W3 g s cs gs (.slice (some ⟨b, 0, none⟩) s.wt.length cap) fz k) := HK.out.keep H3.out.1; have hcell := (World.cell?_of_block (w := wr) (w' := W3) (a := ⟨cb, co + k, none⟩) (H3.out.1.block cb HCC.out.1)).trans HCC.out.2; generalize hgc : gi cs k = c at hcell; have HC : Hid (c = gi cs k ∧ (rsK s.st s.wt cs k p.1).length = 64) := ⟨hgc.symm, HLK.out⟩; clear hgc; generalize hb5 : wr.heap.size = b5 at H3 ⊢; have HB5 : Hid (b5 ≠ gs) := (by intro e; have := HGS.out; omega : b5 ≠ gs); clear hb5; have HM0 : Hid (TM F w W3 g s cs gs (.slice (some ⟨b, 0, none⟩) s.wt.length cap) fz k b5 p c 0) := TM.start c HK3.out HO.out.1 H3.out.2))
          go_loopw [31] (fun q wq => ∃ m : Nat, m ≤ 64 ∧ q = .int .i64 (m : Int) ∧ Hid (TM F w wq g s cs gs (.slice (some ⟨b, 0, none⟩) s.wt.length cap) fz k b5 p c m)) (fun q _ => 64 - (intOf q).toNat)
          case atStart => exact ⟨0, Nat.zero_le _, rfl, HM0⟩
          case round =>
            obtain ⟨m, hm, rfl, HM⟩ := hrel
            by_cases hml : m < 64
            · by_cases c1 : c = 1
              · subst c1
                have HSEL : Hid (sel 1 m = true) := rfl
                go_wp2_with fail
                refine RT.wp_rgn' [13] (tf g gs b5 m s p) sK (tΩ F w g s cs gs (.slice (some ⟨b, 0, none⟩) s.wt.length cap) fz k b5 p 1 m) (by kernel_rfl) (by kernel_rfl) ?_ ?_ ?_
                · exact ⟨HM.out.1.keep (Nat.le_refl _) (fun _ _ => rfl), HM.out.2.1.trans ⟨rfl, rfl, rfl, Nat.le_refl _, fun _ _ _ => rfl⟩, fun j u hu => HM.out.2.2 j u hu⟩
                · refine ⟨?_, ?_, ?_, ?_, ?_, ?_, ?_, ?_, ?_, ?_, ?_, ?_, ?_, ?_, trivial⟩
                  · refine RT.ObT.pure rfl rfl rfl (fun a U hf hp ev he hc W => ?_)
                    have q0 : ev (.tmp 0) = .pointer (some ⟨g, 0, none⟩) := (he (.tmp 0)).trans (hf 0 rfl)
                    simp only [List.getElem_toArray, List.getElem_cons_succ, List.getElem_cons_zero, execOp]; rw [q0]
                    first | rfl | (go_simp; done) | (go_simp; rfl)
                  · refine RT.ObT.pure rfl rfl rfl (fun a U hf hp ev he hc W => ?_)
                    have q52 : ev (.tmp 52) = .pointer (some ⟨g, 0, none⟩) := (he (.tmp 52)).trans (hp 0 52 rfl)
                    simp only [List.getElem_toArray, List.getElem_cons_succ, List.getElem_cons_zero, execOp]; rw [q52]
                    first | rfl | (go_simp; done) | (go_simp; rfl)
                  · refine RT.ObT.pure rfl rfl rfl (fun a U hf hp ev he hc W => ?_)
                    have q53 : ev (.tmp 53) = .pointer (some ⟨g, 0, none⟩) := (he (.tmp 53)).trans (hp 1 53 rfl)
                    simp only [List.getElem_toArray, List.getElem_cons_succ, List.getElem_cons_zero, execOp]; rw [q53]
                    first | rfl | (go_simp; done) | (go_simp; rfl)
                  · refine RT.ObT.silent rfl (fun a W k0 U hO hf hp hk => ?_)
                    have hk0 : k0 ≤ 0 := hk
                    obtain rfl : k0 = 0 := by omega
                    have hc1 := hO.1.db.cells.1
                    refine RT.ob_val rfl (RT.wanted_none rfl) (fun ev he hc => ?_) ⟨rfl, hO⟩
                    have q54 : ev (.tmp 54) = .pointer (some ⟨g, 0, none⟩) := (he (.tmp 54)).trans (hp 2 54 rfl)
                    simp only [List.getElem_toArray, List.getElem_cons_succ, List.getElem_cons_zero, execOp]; rw [q54]; go_simp; rfl
                  · refine RT.ObT.pure rfl rfl rfl (fun a U hf hp ev he hc W => ?_)
                    have q5 : ev (.tmp 5) = .pointer (some ⟨b5, 0, none⟩) := (he (.tmp 5)).trans (hf 5 rfl)
                    simp only [List.getElem_toArray, List.getElem_cons_succ, List.getElem_cons_zero, execOp]; rw [q5]
                    first | rfl | (go_simp; done) | (go_simp; rfl)
                  · refine RT.ObT.silent rfl (fun a W k0 U hO hf hp hk => ?_)
                    have hk0 : k0 ≤ 0 := hk
                    obtain rfl : k0 = 0 := by omega
                    have hc1 := (show W.cell? ⟨b5, 0, none⟩ = some (.int .i64 (p.1 : Int)) from hO.2.2 0 _ rfl)
                    refine RT.ob_val rfl (RT.wanted_none rfl) (fun ev he hc => ?_) ⟨rfl, hO⟩
                    have q56 : ev (.tmp 56) = .pointer (some ⟨b5, 0, none⟩) := (he (.tmp 56)).trans (hp 4 56 rfl)
                    simp only [List.getElem_toArray, List.getElem_cons_succ, List.getElem_cons_zero, execOp]; rw [q56]; go_simp; rfl
                  · refine RT.ObT.pure rfl rfl rfl (fun a U hf hp ev he hc W => ?_)
                    have q7 : ev (.tmp 7) = .int .i64 (m : Int) := (he (.tmp 7)).trans (hf 7 rfl)
                    simp only [List.getElem_toArray, List.getElem_cons_succ, List.getElem_cons_zero, execOp]; rw [q7]
                    first | rfl | (go_simp; done) | (go_simp; rfl)
                  · refine RT.ObT.pure rfl rfl rfl (fun a U hf hp ev he hc W => ?_)
                    have q7 : ev (.tmp 7) = .int .i64 (m : Int) := (he (.tmp 7)).trans (hf 7 rfl)
                    simp only [List.getElem_toArray, List.getElem_cons_succ, List.getElem_cons_zero, execOp]; rw [q7]
                    first | rfl | (go_simp; done) | (go_simp; rfl)
                  · refine RT.ObT.pure rfl rfl rfl (fun a U hf hp ev he hc W => ?_)
                    have q5 : ev (.tmp 5) = .pointer (some ⟨b5, 0, none⟩) := (he (.tmp 5)).trans (hf 5 rfl)
                    simp only [List.getElem_toArray, List.getElem_cons_succ, List.getElem_cons_zero, execOp]; rw [q5]
                    first | rfl | (go_simp; done) | (go_simp; rfl)
                  · refine RT.ObT.pure rfl rfl rfl (fun a U hf hp ev he hc W => ?_)
                    have q1 : ev (.tmp 60) = .pointer (some ⟨b5, 1, none⟩) := (he (.tmp 60)).trans (hp 8 60 rfl)
                    have q2 : ev (.tmp 59) = .int .i64 (m : Int) := (he (.tmp 59)).trans (hp 7 59 rfl)
                    have hi1 : ((m : Nat) : Int) < 64 := by have := HO.out.1; omega
                    simp only [List.getElem_toArray, List.getElem_cons_succ, List.getElem_cons_zero, execOp]; rw [q1, q2]; go_simp; rfl
                  · refine RT.ObT.silent rfl (fun a W k0 U hO hf hp hk => ?_)
                    have hk0 : k0 ≤ 0 := hk
                    obtain rfl : k0 = 0 := by omega
                    have hc1 := (show W.cell? ⟨b5, 1 + m, none⟩ = some (.int .u8 (gi p.2 m)) from wc_cell hO.2.2 (by rw [HO.out.2]; omega))
                    refine RT.ob_val rfl (RT.wanted_none rfl) (fun ev he hc => ?_) ⟨rfl, hO⟩
                    have q61 : ev (.tmp 61) = .pointer (some ⟨b5, 1 + m, none⟩) := (he (.tmp 61)).trans (hp 9 61 rfl)
                    simp only [List.getElem_toArray, List.getElem_cons_succ, List.getElem_cons_zero, execOp]; rw [q61]; go_simp; rfl
                  · refine RT.ObT.pure rfl rfl rfl (fun a U hf hp ev he hc W => ?_)
                    have q1 : ev (.tmp 55) = .slice (some ⟨gs, 0, none⟩) s.n s.n := (he (.tmp 55)).trans (hp 3 55 rfl)
                    have q2 : ev (.tmp 57) = .int .i64 (p.1 : Int) := (he (.tmp 57)).trans (hp 5 57 rfl)
                    have hi1 : ((p.1 : Nat) : Int) < (s.n : Int) := by have := HO.out.1; omega
                    simp only [List.getElem_toArray, List.getElem_cons_succ, List.getElem_cons_zero, execOp]; rw [q1, q2]; go_simp; rfl
                  · refine RT.ObT.pure rfl rfl rfl (fun a U hf hp ev he hc W => ?_)
                    have q1 : ev (.tmp 63) = .pointer (some ⟨gs, p.1 * 64, none⟩) := (he (.tmp 63)).trans (hp 11 63 rfl)
                    have q2 : ev (.tmp 58) = .int .i64 (m : Int) := (he (.tmp 58)).trans (hp 6 58 rfl)
                    have hi1 : ((m : Nat) : Int) < 64 := by have := HO.out.1; omega
                    simp only [List.getElem_toArray, List.getElem_cons_succ, List.getElem_cons_zero, execOp]; rw [q1, q2]; go_simp; rfl
                  · refine RT.ObT.loud (j := 0) rfl (fun a W U hO hf hp => ?_)
                    obtain ⟨hc1, hf1⟩ := hO.1.sb.cell HO.out.1 (k := m) (by omega)
                    refine RT.ob_skip (w' := W.setCell ⟨gs, p.1 * 64 + m, none⟩ (.int .u8 (gi p.2 m))) rfl (RT.wanted_none rfl) (fun ev he hc => ?_) ⟨_, rfl, hO.step HO.out.1 (by omega) HSEL.out HB5.out⟩
                    have e1 : ev (.tmp 64) = .pointer (some ⟨gs, p.1 * 64 + m, none⟩) := (he (.tmp 64)).trans (hp 12 64 rfl)
                    have e2 : ev (.tmp 62) = .int .u8 (gi p.2 m) := (he (.tmp 62)).trans (hp 10 62 rfl)
                    simp only [List.getElem_toArray, List.getElem_cons_succ, List.getElem_cons_zero, execOp]; rw [e1, e2]; go_simp
                · intro w' U hO
                  have HO' : Hid (TM F w w' g s cs gs (.slice (some ⟨b, 0, none⟩) s.wt.length cap) fz k b5 p 1 (m + 1)) := hO
                  clear hO
                  simp only [RT.lay, RT.val, RT.at', tf, Act.put]
                  go_wp2_with fail
                  exact ⟨⟨m + 1, hml, by go_num, HO'⟩, by simp [intOf]; omega⟩
              · by_cases c2 : c = 2
                · subst c2
                  by_cases hm32 : m < 32
                  · have hm32' : (m : Int) < 32 := by omega
                    have HSEL : Hid (sel 2 m = true) := by show sel 2 m = true; simp [sel, hm32]
                    go_wp2_with fail
                    refine RT.wp_rgn' [13] (tf g gs b5 m s p) sK (tΩ F w g s cs gs (.slice (some ⟨b, 0, none⟩) s.wt.length cap) fz k b5 p 2 m) (by kernel_rfl) (by kernel_rfl) ?_ ?_ ?_
                    · exact ⟨HM.out.1.keep (Nat.le_refl _) (fun _ _ => rfl), HM.out.2.1.trans ⟨rfl, rfl, rfl, Nat.le_refl _, fun _ _ _ => rfl⟩, fun j u hu => HM.out.2.2 j u hu⟩
                    · refine ⟨?_, ?_, ?_, ?_, ?_, ?_, ?_, ?_, ?_, ?_, ?_, ?_, ?_, ?_, trivial⟩
                      · refine RT.ObT.pure rfl rfl rfl (fun a U hf hp ev he hc W => ?_)
                        have q0 : ev (.tmp 0) = .pointer (some ⟨g, 0, none⟩) := (he (.tmp 0)).trans (hf 0 rfl)
                        simp only [List.getElem_toArray, List.getElem_cons_succ, List.getElem_cons_zero, execOp]; rw [q0]
                        first | rfl | (go_simp; done) | (go_simp; rfl)
                      · refine RT.ObT.pure rfl rfl rfl (fun a U hf hp ev he hc W => ?_)
                        have q52 : ev (.tmp 52) = .pointer (some ⟨g, 0, none⟩) := (he (.tmp 52)).trans (hp 0 52 rfl)
                        simp only [List.getElem_toArray, List.getElem_cons_succ, List.getElem_cons_zero, execOp]; rw [q52]
                        first | rfl | (go_simp; done) | (go_simp; rfl)
                      · refine RT.ObT.pure rfl rfl rfl (fun a U hf hp ev he hc W => ?_)
                        have q53 : ev (.tmp 53) = .pointer (some ⟨g, 0, none⟩) := (he (.tmp 53)).trans (hp 1 53 rfl)
                        simp only [List.getElem_toArray, List.getElem_cons_succ, List.getElem_cons_zero, execOp]; rw [q53]
                        first | rfl | (go_simp; done) | (go_simp; rfl)
                      · refine RT.ObT.silent rfl (fun a W k0 U hO hf hp hk => ?_)
                        have hk0 : k0 ≤ 0 := hk
                        obtain rfl : k0 = 0 := by omega
                        have hc1 := hO.1.db.cells.1
                        refine RT.ob_val rfl (RT.wanted_none rfl) (fun ev he hc => ?_) ⟨rfl, hO⟩
                        have q54 : ev (.tmp 54) = .pointer (some ⟨g, 0, none⟩) := (he (.tmp 54)).trans (hp 2 54 rfl)
                        simp only [List.getElem_toArray, List.getElem_cons_succ, List.getElem_cons_zero, execOp]; rw [q54]; go_simp; rfl
                      · refine RT.ObT.pure rfl rfl rfl (fun a U hf hp ev he hc W => ?_)
                        have q5 : ev (.tmp 5) = .pointer (some ⟨b5, 0, none⟩) := (he (.tmp 5)).trans (hf 5 rfl)
                        simp only [List.getElem_toArray, List.getElem_cons_succ, List.getElem_cons_zero, execOp]; rw [q5]
                        first | rfl | (go_simp; done) | (go_simp; rfl)
                      · refine RT.ObT.silent rfl (fun a W k0 U hO hf hp hk => ?_)
                        have hk0 : k0 ≤ 0 := hk
                        obtain rfl : k0 = 0 := by omega
                        have hc1 := (show W.cell? ⟨b5, 0, none⟩ = some (.int .i64 (p.1 : Int)) from hO.2.2 0 _ rfl)
                        refine RT.ob_val rfl (RT.wanted_none rfl) (fun ev he hc => ?_) ⟨rfl, hO⟩
                        have q56 : ev (.tmp 56) = .pointer (some ⟨b5, 0, none⟩) := (he (.tmp 56)).trans (hp 4 56 rfl)
                        simp only [List.getElem_toArray, List.getElem_cons_succ, List.getElem_cons_zero, execOp]; rw [q56]; go_simp; rfl
                      · refine RT.ObT.pure rfl rfl rfl (fun a U hf hp ev he hc W => ?_)
                        have q7 : ev (.tmp 7) = .int .i64 (m : Int) := (he (.tmp 7)).trans (hf 7 rfl)
                        simp only [List.getElem_toArray, List.getElem_cons_succ, List.getElem_cons_zero, execOp]; rw [q7]
                        first | rfl | (go_simp; done) | (go_simp; rfl)
                      · refine RT.ObT.pure rfl rfl rfl (fun a U hf hp ev he hc W => ?_)
                        have q7 : ev (.tmp 7) = .int .i64 (m : Int) := (he (.tmp 7)).trans (hf 7 rfl)
                        simp only [List.getElem_toArray, List.getElem_cons_succ, List.getElem_cons_zero, execOp]; rw [q7]
                        first | rfl | (go_simp; done) | (go_simp; rfl)
                      · refine RT.ObT.pure rfl rfl rfl (fun a U hf hp ev he hc W => ?_)
                        have q5 : ev (.tmp 5) = .pointer (some ⟨b5, 0, none⟩) := (he (.tmp 5)).trans (hf 5 rfl)
                        simp only [List.getElem_toArray, List.getElem_cons_succ, List.getElem_cons_zero, execOp]; rw [q5]
                        first | rfl | (go_simp; done) | (go_simp; rfl)
                      · refine RT.ObT.pure rfl rfl rfl (fun a U hf hp ev he hc W => ?_)
                        have q1 : ev (.tmp 60) = .pointer (some ⟨b5, 1, none⟩) := (he (.tmp 60)).trans (hp 8 60 rfl)
                        have q2 : ev (.tmp 59) = .int .i64 (m : Int) := (he (.tmp 59)).trans (hp 7 59 rfl)
                        have hi1 : ((m : Nat) : Int) < 64 := by have := HO.out.1; omega
                        simp only [List.getElem_toArray, List.getElem_cons_succ, List.getElem_cons_zero, execOp]; rw [q1, q2]; go_simp; rfl
                      · refine RT.ObT.silent rfl (fun a W k0 U hO hf hp hk => ?_)
                        have hk0 : k0 ≤ 0 := hk
                        obtain rfl : k0 = 0 := by omega
                        have hc1 := (show W.cell? ⟨b5, 1 + m, none⟩ = some (.int .u8 (gi p.2 m)) from wc_cell hO.2.2 (by rw [HO.out.2]; omega))
                        refine RT.ob_val rfl (RT.wanted_none rfl) (fun ev he hc => ?_) ⟨rfl, hO⟩
                        have q61 : ev (.tmp 61) = .pointer (some ⟨b5, 1 + m, none⟩) := (he (.tmp 61)).trans (hp 9 61 rfl)
                        simp only [List.getElem_toArray, List.getElem_cons_succ, List.getElem_cons_zero, execOp]; rw [q61]; go_simp; rfl
                      · refine RT.ObT.pure rfl rfl rfl (fun a U hf hp ev he hc W => ?_)
                        have q1 : ev (.tmp 55) = .slice (some ⟨gs, 0, none⟩) s.n s.n := (he (.tmp 55)).trans (hp 3 55 rfl)
                        have q2 : ev (.tmp 57) = .int .i64 (p.1 : Int) := (he (.tmp 57)).trans (hp 5 57 rfl)
                        have hi1 : ((p.1 : Nat) : Int) < (s.n : Int) := by have := HO.out.1; omega
                        simp only [List.getElem_toArray, List.getElem_cons_succ, List.getElem_cons_zero, execOp]; rw [q1, q2]; go_simp; rfl
                      · refine RT.ObT.pure rfl rfl rfl (fun a U hf hp ev he hc W => ?_)
                        have q1 : ev (.tmp 63) = .pointer (some ⟨gs, p.1 * 64, none⟩) := (he (.tmp 63)).trans (hp 11 63 rfl)
                        have q2 : ev (.tmp 58) = .int .i64 (m : Int) := (he (.tmp 58)).trans (hp 6 58 rfl)
                        have hi1 : ((m : Nat) : Int) < 64 := by have := HO.out.1; omega
                        simp only [List.getElem_toArray, List.getElem_cons_succ, List.getElem_cons_zero, execOp]; rw [q1, q2]; go_simp; rfl
                      · refine RT.ObT.loud (j := 0) rfl (fun a W U hO hf hp => ?_)
                        obtain ⟨hc1, hf1⟩ := hO.1.sb.cell HO.out.1 (k := m) (by omega)
                        refine RT.ob_skip (w' := W.setCell ⟨gs, p.1 * 64 + m, none⟩ (.int .u8 (gi p.2 m))) rfl (RT.wanted_none rfl) (fun ev he hc => ?_) ⟨_, rfl, hO.step HO.out.1 (by omega) HSEL.out HB5.out⟩
                        have e1 : ev (.tmp 64) = .pointer (some ⟨gs, p.1 * 64 + m, none⟩) := (he (.tmp 64)).trans (hp 12 64 rfl)
                        have e2 : ev (.tmp 62) = .int .u8 (gi p.2 m) := (he (.tmp 62)).trans (hp 10 62 rfl)
                        simp only [List.getElem_toArray, List.getElem_cons_succ, List.getElem_cons_zero, execOp]; rw [e1, e2]; go_simp
                    · intro w' U hO
                      have HO' : Hid (TM F w w' g s cs gs (.slice (some ⟨b, 0, none⟩) s.wt.length cap) fz k b5 p 2 (m + 1)) := hO
                      clear hO
                      simp only [RT.lay, RT.val, RT.at', tf, Act.put]
                      go_wp2_with fail
                      exact ⟨⟨m + 1, hml, by go_num, HO'⟩, by simp [intOf]; omega⟩
                  · have hm32' : ¬ (m : Int) < 32 := by omega
                    have HSEL : Hid (sel 2 m = false) := by show sel 2 m = false; simp [sel, hm32]
                    go_wp2_with fail
                    exact ⟨⟨m + 1, hml, by go_num, HM.out.stay HSEL.out⟩, by simp [intOf]; omega⟩
                · by_cases c3 : c = 3
                  · subst c3
                    by_cases hm32 : 32 ≤ m
                    · have hm32' : (m : Int) ≥ 32 := by omega
                      have HSEL : Hid (sel 3 m = true) := by show sel 3 m = true; simp [sel, hm32]
                      go_wp2_with fail
                      refine RT.wp_rgn' [13] (tf g gs b5 m s p) sK (tΩ F w g s cs gs (.slice (some ⟨b, 0, none⟩) s.wt.length cap) fz k b5 p 3 m) (by kernel_rfl) (by kernel_rfl) ?_ ?_ ?_
                      · exact ⟨HM.out.1.keep (Nat.le_refl _) (fun _ _ => rfl), HM.out.2.1.trans ⟨rfl, rfl, rfl, Nat.le_refl _, fun _ _ _ => rfl⟩, fun j u hu => HM.out.2.2 j u hu⟩
                      · refine ⟨?_, ?_, ?_, ?_, ?_, ?_, ?_, ?_, ?_, ?_, ?_, ?_, ?_, ?_, trivial⟩
                        · refine RT.ObT.pure rfl rfl rfl (fun a U hf hp ev he hc W => ?_)
                          have q0 : ev (.tmp 0) = .pointer (some ⟨g, 0, none⟩) := (he (.tmp 0)).trans (hf 0 rfl)
                          simp only [List.getElem_toArray, List.getElem_cons_succ, List.getElem_cons_zero, execOp]; rw [q0]
                          first | rfl | (go_simp; done) | (go_simp; rfl)
                        · refine RT.ObT.pure rfl rfl rfl (fun a U hf hp ev he hc W => ?_)
                          have q52 : ev (.tmp 52) = .pointer (some ⟨g, 0, none⟩) := (he (.tmp 52)).trans (hp 0 52 rfl)
                          simp only [List.getElem_toArray, List.getElem_cons_succ, List.getElem_cons_zero, execOp]; rw [q52]
                          first | rfl | (go_simp; done) | (go_simp; rfl)
                        · refine RT.ObT.pure rfl rfl rfl (fun a U hf hp ev he hc W => ?_)
                          have q53 : ev (.tmp 53) = .pointer (some ⟨g, 0, none⟩) := (he (.tmp 53)).trans (hp 1 53 rfl)
                          simp only [List.getElem_toArray, List.getElem_cons_succ, List.getElem_cons_zero, execOp]; rw [q53]
                          first | rfl | (go_simp; done) | (go_simp; rfl)
                        · refine RT.ObT.silent rfl (fun a W k0 U hO hf hp hk => ?_)
                          have hk0 : k0 ≤ 0 := hk
                          obtain rfl : k0 = 0 := by omega
                          have hc1 := hO.1.db.cells.1
                          refine RT.ob_val rfl (RT.wanted_none rfl) (fun ev he hc => ?_) ⟨rfl, hO⟩
                          have q54 : ev (.tmp 54) = .pointer (some ⟨g, 0, none⟩) := (he (.tmp 54)).trans (hp 2 54 rfl)
                          simp only [List.getElem_toArray, List.getElem_cons_succ, List.getElem_cons_zero, execOp]; rw [q54]; go_simp; rfl
                        · refine RT.ObT.pure rfl rfl rfl (fun a U hf hp ev he hc W => ?_)
                          have q5 : ev (.tmp 5) = .pointer (some ⟨b5, 0, none⟩) := (he (.tmp 5)).trans (hf 5 rfl)
                          simp only [List.getElem_toArray, List.getElem_cons_succ, List.getElem_cons_zero, execOp]; rw [q5]
                          first | rfl | (go_simp; done) | (go_simp; rfl)
                        · refine RT.ObT.silent rfl (fun a W k0 U hO hf hp hk => ?_)
                          have hk0 : k0 ≤ 0 := hk
                          obtain rfl : k0 = 0 := by omega
                          have hc1 := (show W.cell? ⟨b5, 0, none⟩ = some (.int .i64 (p.1 : Int)) from hO.2.2 0 _ rfl)
                          refine RT.ob_val rfl (RT.wanted_none rfl) (fun ev he hc => ?_) ⟨rfl, hO⟩
                          have q56 : ev (.tmp 56) = .pointer (some ⟨b5, 0, none⟩) := (he (.tmp 56)).trans (hp 4 56 rfl)
                          simp only [List.getElem_toArray, List.getElem_cons_succ, List.getElem_cons_zero, execOp]; rw [q56]; go_simp; rfl
                        · refine RT.ObT.pure rfl rfl rfl (fun a U hf hp ev he hc W => ?_)
                          have q7 : ev (.tmp 7) = .int .i64 (m : Int) := (he (.tmp 7)).trans (hf 7 rfl)
                          simp only [List.getElem_toArray, List.getElem_cons_succ, List.getElem_cons_zero, execOp]; rw [q7]
                          first | rfl | (go_simp; done) | (go_simp; rfl)
                        · refine RT.ObT.pure rfl rfl rfl (fun a U hf hp ev he hc W => ?_)
                          have q7 : ev (.tmp 7) = .int .i64 (m : Int) := (he (.tmp 7)).trans (hf 7 rfl)
                          simp only [List.getElem_toArray, List.getElem_cons_succ, List.getElem_cons_zero, execOp]; rw [q7]
                          first | rfl | (go_simp; done) | (go_simp; rfl)
                        · refine RT.ObT.pure rfl rfl rfl (fun a U hf hp ev he hc W => ?_)
                          have q5 : ev (.tmp 5) = .pointer (some ⟨b5, 0, none⟩) := (he (.tmp 5)).trans (hf 5 rfl)
                          simp only [List.getElem_toArray, List.getElem_cons_succ, List.getElem_cons_zero, execOp]; rw [q5]
                          first | rfl | (go_simp; done) | (go_simp; rfl)
                        · refine RT.ObT.pure rfl rfl rfl (fun a U hf hp ev he hc W => ?_)
                          have q1 : ev (.tmp 60) = .pointer (some ⟨b5, 1, none⟩) := (he (.tmp 60)).trans (hp 8 60 rfl)
                          have q2 : ev (.tmp 59) = .int .i64 (m : Int) := (he (.tmp 59)).trans (hp 7 59 rfl)
                          have hi1 : ((m : Nat) : Int) < 64 := by have := HO.out.1; omega
                          simp only [List.getElem_toArray, List.getElem_cons_succ, List.getElem_cons_zero, execOp]; rw [q1, q2]; go_simp; rfl
                        · refine RT.ObT.silent rfl (fun a W k0 U hO hf hp hk => ?_)
                          have hk0 : k0 ≤ 0 := hk
                          obtain rfl : k0 = 0 := by omega
                          have hc1 := (show W.cell? ⟨b5, 1 + m, none⟩ = some (.int .u8 (gi p.2 m)) from wc_cell hO.2.2 (by rw [HO.out.2]; omega))
                          refine RT.ob_val rfl (RT.wanted_none rfl) (fun ev he hc => ?_) ⟨rfl, hO⟩
                          have q61 : ev (.tmp 61) = .pointer (some ⟨b5, 1 + m, none⟩) := (he (.tmp 61)).trans (hp 9 61 rfl)
                          simp only [List.getElem_toArray, List.getElem_cons_succ, List.getElem_cons_zero, execOp]; rw [q61]; go_simp; rfl
                        · refine RT.ObT.pure rfl rfl rfl (fun a U hf hp ev he hc W => ?_)
                          have q1 : ev (.tmp 55) = .slice (some ⟨gs, 0, none⟩) s.n s.n := (he (.tmp 55)).trans (hp 3 55 rfl)
                          have q2 : ev (.tmp 57) = .int .i64 (p.1 : Int) := (he (.tmp 57)).trans (hp 5 57 rfl)
                          have hi1 : ((p.1 : Nat) : Int) < (s.n : Int) := by have := HO.out.1; omega
                          simp only [List.getElem_toArray, List.getElem_cons_succ, List.getElem_cons_zero, execOp]; rw [q1, q2]; go_simp; rfl
                        · refine RT.ObT.pure rfl rfl rfl (fun a U hf hp ev he hc W => ?_)
                          have q1 : ev (.tmp 63) = .pointer (some ⟨gs, p.1 * 64, none⟩) := (he (.tmp 63)).trans (hp 11 63 rfl)
                          have q2 : ev (.tmp 58) = .int .i64 (m : Int) := (he (.tmp 58)).trans (hp 6 58 rfl)
                          have hi1 : ((m : Nat) : Int) < 64 := by have := HO.out.1; omega
                          simp only [List.getElem_toArray, List.getElem_cons_succ, List.getElem_cons_zero, execOp]; rw [q1, q2]; go_simp; rfl
                        · refine RT.ObT.loud (j := 0) rfl (fun a W U hO hf hp => ?_)
                          obtain ⟨hc1, hf1⟩ := hO.1.sb.cell HO.out.1 (k := m) (by omega)
                          refine RT.ob_skip (w' := W.setCell ⟨gs, p.1 * 64 + m, none⟩ (.int .u8 (gi p.2 m))) rfl (RT.wanted_none rfl) (fun ev he hc => ?_) ⟨_, rfl, hO.step HO.out.1 (by omega) HSEL.out HB5.out⟩
                          have e1 : ev (.tmp 64) = .pointer (some ⟨gs, p.1 * 64 + m, none⟩) := (he (.tmp 64)).trans (hp 12 64 rfl)
                          have e2 : ev (.tmp 62) = .int .u8 (gi p.2 m) := (he (.tmp 62)).trans (hp 10 62 rfl)
                          simp only [List.getElem_toArray, List.getElem_cons_succ, List.getElem_cons_zero, execOp]; rw [e1, e2]; go_simp
                      · intro w' U hO
                        have HO' : Hid (TM F w w' g s cs gs (.slice (some ⟨b, 0, none⟩) s.wt.length cap) fz k b5 p 3 (m + 1)) := hO
                        clear hO
                        simp only [RT.lay, RT.val, RT.at', tf, Act.put]
                        go_wp2_with fail
                        exact ⟨⟨m + 1, hml, by go_num, HO'⟩, by simp [intOf]; omega⟩
                    · have hm32' : ¬ (m : Int) ≥ 32 := by omega
                      have HSEL : Hid (sel 3 m = false) := by show sel 3 m = false; simp [sel, hm32]
                      go_wp2_with fail
                      exact ⟨⟨m + 1, hml, by go_num, HM.out.stay HSEL.out⟩, by simp [intOf]; omega⟩
                  · have HSEL : Hid (sel c m = false) := by show sel c m = false; simp [sel, c1, c2, c3]
                    go_wp2_with fail
                    exact ⟨⟨m + 1, hml, by go_num, HM.out.stay HSEL.out⟩, by simp [intOf]; omega⟩
            · obtain rfl : m = 64 := by omega
              go_wp2_with fail
              exact ⟨⟨k + 1, hlt, by go_num, HM.out.done HP.out HC.out HO.out.2⟩, by simp [intOf]; omega⟩
        · have hkc' : ¬ (k : Int) < (cs.length : Int) := by omega
          have HG0 : Hid ((0 : Int) = gi cs k ∧ (rsK s.st s.wt cs k p.1).length = 64) := ⟨(gi_out (by omega)).symm, HLK.out⟩
          go_wp2_with (first
            | (refine wpList_load_mid rfl 61 _ rfl b (k * 65) rfl (wc p) _ HR.out Try.underlying61 rfl (by rw [wc_length HO.out.2]; exact size_rwrite) ?_)
            | (refine wpList_store_mid rfl 61 _ _ rfl wr.heap.size 0 (wc p).toArray rfl rfl (rwrite_there wr HO.out.2) (rwrite_size HO.out.2) (all_oneCell_toArray (wc_one p)) ?_; generalize hW3 : World.setCells _ _ _ _ = W3; have H3 := rwrite_start HO.out.2 hW3; clear hW3; have HK3 : Hid (TX F w W3 g s cs gs (.slice (some ⟨b, 0, none⟩) s.wt.length cap) fz k) := HK.out.keep H3.out.1; generalize hb5 : wr.heap.size = b5 at H3 ⊢; have HB5 : Hid (b5 ≠ gs) := (by intro e; have := HGS.out; omega : b5 ≠ gs); clear hb5; have HM0 : Hid (TM F w W3 g s cs gs (.slice (some ⟨b, 0, none⟩) s.wt.length cap) fz k b5 p 0 0) := TM.start 0 HK3.out HO.out.1 H3.out.2))
          go_loopw [31] (fun q wq => ∃ m : Nat, m ≤ 64 ∧ q = .int .i64 (m : Int) ∧ Hid (TM F w wq g s cs gs (.slice (some ⟨b, 0, none⟩) s.wt.length cap) fz k b5 p 0 m)) (fun q _ => 64 - (intOf q).toNat)
          case atStart => exact ⟨0, Nat.zero_le _, rfl, HM0⟩
          case round =>
            obtain ⟨m, hm, rfl, HM⟩ := hrel
            by_cases hml : m < 64
            · have HSEL : Hid (sel 0 m = false) := rfl
              go_wp2_with fail
              exact ⟨⟨m + 1, hml, by go_num, HM.out.stay HSEL.out⟩, by simp [intOf]; omega⟩
            · obtain rfl : m = 64 := by omega
              go_wp2_with fail
              exact ⟨⟨k + 1, hlt, by go_num, HM.out.done HP.out HG0.out HO.out.2⟩, by simp [intOf]; omega⟩
    · obtain rfl : k = s.wt.length := by omega
      have f1 := HK.out.1.db.froz 1
      have f3 := HK.out.1.db.froz 3
      have f4 := HK.out.1.db.froz 4
      obtain ⟨-, k1, -, k3, k4⟩ := HK.out.1.db.cells
      go_wp2_with fail
      go_end0
      have h := HK.out.1.cleared
      refine ⟨rfl, F, ⟨gs, .slice none 0 0, -1, ?_⟩, ((HK.out.2.setCell h.Fg).setCell h.Fg).setCell h.Fg, fun b hb => .inl hb⟩
      have hne : ∀ c, c ≠ g → (((wr.setCell ⟨g, 1, none⟩ (.slice none 0 0)).setCell ⟨g, 3, none⟩ (.int .i64 (-1))).setCell ⟨g, 4, none⟩ (.bool false)).heap[c]? = (wr.setCell ⟨g, 1, none⟩ (.slice none 0 0)).heap[c]? := fun c hc => (Below.heap_setCell _ _ _ _ hc).trans (Below.heap_setCell _ _ _ _ hc)
      have hs : (((wr.setCell ⟨g, 1, none⟩ (.slice none 0 0)).setCell ⟨g, 3, none⟩ (.int .i64 (-1))).setCell ⟨g, 4, none⟩ (.bool false)).heap.size = (wr.setCell ⟨g, 1, none⟩ (.slice none 0 0)).heap.size := by simp [World.setCell]
      exact ⟨(h.db.set3 (-1)).set4 false, rfl, h.sb.keep (hne gs (Ne.symm h.ggs)), ⟨World.ownsRow_nil _ _ _ _, fun p hp => by cases hp⟩, h.ggs, by simp [Value.ownBlock], by simp [Value.ownBlock], h.Fg, h.Fgs, fun b hb => by simp [Value.ownBlock] at hb, fun c hc => by rw [hs]; exact h.Flt c hc, h.n1, h.n2⟩
end Go.Proofs.Ytmlialabdijcoaa
