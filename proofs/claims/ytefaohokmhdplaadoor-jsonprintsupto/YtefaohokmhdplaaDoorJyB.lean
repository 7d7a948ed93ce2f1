/- Package json: texts put behind bytes. -/
import Derived.Test.YtefaohokmhdplaaDoorJsJ
import Derived.Test.YtefaohokmhdplaaDoorRgnD
import Derived.Great.BuildSlice
namespace Go.Proofs.YtefaohokmhdplaaDoor
open Go Go.RowKit Go.Shelf
set_option linter.unusedSimpArgs false
set_option linter.unusedVariables false
set_option maxRecDepth 100000

theorem run_two (w : World) (c d : Int) : (Instr.buildSlice 76 2 #[(0, .int .u8 c), (1, .int .u8 d)]).run Tryd.prog w = .ok (.slice (some ⟨w.heap.size, 0, none⟩) 2 2) (w.alloc (.cells (bv [c, d]).toArray 5)) := by
  obtain ⟨i, hi, hz, hs, hb⟩ := info_u8
  refine run_buildSlice w 76 5 2 _ (bv [c, d]).toArray i _ Tryd.underlying76 hi hz (by omega) (by omega) ?_
  have := _root_.Go.Great.fill_whole (s := i.size) (by omega) [.int .u8 c, .int .u8 d] ((Array.range (2 * i.size)).map ((Value.int .u8 0).cells[· % (Value.int .u8 0).cells.size]!)) (by intro x hx; simp at hx; rcases hx with rfl | rfl <;> simp [Value.cells, hs]) (by simp)
  simpa [Value.cells, bv] using this
def atΩ (B : Nat) (U : World) (xs ys : List Int) : Nat → (Nat → Value) → World → Prop
  | 0, _, W => W = { U with drawn := U.drawn + 1 }
  | 1, V, W => W = ({ U with drawn := U.drawn + 1 } : World).alloc (.cells (bv ys).toArray 5) ∧ V 0 = .slice (some ⟨U.heap.size, 0, none⟩) 2 2
  | k + 2, V, W => Ow B W (V (k + 1)) (xs ++ ys) ∧ Kq B U W
def atx10 (u : Value) (r : Int) : Nat → Value
  | 0 => u
  | 1 => .int .i32 r
  | 2 => .int .i32 (r / 16)
  | 3 => .int .u8 (hx (r / 16))
  | 4 => .int .i32 r
  | 5 => .int .i32 (r % 16)
  | 6 => .int .u8 (hx (r % 16))
  | 7 => undef
  | 8 => undef
  | 9 => undef
  | _ => undef
def HKR (r : Int) : Prop := IntKind.u8.wrap r = r
theorem itp {W : World} {K p : Nat} {s : ByteArray} (h : W.heap[K]? = some (.stringIter s p)) : W.iterPos K = p := by unfold World.iterPos; rw [h]
theorem Ow.itS {B K p q : Nat} {s : ByteArray} {W : World} {v : Value} {L : List Int} (h : Ow B W v L) (hit : W.heap[K]? = some (.stringIter s p)) : Ow B (itS W K s q) v L := by
  refine h.keep (fun b e => itS_ne (fun q => ?_))
  subst q
  rcases h.2 with ⟨rfl, _⟩ | ⟨g, cap, cur, rfl, hg', hc', _⟩
  · simp [Value.ownBlock] at e
  · simp [Value.ownBlock] at e; subst e; rw [hit] at hc'; cases hc'
theorem Kq.itS {B K q : Nat} {s : ByteArray} {w W : World} (h : Kq B w W) (hK : w.heap.size ≤ K) (hB : B ≤ w.heap.size) : Kq B w (itS W K s q) := by
  refine ⟨⟨h.1.os, h.1.tape, h.1.output, by rw [itS_size]; exact h.1.size, fun b hb => (itS_ne (by omega)).trans (h.1.block b hb)⟩, fun c x e hx => ?_⟩
  rw [itS_ne (by have := (Array.getElem?_eq_some_iff.1 e).1; omega)]
  exact h.2 c x e hx
theorem rq_len (r : Int) : (rq r).length ≤ 6 := by
  unfold rq
  split
  · simp
  · split
    · simp
    · exact Nat.le_trans (Lib.encodeRuneZ_length r).2 (by omega)
set_option maxHeartbeats 16000000 in
theorem atext_any {B : Nat} {v : Value} {xs : List Int} {s : ByteArray} {w : World} (h : Ow B w v xs) (hB : B ≤ w.heap.size) (hl : xs.length + (qt s).length ≤ 140737488355000) :
    Calls Tryd.prog 55 #[v, .string s] w fun e w' => ∃ v', e = .returned v' ∧ Ow B w' v' (xs ++ qt s) ∧ Kq B w w' := by
  have HOW : Hid (Ow B w v xs) := h
  have HBB : Hid (B ≤ w.heap.size) := hB
  rw [qt_eq] at hl ⊢
  obtain ⟨E, hE⟩ : ∃ E, qe s 0 = E := ⟨_, rfl⟩
  have HE : Hid (qe s 0 = E) := hE
  rw [hE] at hl ⊢
  have HL : Hid (xs.length + ([34] ++ (E ++ [34])).length ≤ 140737488355000) := hl
  have HO1 : Hid (Ow B (w.alloc (.cells #[.int .u8 34] 5)) v xs) := h.alloc _
  have HS1 : Hid (Sl (w.alloc (.cells #[.int .u8 34] 5)) (.slice (some ⟨w.heap.size, 0, none⟩) 1 1) [34]) := Sl.one w 34 _
  have HB1 : Hid (B ≤ (w.alloc (.cells #[.int .u8 34] 5)).heap.size) := by show _ ≤ _; simp; omega
  have HL1 : Hid (xs.length + ([34] : List Int).length ≤ 140737488355328) := by show _ ≤ _; simp at hl ⊢; omega
  clear h hB hE hl
  go_enter Tryd.func55, Tryd.ntmps55
  go_wp2_with (first
    | (at_builtin; refine app_u8 rfl (.tmp 7) (.tmp 8) rfl HB1.out v xs rfl HO1.out _ rfl [34] HS1.out HL1.out ?_
       intro v1 w1 o1 o2 o3 o4
       have HOA : Hid (Ow B w1 v1 (xs ++ [34])) := o1
       have HKA : Hid (Kq B w w1) := Kq.grown ((Kq.refl B w).alloc HBB.out _) HBB.out HO1.out o2
       clear o1 o2 o3 o4))
  obtain ⟨K, hK⟩ : ∃ K, w1.heap.size = K := ⟨_, rfl⟩
  have HKS : Hid (w.heap.size ≤ K) := by show _ ≤ _; rw [← hK]; exact HKA.out.size
  have HST : Hid (∃ pos L, Ow B (w1.iter s 0) v1 (xs ++ [34] ++ L) ∧ Hid (L ++ qe s pos = E) ∧ (w1.iter s 0).heap[K]? = some (.stringIter s pos) ∧ Kq B w (w1.iter s 0) ∧ pos ≤ s.size) := ⟨0, [], by rw [List.append_nil]; exact HOA.out.alloc _, HE.out, by rw [← hK]; exact World.iter_heap w1 s 0, HKA.out.alloc HBB.out _, Nat.zero_le _⟩
  rw [hK]
  clear HO1 HS1 HB1 HL1 HOA HKA HE hK
  go_loopw [0] (fun v0 W => ∃ pos L, Ow B W v0 (xs ++ [34] ++ L) ∧ Hid (L ++ qe s pos = E) ∧ W.heap[K]? = some (.stringIter s pos) ∧ Kq B w W ∧ pos ≤ s.size) (fun _ W => s.size - W.iterPos K)
  case atStart => exact HST.out
  case round =>
    obtain ⟨pos, L, ho, he, hit, hk, hp⟩ := hrel
    have HIP : Hid (wr.iterPos K = pos) := by show _ = _; unfold World.iterPos; rw [hit]
    have HO : Hid (Ow B wr u0 (xs ++ [34] ++ L)) := ho
    have HK : Hid (Kq B w wr) := hk
    have HIT : Hid (wr.heap[K]? = some (.stringIter s pos)) := hit
    have hBs : B ≤ wr.heap.size := Nat.le_trans HBB.out hk.size
    clear HST ho hk
    by_cases hlt : pos < s.size
    · have hnx0 : ∀ ty, (Instr.next (.pointer (some ⟨K, 0, none⟩)) true ty).run Tryd.prog wr = _ := fun ty => run_next_at hit hlt ty
      have hstep := qe_step hlt
      have hw := dec_wid s pos hlt
      have hin := (dec_in s pos hlt).2
      have hr1 := decode_le s pos
      obtain ⟨r, hr⟩ : ∃ r : Int, ((Utf8.decode s pos).1 : Int) = r := ⟨_, rfl⟩
      obtain ⟨n, hn⟩ : ∃ n, (Utf8.decode s pos).2 = n := ⟨_, rfl⟩
      obtain ⟨W1, hW1⟩ : ∃ W1, itS wr K s (pos + n) = W1 := ⟨_, rfl⟩
      have hr0 : (0 : Int) ≤ r := by omega
      have hr2 : r ≤ 2147483647 := by omega
      rw [hr, hn] at hstep
      rw [hn] at hw hin
      rw [hr, hn, hW1] at hnx0
      have HHW1 : Hid (itS wr K s (pos + n) = W1) := hW1
      have HO1 : Hid (Ow B W1 u0 (xs ++ [34] ++ L)) := by show Ow _ _ _ _; rw [← hW1]; exact HO.out.itS hit
      have HK1 : Hid (Kq B w W1) := by show Kq _ _ _; rw [← hW1]; exact HK.out.itS HKS.out HBB.out
      have HI1 : Hid (W1.heap[K]? = some (.stringIter s (pos + n))) := by show _ = _; rw [← hW1]; exact itS_at hit
      have hB1 : B ≤ W1.heap.size := Nat.le_trans HBB.out HK1.out.size
      have HLL : Hid (xs.length + 1 + L.length + (rq r).length ≤ 140737488355000) := by
        have h1 := HL.out; have h2 := he.out; rw [hstep] at h2; rw [← h2] at h1; simp at h1; show _ ≤ _; omega
      have HEE : Hid (L ++ rq r ++ qe s (pos + n) = E) := by show _ = _; rw [List.append_assoc, ← hstep]; exact he.out
      have hnx := hnx0
      clear hnx0 hW1 hit HO HK HIT he hstep hr hn hr1
      by_cases h34 : r = 34 ∨ r = 92
      · have hkr : HKR r := by rcases h34 with rfl | rfl <;> rfl
        have HRQ : Hid (rq r = [92, r]) := by show _ = _; unfold rq; rw [if_pos h34]
        have HO2 : Hid (Ow B (W1.alloc (.cells (bv [92, r]).toArray 5)) u0 (xs ++ [34] ++ L)) := HO1.out.alloc _
        have HS2 : Hid (Sl (W1.alloc (.cells (bv [92, r]).toArray 5)) (.slice (some ⟨W1.heap.size, 0, none⟩) 2 2) [92, r]) := Sl.new W1 [92, r] _
        have HB2 : Hid (B ≤ (W1.alloc (.cells (bv [92, r]).toArray 5)).heap.size) := by show _ ≤ _; simp; omega
        have HL2 : Hid ((xs ++ [34] ++ L).length + ([92, r] : List Int).length ≤ 140737488355328) := by show _ ≤ _; have h1 := HLL.out; rw [HRQ.out] at h1; simp at h1 ⊢; omega
        have HKT : Hid (∀ W4, (W1.alloc (.cells (bv [92, r]).toArray 5)).grownBy W4 u0.ownBlock → Kq B W1 W4) := fun W4 o2 => Kq.grown ((Kq.refl B W1).alloc hB1 _) hB1 HO2.out o2
        rcases h34 with rfl | rfl
        all_goals (
          go_wp2_with (first
            | (at_builtin; refine app_u8 rfl (.tmp 25) (.tmp 28) rfl HB2.out u0 _ rfl HO2.out _ rfl _ HS2.out HL2.out ?_
               intro v4 W4 o1 o2 o3 o4
               have HKQ := HKT.out W4 o2
               have HFIN : Hid (Ow B W4 v4 (xs ++ [34] ++ (L ++ rq _)) ∧ W4.heap[K]? = some (.stringIter s (pos + n)) ∧ Kq B w W4) := ⟨by rw [HRQ.out, ← List.append_assoc]; exact o1, HKQ.2 K _ HI1.out (fun _ _ e => by cases e), HK1.out.trans HKQ⟩
               clear o1 o2 o3 o4 HKQ))
          go_roundw
          case rel => exact ⟨pos + n, L ++ rq _, HFIN.out.1, HEE.out, HFIN.out.2.1, HFIN.out.2.2, hin⟩
          case measure => rw [itp HFIN.out.2.1, HIP.out]; omega)
      by_cases h32 : r < 32
      · have HRQ : Hid (rq r = [92, 117, 48, 48] ++ [hx (r / 16), hx (r % 16)]) := by show _ = _; unfold rq; rw [if_neg h34, if_pos h32]; rfl
        have HL2 : Hid ((xs ++ [34] ++ L).length + (⟨#[92, 117, 48, 48]⟩ : ByteArray).size ≤ 140737488355328) := by show _ ≤ _; have h1 := HLL.out; rw [HRQ.out] at h1; simp at h1 ⊢; simp [ByteArray.size]; omega
        have hn34 : (r == 34) = false := beq_eq_false_iff_ne.2 (fun e => h34 (.inl e))
        have hn92 : (r == 92) = false := beq_eq_false_iff_ne.2 (fun e => h34 (.inr e))
        have H32 : Hid (r = 0 ∨ r = 1 ∨ r = 2 ∨ r = 3 ∨ r = 4 ∨ r = 5 ∨ r = 6 ∨ r = 7 ∨ r = 8 ∨ r = 9 ∨ r = 10 ∨ r = 11 ∨ r = 12 ∨ r = 13 ∨ r = 14 ∨ r = 15 ∨ r = 16 ∨ r = 17 ∨ r = 18 ∨ r = 19 ∨ r = 20 ∨ r = 21 ∨ r = 22 ∨ r = 23 ∨ r = 24 ∨ r = 25 ∨ r = 26 ∨ r = 27 ∨ r = 28 ∨ r = 29 ∨ r = 30 ∨ r = 31) := by show _ ∨ _; omega
        have HB1 : Hid (B ≤ W1.heap.size) := hB1
        have HLT : Hid (xs.length + 1 + L.length + 6 ≤ 140737488355000) := by show _ ≤ _; have h1 := HLL.out; rw [HRQ.out] at h1; simp at h1; omega
        go_wp2_with (first
          | (at_builtin; refine app_str rfl (.tmp 33) (.const (.string ⟨#[92, 117, 48, 48]⟩)) rfl HB1.out u0 _ rfl HO1.out ⟨#[92, 117, 48, 48]⟩ rfl HL2.out ?_
             intro u W3 o1 o2 o3
             have HO3 : Hid (Ow B W3 u (xs ++ [34] ++ L ++ [92, 117, 48, 48])) := o1
             have HK3 : Hid (Kq B W1 W3) := Kq.grown (Kq.refl B W1) HB1.out HO1.out o2
             clear o1 o2 o3))
        have HO := HO3
        obtain ⟨ys, hys⟩ : ∃ ys, xs ++ [34] ++ L ++ [92, 117, 48, 48] = ys := ⟨_, rfl⟩
        have HYS : Hid (xs ++ [34] ++ L ++ [92, 117, 48, 48] = ys) := hys
        rw [hys] at HO
        have hyl : ys.length + 2 ≤ 140737488355000 := by rw [← hys]; have := HLT.out; simp; omega
        have hB : B ≤ W3.heap.size := Nat.le_trans HB1.out HK3.out.size
        clear hys hn34 hn92 hnx
        refine RU.wp_rgn' [7, 8, 9] (atx10 u r) (fun i => if i = 0 then 1 else 0) (atΩ B W3 ys [hx (r / 16), hx (r % 16)]) (by kernel_rfl) (by kernel_rfl) rfl ?_ ?_
        · refine ⟨?_, ?_, ?_, ?_, ?_, ?_, ?_, ?_, ?_, ?_, trivial⟩
          · refine RU.ObT.pure rfl rfl rfl (fun a V hf hp ev he hc W => ?_)
            have q0 : ev (.tmp 0) = u := (he (.tmp 0)).trans (hf 0 rfl)
            simp only [List.getElem_toArray, List.getElem_cons_succ, List.getElem_cons_zero, execOp, Option.map_some, Option.map_none]; rw [q0]
            first | (go_simp; done) | (go_simp; rfl) | rfl
          · refine RU.ObT.pure rfl rfl rfl (fun a V hf hp ev he hc W => ?_)
            have q6 : ev (.tmp 6) = .int .i32 r := (he (.tmp 6)).trans (hf 6 rfl)
            simp only [List.getElem_toArray, List.getElem_cons_succ, List.getElem_cons_zero, execOp, Option.map_some, Option.map_none]; rw [q6]
            first | (go_simp; done) | (go_simp; rfl) | rfl
          · refine RU.ObT.pure rfl rfl rfl (fun a V hf hp ev he hc W => ?_)
            have q36 : ev (.tmp 36) = .int .i32 r := (he (.tmp 36)).trans (hp 1 36 rfl)
            simp only [List.getElem_toArray, List.getElem_cons_succ, List.getElem_cons_zero, execOp, Option.map_some, Option.map_none]; rw [q36]
            try simp only [hc]
            rcases H32.out with rfl | rfl | rfl | rfl | rfl | rfl | rfl | rfl | rfl | rfl | rfl | rfl | rfl | rfl | rfl | rfl | rfl | rfl | rfl | rfl | rfl | rfl | rfl | rfl | rfl | rfl | rfl | rfl | rfl | rfl | rfl | rfl <;> first | (go_simp; done) | (go_simp; rfl) | rfl
          · refine RU.ObT.pure rfl rfl rfl (fun a V hf hp ev he hc W => ?_)
            have q37 : ev (.tmp 37) = .int .i32 (r / 16) := (he (.tmp 37)).trans (hp 2 37 rfl)
            simp only [List.getElem_toArray, List.getElem_cons_succ, List.getElem_cons_zero, execOp, Option.map_some, Option.map_none]; rw [q37]
            try simp only [hc]
            rcases H32.out with rfl | rfl | rfl | rfl | rfl | rfl | rfl | rfl | rfl | rfl | rfl | rfl | rfl | rfl | rfl | rfl | rfl | rfl | rfl | rfl | rfl | rfl | rfl | rfl | rfl | rfl | rfl | rfl | rfl | rfl | rfl | rfl <;> first | (go_simp; done) | (go_simp; rfl) | rfl
          · refine RU.ObT.pure rfl rfl rfl (fun a V hf hp ev he hc W => ?_)
            have q6 : ev (.tmp 6) = .int .i32 r := (he (.tmp 6)).trans (hf 6 rfl)
            simp only [List.getElem_toArray, List.getElem_cons_succ, List.getElem_cons_zero, execOp, Option.map_some, Option.map_none]; rw [q6]
            first | (go_simp; done) | (go_simp; rfl) | rfl
          · refine RU.ObT.pure rfl rfl rfl (fun a V hf hp ev he hc W => ?_)
            have q39 : ev (.tmp 39) = .int .i32 r := (he (.tmp 39)).trans (hp 4 39 rfl)
            simp only [List.getElem_toArray, List.getElem_cons_succ, List.getElem_cons_zero, execOp, Option.map_some, Option.map_none]; rw [q39]
            try simp only [hc]
            rcases H32.out with rfl | rfl | rfl | rfl | rfl | rfl | rfl | rfl | rfl | rfl | rfl | rfl | rfl | rfl | rfl | rfl | rfl | rfl | rfl | rfl | rfl | rfl | rfl | rfl | rfl | rfl | rfl | rfl | rfl | rfl | rfl | rfl <;> first | (go_simp; done) | (go_simp; rfl) | rfl
          · refine RU.ObT.pure rfl rfl rfl (fun a V hf hp ev he hc W => ?_)
            have q40 : ev (.tmp 40) = .int .i32 (r % 16) := (he (.tmp 40)).trans (hp 5 40 rfl)
            simp only [List.getElem_toArray, List.getElem_cons_succ, List.getElem_cons_zero, execOp, Option.map_some, Option.map_none]; rw [q40]
            try simp only [hc]
            rcases H32.out with rfl | rfl | rfl | rfl | rfl | rfl | rfl | rfl | rfl | rfl | rfl | rfl | rfl | rfl | rfl | rfl | rfl | rfl | rfl | rfl | rfl | rfl | rfl | rfl | rfl | rfl | rfl | rfl | rfl | rfl | rfl | rfl <;> first | (go_simp; done) | (go_simp; rfl) | rfl
          · refine RU.ObT.loud (j := 0) rfl (fun a W V hO hf hp => ?_)
            have hO' : W = { W3 with drawn := W3.drawn + 1 } := hO
            subst hO'
            have q38 : a.eval (.tmp 38) = .int .u8 (hx (r / 16)) := hp 3 38 rfl
            have q41 : a.eval (.tmp 41) = .int .u8 (hx (r % 16)) := hp 6 41 rfl
            refine RU.ob_run (v := .slice (some ⟨W3.heap.size, 0, none⟩) 2 2) (w' := ({ W3 with drawn := W3.drawn + 1 } : World).alloc (.cells (bv [hx (r / 16), hx (r % 16)]).toArray 5)) rfl (RU.wanted_none rfl) (fun ev he hc => ?_) ⟨_, rfl, rfl, rfl⟩
            have e1 := (he (.tmp 38)).trans q38
            have e2 := (he (.tmp 41)).trans q41
            have hr2 := run_two { W3 with drawn := W3.drawn + 1 } (hx (r / 16)) (hx (r % 16))
            simp only [List.getElem_toArray, List.getElem_cons_succ, List.getElem_cons_zero, execOp, Option.map_some, Option.map_none, List.map_toArray, List.map_cons, List.map_nil, e1, e2, Sem.run_bind, hr2, Result.andThen_ok, Sem.run_pure]
          · refine RU.ObT.loud (j := 1) rfl (fun a W V hO hf hp => ?_)
            obtain ⟨hO', hV⟩ : W = ({ W3 with drawn := W3.drawn + 1 } : World).alloc (.cells (bv [hx (r / 16), hx (r % 16)]).toArray 5) ∧ V 0 = .slice (some ⟨W3.heap.size, 0, none⟩) 2 2 := hO
            subst hO'
            have q35 : a.eval (.tmp 35) = u := hp 0 35 rfl
            have q42 : a.eval (.tmp 42) = .slice (some ⟨W3.heap.size, 0, none⟩) 2 2 := (hp 7 42 rfl).trans hV
            refine RD.ob_list rfl (RU.wanted_none rfl) ?_
            refine app_u8 rfl (.tmp 35) (.tmp 42) rfl (by simp; exact Nat.le_succ_of_le hB) u ys q35 (HO.out.alloc _) _ q42 [hx (r / 16), hx (r % 16)] (Sl.new { W3 with drawn := W3.drawn + 1 } [hx (r / 16), hx (r % 16)] 5) (by simp; omega) ?_
            intro v' W9 o1 o2 o3 o4
            exact ⟨_, rfl, o1, Kq.grown (Kq.alloc (w' := { W3 with drawn := W3.drawn + 1 }) ⟨(Below.refl _ _).drew, fun _ _ h _ => h⟩ hB _) hB (Ow.alloc (w := { W3 with drawn := W3.drawn + 1 }) HO.out _) o2⟩
          · refine RU.ObT.loud (j := 2) rfl (fun a W V hO hf hp => ?_)
            have q43 : a.eval (.tmp 43) = V 1 := hp 8 43 rfl
            refine RU.ob_val (v := V 1) rfl (RU.wanted_none rfl) (fun ev he hc => ?_) ⟨_, rfl, hO⟩
            have e1 := (he (.tmp 43)).trans q43
            simp only [List.getElem_toArray, List.getElem_cons_succ, List.getElem_cons_zero, execOp]
            rw [e1]
            first | rfl | go_simp
        intro W4 VW4 hOW4
        have P4 : Hid (Ow B W4 (VW4 2) (ys ++ [hx (r / 16), hx (r % 16)]) ∧ Kq B W3 W4) := hOW4
        clear hOW4
        simp only [RU.lay, RU.val, show RU.at' [7, 8, 9] 0 = none from rfl, show RU.at' [7, 8, 9] 1 = none from rfl, show RU.at' [7, 8, 9] 2 = none from rfl, show RU.at' [7, 8, 9] 3 = none from rfl, show RU.at' [7, 8, 9] 4 = none from rfl, show RU.at' [7, 8, 9] 5 = none from rfl, show RU.at' [7, 8, 9] 6 = none from rfl, show RU.at' [7, 8, 9] 7 = some 0 from rfl, show RU.at' [7, 8, 9] 8 = some 1 from rfl, show RU.at' [7, 8, 9] 9 = some 2 from rfl, atx10, Act.put]
        simp only [List.setIfInBounds_toArray, List.set_cons_succ, List.set_cons_zero]
        obtain ⟨v38, hv38⟩ : ∃ v, VW4 0 = v := ⟨_, rfl⟩
        obtain ⟨v39, hv39⟩ : ∃ v, VW4 1 = v := ⟨_, rfl⟩
        obtain ⟨v40, hv40⟩ : ∃ v, VW4 2 = v := ⟨_, rfl⟩
        rw [hv40] at P4
        simp only [hv38, hv39, hv40]
        clear hv38 hv39 hv40
        have HFIN : Hid (Ow B W4 v40 (xs ++ [34] ++ (L ++ rq r)) ∧ W4.heap[K]? = some (.stringIter s (pos + n)) ∧ Kq B w W4) := by
          refine ⟨?_, P4.out.2.2 K _ (HK3.out.2 K _ HI1.out (fun _ _ e => by cases e)) (fun _ _ e => by cases e), (HK1.out.trans HK3.out).trans P4.out.2⟩
          rw [HRQ.out, ← List.append_assoc, ← List.append_assoc, HYS.out]; exact P4.out.1
        go_wp2_with fail
        go_roundw
        case rel => exact ⟨pos + n, L ++ rq r, HFIN.out.1, HEE.out, HFIN.out.2.1, HFIN.out.2.2, hin⟩
        case measure => rw [itp HFIN.out.2.1, HIP.out]; omega
      · have HRQ : Hid (rq r = Lib.encodeRuneZ r) := by show _ = _; unfold rq; rw [if_neg h34, if_neg h32]
        have hn34 : (r == 34) = false := beq_eq_false_iff_ne.2 (fun e => h34 (.inl e))
        have hn92 : (r == 92) = false := beq_eq_false_iff_ne.2 (fun e => h34 (.inr e))
        have HLR : Hid ((xs ++ [34] ++ L).length + 4 ≤ 140737488355328) := by show _ ≤ _; have := HLL.out; simp; omega
        go_wp2_with fail
        refine (rune_keep B u0 (xs ++ [34] ++ L) r hr0 hr2 W1 HO1.out HLR.out hB1).mono ?_
        rintro e W4 ⟨v4, rfl, o1, o2⟩
        have HFIN : Hid (Ow B W4 v4 (xs ++ [34] ++ (L ++ rq r)) ∧ W4.heap[K]? = some (.stringIter s (pos + n)) ∧ Kq B w W4) := ⟨by rw [HRQ.out, ← List.append_assoc]; exact o1, o2.2 K _ HI1.out (fun _ _ e => by cases e), HK1.out.trans o2⟩
        clear o1 o2
        go_wp2_with fail
        go_roundw
        case rel => exact ⟨pos + n, L ++ rq r, HFIN.out.1, HEE.out, HFIN.out.2.1, HFIN.out.2.2, hin⟩
        case measure => rw [itp HFIN.out.2.1, HIP.out]; omega
    · have hnx : ∀ ty, (Instr.next (.pointer (some ⟨K, 0, none⟩)) true ty).run Tryd.prog wr = _ := fun ty => run_next_fin hit hlt ty
      have HLE : Hid (L = E) := by show _ = _; have := he.out; rw [qe_end (by omega), List.append_nil] at this; exact this
      have HO1 : Hid (Ow B (wr.alloc (.cells #[.int .u8 34] 5)) u0 (xs ++ [34] ++ L)) := HO.out.alloc _
      have HS1 : Hid (Sl (wr.alloc (.cells #[.int .u8 34] 5)) (.slice (some ⟨wr.heap.size, 0, none⟩) 1 1) [34]) := Sl.one wr 34 _
      have HB1 : Hid (B ≤ (wr.alloc (.cells #[.int .u8 34] 5)).heap.size) := by show _ ≤ _; simp; omega
      have HL1 : Hid ((xs ++ [34] ++ L).length + ([34] : List Int).length ≤ 140737488355328) := by show _ ≤ _; have h1 := HL.out; rw [← HLE.out] at h1; simp at h1 ⊢; omega
      have HB2 : Hid (B ≤ wr.heap.size) := hBs
      clear he hit
      go_wp2_with (first
        | (at_builtin; refine app_u8 rfl (.tmp 44) (.tmp 45) rfl HB1.out u0 _ rfl HO1.out _ rfl [34] HS1.out HL1.out ?_
           intro v1 w2 o1 o2 o3 o4
           have HFIN : Hid (Ow B w2 v1 (xs ++ ([34] ++ (E ++ [34]))) ∧ Kq B w w2) := ⟨by rw [← HLE.out]; simpa using o1, HK.out.trans (Kq.grown ((Kq.refl B wr).alloc HB2.out _) HB2.out HO1.out o2)⟩
           clear o1 o2 o3 o4))
      go_ret
      exact ⟨_, rfl, HFIN.out.1, HFIN.out.2⟩
end Go.Proofs.YtefaohokmhdplaaDoor
