/- New, Sectors, Waiting, Down, SetFull, SetFuse. -/
import Derived.Test.YtphjjjijdbljaaaDoorDskD
namespace Go.Proofs.YtphjjjijdbljaaaDoor
open Go Go.RowKit
set_option linter.unusedSimpArgs false
set_option linter.unusedVariables false
set_option maxRecDepth 100000

def z64 : List Int := List.replicate 64 0
/-- A new disk. -/
def dk0 (n : Nat) : Dk := ⟨n, fun _ => z64, [], false, false, none⟩
theorem info_sec : ∃ i, Tryd.prog.info? 66 = some i ∧ i.zero = some (.agg (bv z64).toArray) ∧ i.size = 64 ∧ i.bytes = 64 := by
  have h1 : (Tryd.prog.info? 66).map (·.size) = some 64 := by kernel_rfl
  have h2 : (Tryd.prog.info? 66).map (·.bytes) = some 64 := by kernel_rfl
  have h3 : (Tryd.prog.info? 66).map (·.zero) = some (some (.agg (bv z64).toArray)) := by kernel_rfl
  cases hq : Tryd.prog.info? 66 with
  | none => rw [hq] at h1; cases h1
  | some i =>
    rw [hq] at h1 h2 h3
    exact ⟨i, rfl, Option.some.inj h3, Option.some.inj h1, Option.some.inj h2⟩
theorem bv_z64 : bv z64 = List.replicate 64 (.int .u8 0) := by simp [bv, z64]
theorem made_get (n k : Nat) (h : k < n) : (madeCells (Value.agg (bv z64).toArray).cells n)[k]? = some (.int .u8 0) := by
  unfold madeCells
  rw [Array.getElem?_map, Array.getElem?_range, if_pos h]
  simp only [Option.map_some, Value.cells]
  congr 1
  have hk : k % (bv z64).toArray.size < (bv z64).toArray.size := Nat.mod_lt _ (by rw [List.size_toArray, bv_length]; simp [z64])
  rw [getElem!_pos (bv z64).toArray _ hk]
  have : (bv z64).toArray[k % (bv z64).toArray.size]? = some (.int .u8 0) := by
    rw [List.getElem?_toArray, bv_z64, List.getElem?_replicate, if_pos (by simpa [bv_length, z64] using hk)]
  rw [Array.getElem?_eq_getElem hk] at this
  exact Option.some.inj this
theorem make_sec (w : World) {ops : Array Oper} {rest : List Oper} {o : Oper} {a : Act} {Q : Exit → Act → World → Prop}
    (hg : o.guard = none) (l c : Operand) (hop : o.op = Op.makeSlice 56 l c) (kl kc : IntKind) (L C : Int) (n : Nat) (hl : a.eval l = .int kl L) (hc : a.eval c = .int kc C) (hL : L = (n : Int)) (hC : C = (n : Int)) (hn : n ≤ 65536)
    (hK : ∀ w', SB w' w.heap.size n (fun _ => z64) → Below w.heap.size w w' → wpList Tryd.prog ops Q rest (a.put o.dst (.slice (some ⟨w.heap.size, 0, none⟩) n n)) w') :
    wpList Tryd.prog ops Q (o :: rest) a w := by
  obtain ⟨i, hi, hz, hsz, hby⟩ := info_sec
  refine wpList_make_full w hg l c 56 hop w.heap.size 66 i (.agg (bv z64).toArray) 64 Tryd.underlying56 hi hz hsz kl kc L C n hl hc hL hC (by rw [hby]; omega) (by unfold maxLen; omega) (Nat.le_refl _) ?_
  intro w' h1 h2
  refine hK w' ?_ ((Below.refl _ w).grown h2 (Nat.le_refl _) (fun b e => by cases e))
  rcases h1.2 with ⟨h, _⟩ | ⟨g, cap, cur, hv, hb, hh, hcap, _, hs, ht⟩
  · cases h
  · cases hv
    refine ⟨⟨cur, hh, hs⟩, fun _ _ => by simp [z64], fun k hk j u hu => ?_⟩
    have hj : j < 64 := by have := (List.getElem?_eq_some_iff.1 hu).1; rw [bv_length] at this; simpa [z64] using this
    rw [cell_of_row w' _ _ cur _ _ hh]
    have e : cur.toList = (madeCells (Value.agg (bv z64).toArray).cells (n * 64)).toList := by
      rw [← ht, List.take_of_length_le (by rw [Array.length_toList, hs]; exact Nat.le_refl _)]
    rw [← Array.getElem?_toList, e, Array.getElem?_toList, made_get _ _ (by omega)]
    rw [bv_z64, List.getElem?_replicate, if_pos hj] at hu
    exact hu
theorem new_bad (w : World) (i : Int) (h : ¬ (1 ≤ i ∧ i ≤ 65536)) : Calls Tryd.prog 10 #[.int .i64 i] w fun e w' => e = .returned (.tuple #[.pointer none, .int .i64 1]) ∧ w' = w := by
  by_cases h1 : i < 1
  · go_enter Tryd.func10, Tryd.ntmps10
    go_wp2
    go_ret2
    exact ⟨rfl, rfl⟩
  · have h2 : i > 65536 := by omega
    go_enter Tryd.func10, Tryd.ntmps10
    go_wp2
    go_ret2
    exact ⟨rfl, rfl⟩
/-- A disk in new memory. -/
def NewP (w w' : World) (g n : Nat) : Prop := ∃ F, PD F w' g (dk0 n) ∧ Below w.heap.size w w' ∧ ∀ b, F b → w.heap.size ≤ b
set_option maxHeartbeats 1000000 in
theorem new_any (w : World) (n : Nat) (h1 : 1 ≤ n) (h2 : n ≤ 65536) : Calls Tryd.prog 10 #[.int .i64 (n : Int)] w fun e w' => ∃ g, e = .returned (.tuple #[.pointer (some ⟨g, 0, none⟩), .int .i64 0]) ∧ NewP w w' g n := by
  have g1 : ¬ ((n : Int) < 1) := by omega
  have g2 : ¬ ((n : Int) > 65536) := by omega
  go_enter Tryd.func10, Tryd.ntmps10
  go_wp2_with (refine make_sec w rfl _ _ rfl _ _ _ _ n rfl rfl rfl rfl h2 ?_; intro w1 k1 k2; have K1 : Hid (SB w1 w.heap.size n (fun _ => z64)) := k1; have K2 : Hid (Below w.heap.size w w1) := k2; clear k1 k2)
  go_ret2
  have hb : Below w1.heap.size w1 (w1.alloc (.cells (six (.slice (some ⟨w.heap.size, 0, none⟩) n n) (.slice none 0 0) false false false 0) 59)) := (Below.refl _ _).alloc (Nat.le_refl _) _
  have hlt := K1.out.lt
  refine ⟨w1.heap.size, rfl, fun b => b = w.heap.size ∨ b = w1.heap.size, ⟨w.heap.size, .slice none 0 0, false, 0, ⟨?_, rfl, K1.out.keep (hb.block _ hlt), ⟨World.ownsRow_nil _ _ _ _, fun p hp => by cases hp⟩, by omega, by simp [Value.ownBlock], by simp [Value.ownBlock], .inr rfl, .inl rfl, fun b hb => by simp [Value.ownBlock] at hb, fun b hb' => ?_, h1, h2⟩⟩, K2.out.trans (hb.mono (Nat.le_of_lt hlt)), fun b hb' => by omega⟩
  · show (w1.heap.push _)[w1.heap.size]? = _
    simp [six, dk0]
  · have := hb.size
    have h3 : (w1.alloc (.cells (six (.slice (some ⟨w.heap.size, 0, none⟩) n n) (.slice none 0 0) false false false 0) 59)).heap.size = w1.heap.size + 1 := by simp
    show b < (w1.alloc (.cells (six (.slice (some ⟨w.heap.size, 0, none⟩) n n) (.slice none 0 0) false false false 0) 59)).heap.size
    rw [h3]
    rcases hb' with rfl | rfl <;> omega
variable {F : Nat → Prop} {w : World} {g : Nat} {s : Dk}
theorem sectors_any (h : PD F w g s) : Calls Tryd.prog 24 #[.pointer (some ⟨g, 0, none⟩)] w fun e w' => e = .returned (.int .i64 (s.n : Int)) ∧ w' = w := by
  obtain ⟨gs, wv, fd, fz, h⟩ := h
  obtain ⟨h0, h1, h2, h3, h4, h5⟩ := h.db.cells
  clear h
  go_enter Tryd.func24, Tryd.ntmps24
  go_wp2
  go_ret
  exact ⟨rfl, rfl⟩
theorem waiting_any (h : PD F w g s) : Calls Tryd.prog 25 #[.pointer (some ⟨g, 0, none⟩)] w fun e w' => e = .returned (.int .i64 (s.wt.length : Int)) ∧ w' = w := by
  obtain ⟨gs, wv, fd, fz, h⟩ := h
  obtain ⟨h0, h1, h2, h3, h4, h5⟩ := h.db.cells
  obtain ⟨ad, cap, rfl, -⟩ := h.wb.shape
  clear h
  go_enter Tryd.func25, Tryd.ntmps25
  go_wp2
  go_ret
  exact ⟨rfl, rfl⟩
theorem down_any (h : PD F w g s) : Calls Tryd.prog 27 #[.pointer (some ⟨g, 0, none⟩)] w fun e w' => e = .returned (.bool s.dn) ∧ w' = w := by
  obtain ⟨gs, wv, fd, fz, h⟩ := h
  obtain ⟨h0, h1, h2, h3, h4, h5⟩ := h.db.cells
  clear h
  go_enter Tryd.func27, Tryd.ntmps27
  go_wp2
  go_ret
  exact ⟨rfl, rfl⟩
def fuseOf (n : Int) : Option Nat := if 0 ≤ n then some n.toNat else none
end Go.Proofs.YtphjjjijdbljaaaDoor
/- Read. -/
namespace Go.Proofs.YtphjjjijdbljaaaDoor
open Go Go.RowKit
set_option linter.unusedSimpArgs false
set_option linter.unusedVariables false
set_option maxRecDepth 100000

theorem zero_sec (w : World) : (zeroValue 66).run Tryd.prog w = .ok (.agg (bv z64).toArray) w := by kernel_rfl
theorem build_sec (w : World) : (Instr.build 66 #[]).run Tryd.prog w = .ok (.agg (bv z64).toArray) w := run_build w _ _ _ (by kernel_rfl)
theorem z64_length : z64.length = 64 := by simp [z64]
/-- What stands, with the writes done. -/
def look (st : Nat → List Int) (l : List (Nat × List Int)) : Nat → List Int := l.foldl (fun st p => upd st p.1 p.2) st
theorem look_snoc (st : Nat → List Int) (l : List (Nat × List Int)) (p : Nat × List Int) : look st (l ++ [p]) = upd (look st l) p.1 p.2 := by simp [look]
theorem look_none (st : Nat → List Int) (k : Nat) : ∀ (l : List (Nat × List Int)), (∀ p ∈ l, p.1 ≠ k) → look st l k = st k := by
  intro l
  induction l generalizing st with
  | nil => intro _; rfl
  | cons p l ih =>
    intro h
    have : look st (p :: l) = look (upd st p.1 p.2) l := rfl
    rw [this, ih _ (fun q hq => h q (by simp [hq]))]
    unfold upd
    rw [if_neg (fun e => h p (by simp) e.symm)]
theorem look_at (st : Nat → List Int) (k : Nat) (l : List (Nat × List Int)) (j : Nat) (p : Nat × List Int) (hp : l[j]? = some p) (hk : p.1 = k) (hn : ∀ (m : Nat) (q : Nat × List Int), j < m → l[m]? = some q → q.1 ≠ k) : look st l k = p.2 := by
  have hj : j < l.length := (List.getElem?_eq_some_iff.1 hp).1
  have e : l = l.take j ++ p :: l.drop (j + 1) := by
    rw [← (List.getElem?_eq_some_iff.1 hp).2, List.getElem_cons_drop, List.take_append_drop]
  have e2 : look st l = look (upd (look st (l.take j)) p.1 p.2) (l.drop (j + 1)) := by
    conv => lhs; rw [e]
    unfold look; rw [List.foldl_append, List.foldl_cons]
  rw [e2, look_none]
  · unfold upd; rw [if_pos hk.symm]
  · intro q hq
    obtain ⟨m, hm⟩ := List.getElem?_of_mem hq
    rw [List.getElem?_drop] at hm
    exact hn (j + 1 + m) q (by omega) hm
def rdE (s : Dk) (i : Int) : Int := match hasB s.n i, s.dn with
  | false, _ => 1
  | true, true => 9
  | true, false => 0
def rdV (s : Dk) (i : Int) : List Int := match hasB s.n i, s.dn with
  | false, _ => z64
  | true, true => z64
  | true, false => look s.st s.wt i.toNat
theorem look_len {n : Nat} {st : Nat → List Int} (hst : ∀ i, i < n → (st i).length = 64) : ∀ {l : List (Nat × List Int)}, Wok n l → ∀ i, i < n → (look st l i).length = 64 := by
  intro l
  induction l generalizing st with
  | nil => intro _ i hi; exact hst i hi
  | cons p l ih =>
    intro hw i hi
    have : look st (p :: l) = look (upd st p.1 p.2) l := rfl
    rw [this]
    refine ih (fun j hj => ?_) (fun q hq => hw q (by simp [hq])) i hi
    unfold upd; split
    · exact (hw p (by simp)).2
    · exact hst j hj
theorem WB.le {T : TypeId} {w : World} {v : Value} {n : Nat} {l : List (Nat × List Int)} (h : WB T w v n l) : l.length ≤ 9223372036854775807 := by
  rcases h.row.2 with ⟨rfl, h0⟩ | ⟨g, cap, cur, hv, hb, hg, hc, hm, hs, ht⟩
  · omega
  · unfold maxLen at hm; omega
variable {F : Nat → Prop} {w : World} {g : Nat} {s : Dk} {gs : Nat} {wv : Value} {fd : Bool} {fz : Int}
theorem sec_start {w W : World} (eW : w.alloc (.cells (bv z64).toArray 66) = W) : Hid (W.there w.heap.size 0 64 ∧ Below w.heap.size w W ∧ W.heap.size = w.heap.size + 1) := by
  refine ⟨there_of_row' (cs := (bv z64).toArray) (t := 66) (by rw [← eW, World.alloc]; simp only [Array.getElem?_push, if_true]) 0 64 (by rw [List.size_toArray, bv_length, z64_length]; omega), by rw [← eW]; exact (Below.refl _ _).alloc (Nat.le_refl _) _, by rw [← eW]; simp⟩
theorem below_setCells {B0 : Nat} {a : World} (b : Nat) (hB : B0 ≤ b) : ∀ (vs : List Value) (o : Nat) (w : World), Below B0 a w → Below B0 a (w.setCells b o vs)
  | [], _, _, h => h
  | v :: r, o, w, h => by
    rw [World.setCells]
    exact below_setCells b hB r (o + 1) _ (h.setCell hB v)
theorem bv_one' (x : List Int) : (bv x).toArray.all (·.oneCell') = true := all_oneCell_toArray (bv_one x)
theorem size_sec {x : List Int} (h : x.length = 64) : (Tryd.prog.info? 66).map (·.size) = some (bv x).toArray.size := by rw [List.size_toArray, bv_length, h]; exact size64
theorem there_sec {x : List Int} {W : World} {b o : Nat} (h : x.length = 64) (ht : W.there b o 64) : W.there b o (bv x).toArray.size := by rw [List.size_toArray, bv_length, h]; exact ht
set_option maxHeartbeats 2000000 in
theorem read_PX (h : PX F w g s gs wv fd fz) (i : Int) :
    Calls Tryd.prog 56 #[.pointer (some ⟨g, 0, none⟩), .int .i64 i] w fun e w' => e = .returned (.tuple #[.agg (bv (rdV s i)).toArray, .int .i64 (rdE s i)]) ∧ Below w.heap.size w w' := by
  have H : Hid (PX F w g s gs wv fd fz) := h
  clear h
  have hz := zero_sec
  have hbz := build_sec
  go_enter Tryd.func56, Tryd.ntmps56
  go_wp2_with fail
  generalize hW : w.alloc _ = w0
  have S0 := sec_start hW
  have H0 : Hid (PX F w0 g s gs wv fd fz) := H.out.keep S0.out.2.1.size (fun b hb => S0.out.2.1.block b (H.out.Flt b hb))
  clear hW
  refine (has_any H0.out.db i).mono ?_
  rintro e w1 ⟨rfl, rfl⟩
  obtain ⟨k0, k1, k2, k3, k4, k5⟩ := H0.out.db.cells
  cases hh : hasB s.n i with
  | false =>
    go_wp2_with (refine wpList_store_mid rfl 66 _ _ rfl w.heap.size 0 (bv z64).toArray rfl rfl (there_sec z64_length S0.out.1) (size_sec z64_length) (bv_one' _) ?_)
    refine bodyPost_ret (v := .tuple #[.agg (bv z64).toArray, .int .i64 1]) ?_ rfl ⟨by simp [rdV, rdE, hh], below_setCells _ (Nat.le_refl _) _ _ _ S0.out.2.1⟩
    have q := World.rangeAt_setCells_same _ w.heap.size 0 (bv z64) (there_sec z64_length S0.out.1)
    simp only [results, Tryd.results56]
    simp [asAddr, run_loadVar_mid _ w.heap.size 0 66 (bv z64) _ q Tryd.underlying66 rfl (by rw [bv_length, z64_length]; exact size64)]
  | true =>
    cases hdn : s.dn with
    | true =>
      rw [hdn] at k3
      go_wp2_with (refine wpList_store_mid rfl 66 _ _ rfl w.heap.size 0 (bv z64).toArray rfl rfl (there_sec z64_length S0.out.1) (size_sec z64_length) (bv_one' _) ?_)
      refine bodyPost_ret (v := .tuple #[.agg (bv z64).toArray, .int .i64 9]) ?_ rfl ⟨by simp [rdV, rdE, hh, hdn], below_setCells _ (Nat.le_refl _) _ _ _ S0.out.2.1⟩
      have q := World.rangeAt_setCells_same _ w.heap.size 0 (bv z64) (there_sec z64_length S0.out.1)
      simp only [results, Tryd.results56]
      simp [asAddr, run_loadVar_mid _ w.heap.size 0 66 (bv z64) _ q Tryd.underlying66 rfl (by rw [bv_length, z64_length]; exact size64)]
    | false =>
      rw [hdn] at k3
      obtain ⟨ad, cap, hv, hcap, hn0, hsh⟩ := H0.out.wb.shape
      have HS : Hid (∀ a, ad = some a → ∃ b, a = ⟨b, 0, none⟩ ∧ b < w1.heap.size ∧ (∀ i p, s.wt[i]? = some p → w1.rangeAt b (i * 65) (wc p))) := hsh
      clear hsh
      subst hv
      have hin : ((i.toNat : Nat) : Int) = i ∧ i.toNat < s.n := by
        unfold hasB at hh
        simp only [Bool.and_eq_true, decide_eq_true_eq] at hh
        omega
      have HI : Hid (((i.toNat : Nat) : Int) = i ∧ i.toNat < s.n) := hin
      have hi0 : 0 ≤ i := by omega
      have hi1 : i < (s.n : Int) := by omega
      clear hin
      go_wp2_with fail
      go_loopw [6] (fun c wr => wr = w1 ∧ ∃ k : Nat, k ≤ s.wt.length ∧ c = .int .i64 ((k : Int) - 1) ∧ Hid (∀ (m : Nat) (q : Nat × List Int), k ≤ m → s.wt[m]? = some q → q.1 ≠ i.toNat)) (fun c _ => (intOf c + 1).toNat)
      case atStart =>
        refine ⟨rfl, s.wt.length, Nat.le_refl _, ?_, fun m q hm hq => ?_⟩
        · have hw : wrap64 ((s.wt.length : Int) - 1) = (s.wt.length : Int) - 1 := by have := H0.out.wb.le; unfold wrap64; omega
          rw [hw]
        · rw [List.getElem?_eq_none hm] at hq; cases hq
      case round =>
        obtain ⟨rfl, k, hk, rfl, HK⟩ := hrel
        cases k with
        | zero =>
          have HL : Hid ((s.st i.toNat).length = 64) := H0.out.sb.len _ HI.out.2
          have HLK : Hid (rdV s i = s.st i.toNat) := by
            show rdV s i = _
            simp only [rdV, hh, hdn]
            refine look_none _ _ _ (fun q hq => ?_)
            obtain ⟨m, hm⟩ := List.getElem?_of_mem hq
            exact HK.out m q (Nat.zero_le _) hm
          go_wp2_with (first
            | (refine wpList_load_mid rfl 66 _ rfl gs (i.toNat * 64) rfl (bv (s.st i.toNat)) _ (H0.out.sb.at' _ HI.out.2) Tryd.underlying66 rfl (by rw [bv_length, HL.out]; exact size64) ?_)
            | (refine wpList_store_mid rfl 66 _ _ rfl w.heap.size 0 (bv (s.st i.toNat)).toArray rfl rfl (there_sec HL.out S0.out.1) (size_sec HL.out) (bv_one' _) ?_))
          refine bodyPost_ret (v := .tuple #[.agg (bv (s.st i.toNat)).toArray, .int .i64 0]) ?_ rfl ⟨by rw [HLK.out]; simp [rdE, hh, hdn], below_setCells _ (Nat.le_refl _) _ _ _ S0.out.2.1⟩
          have q := World.rangeAt_setCells_same _ w.heap.size 0 (bv (s.st i.toNat)) (there_sec HL.out S0.out.1)
          simp only [results, Tryd.results56]
          simp [asAddr, run_loadVar_mid _ w.heap.size 0 66 (bv (s.st i.toNat)) _ q Tryd.underlying66 rfl (by rw [bv_length, HL.out]; exact size64)]
        | succ j =>
          obtain ⟨p, hp⟩ : ∃ p, s.wt[j]? = some p := ⟨s.wt[j], List.getElem?_eq_getElem (by omega)⟩
          cases ad with
          | none => rw [hn0 rfl] at hp; simp at hp
          | some ad =>
            obtain ⟨b, rfl, hb, hm⟩ := HS.out ad rfl
            have hr := hm j p hp
            have hc0 : wr.cell? ⟨b, j * 65, none⟩ = some (.int .i64 (p.1 : Int)) := hr 0 _ rfl
            have HR : Hid (wr.rangeAt b (j * 65 + 1) (bv p.2)) := fun m u hu => by
              have := hr (m + 1) u (by simpa [wc] using hu)
              rwa [show j * 65 + (m + 1) = j * 65 + 1 + m by omega] at this
            have HP : Hid (p.2.length = 64 ∧ s.wt[j]? = some p) := ⟨(H0.out.wb.ok p (List.mem_of_getElem? hp)).2, hp⟩
            clear hm hr hp hn0 hb
            by_cases he : (p.1 : Int) = i
            · have HLK : Hid (rdV s i = p.2) := by
                show rdV s i = _
                simp only [rdV, hh, hdn]
                exact look_at _ _ _ j p HP.out.2 (by omega) (fun m q hm hq => HK.out m q hm hq)
              go_wp2_with (first
                | (refine wpList_load_mid rfl 66 _ rfl b (j * 65 + 1) rfl (bv p.2) _ HR.out Tryd.underlying66 rfl (by rw [bv_length, HP.out.1]; exact size64) ?_)
                | (refine wpList_store_mid rfl 66 _ _ rfl w.heap.size 0 (bv p.2).toArray rfl rfl (there_sec HP.out.1 S0.out.1) (size_sec HP.out.1) (bv_one' _) ?_))
              refine bodyPost_ret (v := .tuple #[.agg (bv p.2).toArray, .int .i64 0]) ?_ rfl ⟨by rw [HLK.out]; simp [rdE, hh, hdn], below_setCells _ (Nat.le_refl _) _ _ _ S0.out.2.1⟩
              have q := World.rangeAt_setCells_same _ w.heap.size 0 (bv p.2) (there_sec HP.out.1 S0.out.1)
              simp only [results, Tryd.results56]
              simp [asAddr, run_loadVar_mid _ w.heap.size 0 66 (bv p.2) _ q Tryd.underlying66 rfl (by rw [bv_length, HP.out.1]; exact size64)]
            · go_wp2_with fail
              have hw : wrap64 ((j : Int) - 1) = (j : Int) - 1 := by have := H0.out.wb.le; unfold wrap64; omega
              rw [hw]
              refine ⟨⟨trivial, j, by omega, rfl, fun m q hm hq => ?_⟩, by simp [intOf]⟩
              rcases Nat.eq_or_lt_of_le hm with e | e
              · subst e
                rw [HP.out.2] at hq; cases hq
                have := HI.out.1
                omega
              · exact HK.out m q e hq
end Go.Proofs.YtphjjjijdbljaaaDoor
