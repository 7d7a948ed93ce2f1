/- Write. -/
import Derived.Test.YtphjjjijdbljaaaDoorDskC
import Derived.Great.FillDense
import Derived.Deep.DeepAppendWide
namespace Go.Proofs.YtphjjjijdbljaaaDoor
open Go Go.RowKit
set_option linter.unusedSimpArgs false
set_option linter.unusedVariables false
set_option maxRecDepth 100000

def wrE (s : Dk) (i : Int) : Int := match hasB s.n i, s.lost, s.fu with
  | false, _, _ => 1
  | true, true, _ => 9
  | true, false, true => 5
  | true, false, false => 0
def wrS (s : Dk) (i : Int) (x : List Int) : Dk := match hasB s.n i, s.lost, s.fu with
  | false, _, _ => s
  | true, true, _ => s.burn
  | true, false, true => s.burn
  | true, false, false => { s.burn with wt := s.wt ++ [(i.toNat, x)] }
theorem burn_n (s : Dk) : s.burn.n = s.n ∧ s.burn.wt = s.wt ∧ s.burn.fu = s.fu ∧ s.burn.st = s.st := by
  unfold Dk.burn; split <;> exact ⟨rfl, rfl, rfl, rfl⟩
theorem info_write : ∃ i z, Tryd.prog.info? 81 = some i ∧ i.zero = some z ∧ i.size = 65 ∧ i.bytes = 72 ∧ z.cells.size = 65 := by
  have h1 : (Tryd.prog.info? 81).map (·.size) = some 65 := by kernel_rfl
  have h2 : (Tryd.prog.info? 81).map (·.bytes) = some 72 := by kernel_rfl
  have h3 : (Tryd.prog.info? 81).bind (fun i => i.zero.map (·.cells.size)) = some 65 := by kernel_rfl
  cases hq : Tryd.prog.info? 81 with
  | none => rw [hq] at h1; cases h1
  | some i =>
    rw [hq] at h1 h2 h3
    cases hz : i.zero with
    | none => simp [hz] at h3
    | some z => exact ⟨i, z, rfl, hz, Option.some.inj h1, Option.some.inj h2, by simpa [hz] using h3⟩
/-- append of one write: in place, or in a new block. -/
theorem app_wide (w : World) (base : Nat) (t ty e : TypeId) (i : TypeInfo) (z : Value) (size bytes : Nat) (ht : Tryd.prog.underlying t = some (.slice e)) (hi : Tryd.prog.info? e = some i) (hz : i.zero = some z)
    (hsize : i.size = size) (hby : i.bytes = bytes) (hzs : z.cells.size = size) (hsz : 0 < size) (hb72 : bytes = 72) (hbase : base = 0)
    (v : Value) (n : Nat) (xs : List Value) (hown : w.ownsRow base e size v n xs)
    (a : Addr) (c : Nat) (news : List Value) (hl : news.length = 1 * size) (hnews : ∀ j u, news[j]? = some u → w.cell? (a.add j) = some u) (h1 : ∀ u ∈ news, u.oneCell' = true)
    (hN : (n + 1) * 72 ≤ 216000000000000) :
    ∃ v' w', (Builtin.append_ #[t, t] ty #[v, .slice (some a) 1 c]).run Tryd.prog w = .ok v' w' ∧ w'.ownsRow base e size v' (n + 1) (xs ++ news) ∧ w.grownBy w' v.ownBlock ∧ (v'.ownBlock = v.ownBlock ∨ v'.ownBlock = some w.heap.size) := by
  subst hbase
  have h63 : n + 1 ≤ maxLen := by unfold maxLen; omega
  have hn3 : n + 1 ≤ 3000000000000 := by omega
  have hbytes : ((n + 1) + (n + 1) / 4 + 192) * bytes ≤ 281474976710656 := by
    subst hb72
    exact Nat.le_trans (Nat.mul_le_mul_right 72 (show (n + 1) + (n + 1) / 4 + 192 ≤ 3750000000192 by omega)) (by decide)
  obtain ⟨v', w', hr, h2, h3, -⟩ := run_append_own_wide (P := Tryd.prog) w 0 t ty e i z size bytes ht hi hz hsize hby hzs hsz v n xs hown a 1 c news hl hnews h1 h63 hbytes (Nat.zero_le _)
  refine ⟨v', w', hr, h2, h3, ?_⟩
  subst hsize
  rcases hown.2 with ⟨rfl, rfl⟩ | ⟨g, cap, cur, rfl, -, hg, hnc, -, hcs, -⟩
  · have hq := run_append_nil (P := Tryd.prog) w t ty e i z ht hi hz a 1 c news hl hnews (by omega) (by omega) (by rw [hby, hb72]; omega)
    rw [hr] at hq
    injection hq with e1 e2
    rw [e1]; exact .inr rfl
  · by_cases hroom : n + 1 ≤ cap
    · have hq := run_append_room (P := Tryd.prog) w t ty e i ht hi g n cap cur hg a 1 c news hl hnews h1 hroom (by rw [hl, hcs, ← Nat.add_mul]; exact Nat.mul_le_mul_right _ hroom)
      rw [hr] at hq
      injection hq with e1 e2
      rw [e1]; exact .inl rfl
    · have hq := run_append_grow (P := Tryd.prog) w t ty e i z ht hi hz ⟨g, 0, none⟩ n cap xs hown.1 (hown.cells (g := g) rfl) a 1 c news hl hnews (by omega) (by unfold maxLen at h63; omega) (growslice_fits_wide (by omega) (by rw [hby]; exact hbytes))
      rw [hr] at hq
      injection hq with e1 e2
      rw [e1]; exact .inr rfl
/-- The literal of one write, laid in a block of its own. -/
theorem run_lit (w : World) (p : Nat × List Int) (hp : p.2.length = 64) : (Instr.buildSlice 57 1 #[(0, .agg (wc p).toArray)]).run Tryd.prog w = .ok (.slice (some ⟨w.heap.size, 0, none⟩) 1 1) (w.alloc (.cells (wc p).toArray 81)) := by
  obtain ⟨i, z, hi, hz, hs, hb, hzs⟩ := info_write
  have h1 := wc_length hp
  refine run_buildSlice w 57 81 1 _ (wc p).toArray i z Tryd.underlying57 hi hz (by omega) (by omega) ?_
  have := _root_.Go.Great.fill_whole (s := i.size) (by omega) [.agg (wc p).toArray] ((Array.range (1 * i.size)).map (z.cells[· % z.cells.size]!)) (by intro v hv; simp at hv; subst hv; simp [Value.cells, hs, h1]) (by simp)
  simpa [Value.cells] using this
theorem rangeAt_alloc (w : World) (cs : List Value) (t : TypeId) : (w.alloc (.cells cs.toArray t)).rangeAt w.heap.size 0 cs := by
  intro j u hu
  rw [Nat.zero_add]
  have : (w.alloc (.cells cs.toArray t)).heap[w.heap.size]? = some (.cells cs.toArray t) := by show (w.heap.push _)[w.heap.size]? = _; simp
  unfold World.cell?; rw [this]; simpa using hu
/-- What the region has done, step by step. -/
def WΩ (F : Nat → Prop) (w0 : World) (g : Nat) (s : Dk) (gs bx : Nat) (wv : Value) (fd : Bool) (fz : Int) (p : Nat × List Int) : Nat → (Nat → Value) → World → Prop
  | 0, _, w => PX F w g s gs wv fd fz ∧ Chg F w0 w ∧ w.rangeAt bx 0 (bv p.2)
  | 1, U, w => PX F w g s gs wv fd fz ∧ Chg F w0 w ∧ ∃ b, U 0 = .slice (some ⟨b, 0, none⟩) 1 1 ∧ w.rangeAt b 0 (wc p)
  | 2, U, w => DB w g (.slice (some ⟨gs, 0, none⟩) s.n s.n) wv s.fu s.dn fd fz ∧ SB w gs s.n s.st ∧ WB 81 w (U 1) s.n (s.wt ++ [p]) ∧ Chg F w0 w ∧ ((U 1).ownBlock = wv.ownBlock ∨ ∃ b, (U 1).ownBlock = some b ∧ w0.heap.size ≤ b)
  | _, U, w => DB w g (.slice (some ⟨gs, 0, none⟩) s.n s.n) (U 1) s.fu s.dn fd fz ∧ SB w gs s.n s.st ∧ WB 81 w (U 1) s.n (s.wt ++ [p]) ∧ Chg F w0 w ∧ ((U 1).ownBlock = wv.ownBlock ∨ ∃ b, (U 1).ownBlock = some b ∧ w0.heap.size ≤ b)
def wf (g bx : Nat) (wv : Value) (i : Int) (p : Nat × List Int) : Nat → Value
  | 0 => .pointer (some ⟨g, 0, none⟩)
  | 1 => .pointer (some ⟨g, 0, none⟩)
  | 2 => .pointer (some ⟨g, 0, none⟩)
  | 3 => .pointer (some ⟨g, 1, none⟩)
  | 4 => wv
  | 5 => .int .i64 i
  | 6 => .agg (bv p.2).toArray
  | 7 => .agg (wc p).toArray
  | 10 => .pointer (some ⟨g, 0, none⟩)
  | 11 => .pointer (some ⟨g, 1, none⟩)
  | _ => undef
def wK : Nat → Nat
  | 4 => 1
  | 6 => 0
  | _ => 3
set_option maxHeartbeats 2000000 in
theorem write_PX {F : Nat → Prop} {w : World} {g : Nat} {s : Dk} {gs : Nat} {wv : Value} {fd : Bool} {fz : Int} (h : PX F w g s gs wv fd fz) (i : Int) (x : List Int) (hx : x.length = 64) (hN : (s.wt.length + 1) * 72 ≤ 216000000000000) :
    Calls Tryd.prog 83 #[.pointer (some ⟨g, 0, none⟩), .int .i64 i, .agg (bv x).toArray] w fun e w' => e = .returned (.int .i64 (wrE s i)) ∧ Aft F w w' g (wrS s i x) := by
  have H : Hid (PX F w g s gs wv fd fz) := h
  have HX : Hid (x.length = 64) := hx
  have HN : Hid ((s.wt.length + 1) * 72 ≤ 216000000000000) := hN
  clear h hx hN
  go_enter Tryd.func83, Tryd.ntmps83
  go_wp2_with fail
  have hR := rangeAt_alloc w (bv x) 66
  generalize hW : w.alloc _ = w0 at hR ⊢
  have C0 : Hid (Chg F w w0) := by rw [← hW]; exact (Chg.refl _ _).alloc _
  have H0 : Hid (PX F w0 g s gs wv fd fz) := H.out.keep C0.out.size (fun b hb => by rw [← hW]; exact ((Below.refl w.heap.size w).alloc (Nat.le_refl _) _).block b (H.out.Flt b hb))
  have R0 : Hid (w0.rangeAt w.heap.size 0 (bv x)) := hR
  have Z0 : Hid (w0.heap.size = w.heap.size + 1) := (by rw [← hW]; simp : w0.heap.size = w.heap.size + 1)
  clear hW hR
  refine (has_any H0.out.db i).mono ?_
  rintro e w1 ⟨rfl, rfl⟩
  cases hh : hasB s.n i with
  | false =>
    go_wp2_with fail
    go_ret
    exact ⟨by simp [wrE, hh], F, by simp only [wrS, hh]; exact ⟨_, _, _, _, H0.out⟩, C0.out, fun b hb => .inl hb⟩
  | true =>
    go_wp2_with fail
    refine (operates_PX H0.out).mono ?_
    rintro e w2 ⟨rfl, ⟨fd', fz', h1⟩, h2, h3⟩
    have H1 : Hid (PX F w2 g s.burn gs wv fd' fz') := h1
    have C1 : Hid (Chg F w w2) := C0.out.trans (h2.mono (fun b hb => by subst hb; exact H0.out.Fg))
    have R1 : Hid (w2.rangeAt w.heap.size 0 (bv x)) := fun j u hu => (World.cell?_of_block (w := w1) (w' := w2) (a := ⟨w.heap.size, 0 + j, none⟩) (h2.other _ (by rw [Z0.out]; exact Nat.lt_succ_self _) (fun e => by have := H.out.Flt g H.out.Fg; have e' : w.heap.size = g := e; omega))).trans (R0.out j u hu)
    clear h1 h2 h3
    obtain ⟨B1, B2, B3, B4⟩ := burn_n s
    cases hl : s.lost with
    | true =>
      go_wp2_with fail
      go_ret
      exact ⟨by simp [wrE, hh, hl], F, by simp only [wrS, hh, hl]; exact ⟨_, _, _, _, H1.out⟩, C1.out, fun b hb => .inl hb⟩
    | false =>
      obtain ⟨-, k1, k2, -, -, -⟩ := H1.out.db.cells
      have f1 := H1.out.db.froz 1
      rw [B3] at k2
      cases hf : s.fu with
      | true =>
        rw [hf] at k2
        go_wp2_with fail
        go_ret
        exact ⟨by simp [wrE, hh, hl, hf], F, by simp only [wrS, hh, hl, hf]; exact ⟨_, _, _, _, H1.out⟩, C1.out, fun b hb => .inl hb⟩
      | false =>
        rw [hf] at k2
        go_wp2_with fail
        refine RT.wp_rgn [8, 9, 12] (wf g w.heap.size wv i (i.toNat, x)) wK (WΩ F w g s.burn gs w.heap.size wv fd' fz' (i.toNat, x)) (by kernel_rfl) (by kernel_rfl) ?_ ?_ ?_
        · exact ⟨H1.out.keep (Nat.le_refl _) (fun _ _ => rfl), C1.out.trans ⟨rfl, rfl, rfl, Nat.le_refl _, fun _ _ _ => rfl⟩, fun j u hu => R1.out j u hu⟩
        · have hp0 : ((i.toNat : Nat) : Int) = i := by
            unfold hasB at hh
            simp only [Bool.and_eq_true, decide_eq_true_eq] at hh
            omega
          have hin : i.toNat < s.burn.n := by
            unfold hasB at hh
            simp only [Bool.and_eq_true, decide_eq_true_eq] at hh
            rw [B1]; omega
          refine ⟨?_, ?_, ?_, ?_, ?_, ?_, ?_, ?_, ?_, ?_, ?_, ?_, ?_, trivial⟩
          · refine RT.ObT.pure rfl rfl rfl (fun a U hf hp ev he hc W => ?_)
            have q0 : ev (.tmp 0) = .pointer (some ⟨g, 0, none⟩) := (he (.tmp 0)).trans (hf 0 rfl)
            simp only [List.getElem_toArray, List.getElem_cons_succ, List.getElem_cons_zero, execOp]; rw [q0]; rfl
          · refine RT.ObT.pure rfl rfl rfl (fun a U hf hp ev he hc W => ?_)
            have q0 : ev (.tmp 0) = .pointer (some ⟨g, 0, none⟩) := (he (.tmp 0)).trans (hf 0 rfl)
            simp only [List.getElem_toArray, List.getElem_cons_succ, List.getElem_cons_zero, execOp]; rw [q0]; rfl
          · refine RT.ObT.pure rfl rfl rfl (fun a U hf hp ev he hc W => ?_)
            have q19 : ev (.tmp 19) = .pointer (some ⟨g, 0, none⟩) := (he (.tmp 19)).trans (hp 1 19 rfl)
            simp only [List.getElem_toArray, List.getElem_cons_succ, List.getElem_cons_zero, execOp]; rw [q19]; rfl
          · refine RT.ObT.pure rfl rfl rfl (fun a U hf hp ev he hc W => ?_)
            have q20 : ev (.tmp 20) = .pointer (some ⟨g, 0, none⟩) := (he (.tmp 20)).trans (hp 2 20 rfl)
            simp only [List.getElem_toArray, List.getElem_cons_succ, List.getElem_cons_zero, execOp]; rw [q20]; rfl
          · refine RT.ObT.silent rfl (fun a W k U hO hf hp hk => ?_)
            have hk' : k ≤ 1 := hk
            have hc1 : W.cell? ⟨g, 1, none⟩ = some wv := by
              match k, hk', hO with
              | 0, _, hO => exact hO.1.db.cells.2.1
              | 1, _, hO => exact hO.1.db.cells.2.1
            refine RT.ob_val rfl (RT.wanted_none rfl) (fun ev he hc => ?_) ⟨rfl, hO⟩
            have q21 : ev (.tmp 21) = .pointer (some ⟨g, 1, none⟩) := (he (.tmp 21)).trans (hp 3 21 rfl)
            simp only [List.getElem_toArray, List.getElem_cons_succ, List.getElem_cons_zero, execOp]; rw [q21]; go_simp; rfl
          · refine RT.ObT.pure rfl rfl rfl (fun a U hf hp ev he hc W => ?_)
            have q1 : ev (.tmp 1) = .int .i64 i := (he (.tmp 1)).trans (hf 1 rfl)
            simp only [List.getElem_toArray, List.getElem_cons_succ, List.getElem_cons_zero, execOp]; rw [q1]; rfl
          · refine RT.ObT.silent rfl (fun a W k U hO hf hp hk => ?_)
            have hk' : k ≤ 0 := hk
            obtain rfl : k = 0 := by omega
            refine RT.ob_op rfl (RT.wanted_none rfl) (wp_load_mid 66 (.tmp 5) rfl w.heap.size 0 (hf 5 rfl) (bv x) _ hO.2.2 Tryd.underlying66 rfl (by rw [bv_length, HX.out]; exact size64) ⟨rfl, hO⟩)
          · refine RT.ObT.pure rfl rfl rfl (fun a U hf hp ev he hc W => ?_)
            have q23 : ev (.tmp 23) = .int .i64 i := (he (.tmp 23)).trans (hp 5 23 rfl)
            have q24 : ev (.tmp 24) = .agg (bv x).toArray := (he (.tmp 24)).trans (hp 6 24 rfl)
            have qb := built_write i.toNat x HX.out
            rw [hp0] at qb
            simp only [List.getElem_toArray, List.getElem_cons_succ, List.getElem_cons_zero, execOp]
            simp only [List.map_toArray, List.map_cons, List.map_nil, q23, q24, Sem.run_bind, run_build W 81 _ _ qb, Result.andThen_ok]
            rfl
          · refine RT.ObT.loud (j := 0) rfl (fun a W U hO hf hp => ?_)
            have q25 : a.eval (.tmp 25) = .agg (wc (i.toNat, x)).toArray := hp 7 25 rfl
            refine RT.ob_run (v := .slice (some ⟨W.heap.size, 0, none⟩) 1 1) (w' := W.alloc (.cells (wc (i.toNat, x)).toArray 81)) rfl (RT.wanted_none rfl) (fun ev he hc => ?_) ⟨_, rfl, ?_⟩
            · have q := (he (.tmp 25)).trans q25
              simp only [List.getElem_toArray, List.getElem_cons_succ, List.getElem_cons_zero, execOp]
              simp only [List.map_toArray, List.map_cons, List.map_nil, q, Sem.run_bind, run_lit W (i.toNat, x) HX.out, Result.andThen_ok]
              rfl
            · have hb : Below W.heap.size W (W.alloc (.cells (wc (i.toNat, x)).toArray 81)) := (Below.refl _ _).alloc (Nat.le_refl _) _
              exact ⟨hO.1.keep hb.size (fun b hb' => hb.block b (hO.1.Flt b hb')), hO.2.1.alloc _, W.heap.size, rfl, rangeAt_alloc W (wc (i.toNat, x)) _⟩
          · refine RT.ObT.loud (j := 1) rfl (fun a W U hO hf hp => ?_)
            obtain ⟨h1, h2, b, hU, hr⟩ := hO
            have q22 : a.eval (.tmp 22) = wv := hp 4 22 rfl
            have q26 : a.eval (.tmp 26) = U 0 := hp 8 26 rfl
            rw [hU] at q26
            obtain ⟨ti, tz, ti1, ti2, ti3, ti4, ti5⟩ := info_write
            have hnw : Wok s.burn.n (s.burn.wt ++ [(i.toNat, x)]) := fun p hp => by
              rcases List.mem_append.1 hp with hp | hp
              · exact h1.wb.ok p hp
              · simp at hp; subst hp; exact ⟨hin, HX.out⟩
            obtain ⟨v', W', g1, g2, g3, g5⟩ := app_wide W 0 57 57 81 ti tz 65 72 Tryd.underlying57 ti1 ti2 ti3 ti4 ti5 (by omega) rfl rfl wv s.burn.wt.length (wcs s.burn.wt) h1.wb.row ⟨b, 0, none⟩ 1 (wc (i.toNat, x)) (by rw [wc_length HX.out]) (fun j u hu => by rw [Addr.add_mid]; exact hr j u hu) (wc_one _) (by rw [B2]; exact HN.out)
            refine RT.ob_run (v := v') (w' := W') rfl (RT.wanted_none rfl) (fun ev he hc => ?_) ⟨_, rfl, ?_⟩
            · have e1 := (he (.tmp 22)).trans q22
              have e2 := (he (.tmp 26)).trans q26
              simp only [List.getElem_toArray, List.getElem_cons_succ, List.getElem_cons_zero, execOp]
              simp only [resolve, invoke, builtin, Sem.run_bind, Sem.run_pure, Result.andThen_ok, List.map_toArray, List.map_cons, List.map_nil, e1, e2, g1]
            · have hother : ∀ c, c < W.heap.size → wv.ownBlock ≠ some c → W'.heap[c]? = W.heap[c]? := fun c hc hne => g3.block c hc (Ne.symm hne)
              refine ⟨h1.db.keep (hother g h1.db.lt h1.wg), h1.sb.keep (hother gs h1.sb.lt h1.wgs), ⟨?_, hnw⟩, h2.trans' (G := fun c => wv.ownBlock = some c) ⟨g3.os, g3.tape, g3.output, g3.size, fun c hc hne => hother c hc hne⟩ (fun c hc => .inl (h1.Fw c hc)), ?_⟩
              · show W'.ownsRow 0 81 65 v' (s.burn.wt ++ [(i.toNat, x)]).length (wcs (s.burn.wt ++ [(i.toNat, x)]))
                rw [wcs_snoc, List.length_append]; exact g2
              · show v'.ownBlock = wv.ownBlock ∨ ∃ b, v'.ownBlock = some b ∧ w.heap.size ≤ b
                rcases g5 with g5 | g5
                · exact .inl g5
                · exact .inr ⟨_, g5, h2.size⟩
          · refine RT.ObT.pure rfl rfl rfl (fun a U hf hp ev he hc W => ?_)
            have q18 : ev (.tmp 18) = .pointer (some ⟨g, 0, none⟩) := (he (.tmp 18)).trans (hp 0 18 rfl)
            simp only [List.getElem_toArray, List.getElem_cons_succ, List.getElem_cons_zero, execOp]; rw [q18]; rfl
          · refine RT.ObT.pure rfl rfl rfl (fun a U hf hp ev he hc W => ?_)
            have q28 : ev (.tmp 28) = .pointer (some ⟨g, 0, none⟩) := (he (.tmp 28)).trans (hp 10 28 rfl)
            simp only [List.getElem_toArray, List.getElem_cons_succ, List.getElem_cons_zero, execOp]; rw [q28]; rfl
          · refine RT.ObT.loud (j := 2) rfl (fun a W U hO hf hp => ?_)
            obtain ⟨h1, h2, h3, h4, h5⟩ := hO
            have q29 : a.eval (.tmp 29) = .pointer (some ⟨g, 1, none⟩) := hp 11 29 rfl
            have q27 : a.eval (.tmp 27) = U 1 := hp 9 27 rfl
            have k1 := h1.cells.2.1
            have f1 := h1.froz 1
            obtain ⟨ad, cp, hU, -⟩ := h3.shape
            refine RT.ob_skip (w' := W.setCell ⟨g, 1, none⟩ (U 1)) rfl (RT.wanted_none rfl) (fun ev he hc => ?_) ⟨_, rfl, ?_⟩
            · have e1 := (he (.tmp 29)).trans q29
              have e2 := (he (.tmp 27)).trans q27
              simp only [List.getElem_toArray, List.getElem_cons_succ, List.getElem_cons_zero, execOp]
              rw [e1, e2, hU]
              go_simp
            · have hne : ∀ c, c ≠ g → (W.setCell ⟨g, 1, none⟩ (U 1)).heap[c]? = W.heap[c]? := fun c hc => Below.heap_setCell _ _ _ _ hc
              refine ⟨h1.set1 (U 1), h2.keep (hne gs (Ne.symm H1.out.ggs)), h3.keep (fun c hc => hne c (fun e => ?_)), h4.setCell H1.out.Fg, h5⟩
              subst e
              rcases h5 with h5 | ⟨b, h5, hb⟩
              · exact H1.out.wg (h5.symm.trans hc)
              · have e : b = c := Option.some.inj (h5.symm.trans hc)
                have := H.out.Flt c H.out.Fg
                omega
        · intro a w' U hs hd hfx hO hv
          have HO : Hid (WΩ F w g s.burn gs w.heap.size wv fd' fz' (i.toNat, x) 3 U w') := hO
          clear hO hv hfx
          go_wp2_with fail
          refine bodyPost_ret (v := .int .i64 0) ?_ rfl ⟨by simp [wrE, hh, hl, hf], ?_⟩
          · have hs0 : a.tmps.size = 30 := hs
            have hs' : 6 < a.tmps.size := by omega
            simp only [results, Tryd.results83]
            simp [Act.eval, hs']
          · obtain ⟨h1, h2, h3, h4, h5⟩ := HO.out
            have e1 : wrS s i x = { s.burn with wt := s.burn.wt ++ [(i.toNat, x)] } := by simp only [wrS, hh, hl, hf]; rw [B2]
            rw [e1]
            have hnew : ∀ b, (U 1).ownBlock = some b → F b ∨ w.heap.size ≤ b := fun b hb => by
              rcases h5 with h5 | ⟨c, h5, hc⟩
              · exact .inl (H1.out.Fw b (h5.symm.trans hb))
              · rw [hb] at h5; cases h5; exact .inr hc
            refine ⟨fun b => F b ∨ (U 1).ownBlock = some b, ⟨gs, U 1, fd', fz', ⟨h1, H1.out.fz, h2, h3, H1.out.ggs, ?_, ?_, .inl H1.out.Fg, .inl H1.out.Fgs, fun b hb => .inr hb, ?_, H1.out.n1, H1.out.n2⟩⟩, h4, ?_⟩
            · rcases h5 with h5 | ⟨c, h5, hc⟩
              · rw [h5]; exact H1.out.wg
              · rw [h5]; intro e; cases e; have := H.out.Flt g H.out.Fg; omega
            · rcases h5 with h5 | ⟨c, h5, hc⟩
              · rw [h5]; exact H1.out.wgs
              · rw [h5]; intro e; cases e; have := H.out.Flt gs H.out.Fgs; omega
            · intro b hb
              rcases hb with hb | hb
              · exact Nat.lt_of_lt_of_le (H.out.Flt b hb) h4.size
              · exact h3.lt hb
            · intro b hb
              rcases hb with hb | hb
              · exact .inl hb
              · exact hnew b hb
end Go.Proofs.YtphjjjijdbljaaaDoor
