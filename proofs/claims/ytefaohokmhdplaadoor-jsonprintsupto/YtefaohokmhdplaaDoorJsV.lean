/- Package json: members. -/
import Derived.Test.YtefaohokmhdplaaDoorJsU
import Derived.Deep.MidRow
namespace Go.Proofs.YtefaohokmhdplaaDoor
open Go Go.RowKit
set_option linter.unusedSimpArgs false
set_option linter.unusedVariables false
set_option maxRecDepth 100000

/-- What a member's reading answers. -/
def MP (g : Nat) (s : ByteArray) (d : Nat) (w : World) : Out (ByteArray × JV) → Ending → World → Prop
  | .ok m j, e, w' => ∃ v, e = .returned (.tuple #[.agg #[.string m.1, v], .int .i64 0]) ∧ PB w' g s j d ∧ Cg g w w' ∧ VJ (fun b => w.heap.size ≤ b) w' v m.2
  | .bad j, e, w' => ∃ t v, e = .returned (.tuple #[.agg #[.string t, v], .int .i64 2]) ∧ IsI v ∧ (∃ d', PB w' g s j d') ∧ Cg g w w'
  | .big j, e, w' => ∃ t v, e = .returned (.tuple #[.agg #[.string t, v], .int .i64 6]) ∧ IsI v ∧ (∃ d', PB w' g s j d') ∧ Cg g w w'
theorem cell_of2 {w : World} {b : Nat} {x y : Value} {t : TypeId} (h : w.heap[b]? = some (.cells #[x, y] t (0, 0))) : w.cell? ⟨b, 0, none⟩ = some x ∧ w.cell? ⟨b, 1, none⟩ = some y ∧ w.frozen? ⟨b, 0, none⟩ = false ∧ w.frozen? ⟨b, 1, none⟩ = false := by
  refine ⟨?_, ?_, ?_, ?_⟩
  · simp only [World.cell?, h]; simp
  · simp only [World.cell?, h]; simp
  · simp [World.frozen?, h]
  · simp [World.frozen?, h]
/-- Two results: the first lies in memory. -/
theorem results_mid_tmp {P : Program} {fn : Func} {p q : Tmp} {ty : TypeId} (h : fn.results = #[.cell p ty, .tmp q]) (tmps : Array Value) (w : World) (b o : Nat) (cs : List Value) (d : TypeDesc) (x : Value)
    (hp : tmps.getD p undef = .pointer (some ⟨b, o, none⟩)) (hq : tmps.getD q undef = x) (hc : w.rangeAt b o cs) (hu : P.underlying ty = some d) (hd : d.isRow = true) (hi : (P.info? ty).map (·.size) = some cs.length) :
    (results fn tmps).run P w = .ok (.tuple #[.agg cs.toArray, x]) w := by
  have hp' : tmps[p]?.getD undef = .pointer (some ⟨b, o, none⟩) := by simpa using hp
  have hq' : tmps[q]?.getD undef = x := by simpa using hq
  simp [results, h, hp', hq', asAddr, run_loadVar_mid w b o ty cs d hc hu hd hi]
theorem range2 {w : World} {b : Nat} {x y : Value} {t : TypeId} (h : w.heap[b]? = some (.cells #[x, y] t (0, 0))) : w.rangeAt b 0 [x, y] := fun j v hv => by
  rw [Nat.zero_add, cell_of_row w b j _ t _ h]
  simpa using hv
theorem mem_post {Q : Ending → World → Prop} {tmps : Array Value} {W : World} {M : Nat} {x y : Value} {c : Int} (hW : W.heap[M]? = some (.cells #[x, y] 75 (0, 0))) (hp : tmps.getD 4 undef = .pointer (some ⟨M, 0, none⟩)) (hq : tmps.getD 5 undef = .int .i64 c) (hQ : Q (.returned (.tuple #[.agg #[x, y], .int .i64 c])) W) :
    bodyPost Tryd.prog Tryd.f80 Q Exit.ret { tmps := tmps, defers := [] } W := by
  refine bodyPost_ret (v := .tuple #[.agg [x, y].toArray, .int .i64 c]) ?_ rfl hQ
  exact results_mid_tmp Tryd.results80 _ _ M 0 [x, y] _ _ hp hq (range2 hW) Tryd.underlying75 rfl (by kernel_rfl)
theorem set2_at {W : World} {M : Nat} {x y : Value} {t : TypeId} (h : W.heap[M]? = some (.cells #[x, y] t (0, 0))) (x' y' : Value) : ((W.setCell ⟨M, 0, none⟩ x').setCell ⟨M, 1, none⟩ y').heap[M]? = some (.cells #[x', y'] t (0, 0)) :=
  heap_setCell_same (heap_setCell_same h _) _
theorem Cg.set2 {g : Nat} {w W : World} (h : Cg g w W) {M : Nat} (hM : w.heap.size ≤ M) (x' y' : Value) : Cg g w ((W.setCell ⟨M, 0, none⟩ x').setCell ⟨M, 1, none⟩ y') := by
  have h1 : Chg (fun b => b = M) W ((W.setCell ⟨M, 0, none⟩ x').setCell ⟨M, 1, none⟩ y') := Chg.setCell (F := fun b => b = M) (Chg.setCell (F := fun b => b = M) (Chg.refl _ _) rfl) rfl
  exact Chg.trans' h h1 (fun b hb => .inr (by omega))
theorem PB.set2at {W : World} {g : Nat} {s : ByteArray} {i d : Nat} (h : PB W g s i d) {M : Nat} (hM : g ≠ M) (x' y' : Value) : PB ((W.setCell ⟨M, 0, none⟩ x').setCell ⟨M, 1, none⟩ y') g s i d :=
  h.keep ((Below.heap_setCell _ _ _ _ (by show g ≠ M; exact hM)).trans (Below.heap_setCell _ _ _ _ (by show g ≠ M; exact hM)))
theorem hasK_eq {key : ByteArray} {ms : List (ByteArray × Value)} : ∀ {a : List (ByteArray × JV)}, ms.length = a.length → (∀ (i : Nat) (m : ByteArray × Value) (j : ByteArray × JV), ms[i]? = some m → a[i]? = some j → m.1 = j.1) → hasK key ms = a.any (fun m => m.1.data.toList == key.data.toList) := by
  induction ms with
  | nil => intro a hl hk; cases a with
    | nil => rfl
    | cons _ _ => simp at hl
  | cons m t ih => intro a hl hk; cases a with
    | nil => simp at hl
    | cons x y =>
      have h0 := hk 0 m x rfl rfl
      have := ih (a := y) (by simpa using hl) (fun i m j hm hj => hk (i + 1) m j (by simpa using hm) (by simpa using hj))
      simp only [hasK, List.any_cons] at this ⊢
      rw [this, h0]
set_option maxHeartbeats 16000000 in
theorem member_any {w : World} {g i d k : Nat} {s : ByteArray} {ev av : Value} {A : Nat → Prop} {ms : List (ByteArray × Value)} {a : List (ByteArray × JV)} (h : PB w g s i d) (hi : i ≤ s.size) (hs : s.size ≤ 8192) (hv : EV w ev) (hg0 : g ≠ 0) (hd : d + k = 16) (HV : VC g s ev k)
    (hav : RV A w 2 av (mcs ms)) (hA : ∀ b, A b → b ≠ g) (h1 : ∀ m ∈ ms, m.2.oneCell' = true) (hl : ms.length ≤ 10000) (hml : ms.length = a.length) (hmk : ∀ (i : Nat) (m : ByteArray × Value) (j : ByteArray × JV), ms[i]? = some m → a[i]? = some j → m.1 = j.1) :
    Calls Tryd.prog 80 #[.pointer (some ⟨g, 0, none⟩), av] w fun e w' => MP g s d w (membr s (val s k) a i) e w' := by
  have hglt := h.lt
  have HS : Hid (s.size ≤ 8192) := hs
  have hM : (w.alloc (.cells #[.string ⟨#[]⟩, .nilIface] 75)).heap[w.heap.size]? = some (.cells #[.string ⟨#[]⟩, .nilIface] 75 (0, 0)) := heap_alloc_new _ _
  have HM : Hid ((w.alloc (.cells #[.string ⟨#[]⟩, .nilIface] 75)).heap[w.heap.size]? = some (.cells #[.string ⟨#[]⟩, .nilIface] 75 (0, 0))) := hM
  have HP : Hid (PB (w.alloc (.cells #[.string ⟨#[]⟩, .nilIface] 75)) g s i d) := h.keep (heap_alloc_old _ _ hglt)
  have HC : Hid (Cg g w (w.alloc (.cells #[.string ⟨#[]⟩, .nilIface] 75))) := (Chg.refl _ _).alloc _
  obtain ⟨q0, q1, q2⟩ := HP.out.cells
  have HI : Hid (i ≤ s.size) := hi
  have HEV : Hid (EV w ev) := hv
  have HRV : Hid (RV A w 2 av (mcs ms)) := hav
  have HVC : Hid (VC g s ev k) := HV
  have HK : Hid (∀ key, hasK key ms = a.any (fun m => m.1.data.toList == key.data.toList)) := fun key => hasK_eq hml hmk
  obtain ⟨R, hR⟩ : ∃ R, membr s (val s k) a i = R := ⟨_, rfl⟩
  have HR : Hid (membr s (val s k) a i = R) := hR
  rw [hR]
  obtain ⟨M, hMM⟩ : ∃ M, w.heap.size = M := ⟨_, rfl⟩
  have HMM : Hid (w.heap.size = M) := hMM
  have hgM : g ≠ M := by omega
  rw [hMM] at HM
  clear h hs hv hav hmk hR HV hM
  by_cases h34 : gb s i = 34
  · have hlt := gb_lt (s := s) (i := i) (by omega)
    have HR1 : Hid ((if (tx s (i + 1) []).2 = true then (if a.any (fun m => m.1.data.toList == (sb (tx s (i + 1) []).1.1).data.toList) then Out.bad i
       else if gb s (sk s (tx s (i + 1) []).1.2) = 58 then
        (match val s k (sk s (sk s (tx s (i + 1) []).1.2 + 1)) with
          | .ok v j => Out.ok (sb (tx s (i + 1) []).1.1, v) j
          | .bad j => .bad j
          | .big j => .big j)
       else .bad (sk s (tx s (i + 1) []).1.2))
     else .bad (tx s (i + 1) []).1.2) = R) := by
      show _ = _; rw [← HR.out]; unfold membr; rw [if_pos h34]; rfl
    have HIN : Hid _ := @tx_in s (i + 1) [] hlt
    go_enter Tryd.func80, Tryd.ntmps80
    go_wp2_with fail
    obtain ⟨U, hU⟩ : ∃ U, w.alloc (.cells #[.string ⟨#[]⟩, .nilIface] 75) = U := ⟨_, rfl⟩
    rw [hU] at HM HP HC ⊢
    clear q0 q1 q2 hU
    refine (next_any HP.out HI.out HS.out).mono ?_
    rintro e W2 ⟨rfl, n2, rfl⟩
    go_wp2_with fail
    have HEV2 : Hid (EV (U.drewN n2) ev) := HEV.out.chg (HC.out.drew n2) hg0
    refine (str_any (HP.out.drew n2) hlt HS.out HEV2.out hg0).mono ?_
    obtain ⟨⟨⟨xs, j⟩, ok⟩, hT⟩ : ∃ T, tx s (i + 1) [] = T := ⟨_, rfl⟩
    rw [hT] at HR1 HIN ⊢
    rintro e W3 ⟨rfl, p, c⟩
    have HP3 : Hid (PB W3 g s j d) := p
    have HC3 : Hid (Cg g w W3) := (HC.out.drew n2).trans c
    have HM3 : Hid (W3.heap[M]? = some (.cells #[.string ⟨#[]⟩, .nilIface] 75 (0, 0))) := (c.other M (Array.getElem?_eq_some_iff.1 HM.out).1 (fun e => hgM e.symm)).trans HM.out
    have hj : j ≤ s.size := HIN.out.2
    clear p c HP HC HM HEV2 hT HIN
    cases ok with
    | false =>
      have HR2 : Hid (R = .bad j) := HR1.out.symm
      obtain ⟨t, ht⟩ : ∃ t, stV ((xs, j), false) = .tuple #[.string t, .int .i64 2] := ⟨_, rfl⟩
      rw [ht]
      have hN : (W3.alloc (.cells #[.string t] 9)).heap[M]? = some (.cells #[.string ⟨#[]⟩, .nilIface] 75 (0, 0)) := (heap_alloc_old _ _ (Array.getElem?_eq_some_iff.1 HM3.out).1).trans HM3.out
      have HN : Hid ((W3.alloc (.cells #[.string t] 9)).heap[M]? = some (.cells #[.string ⟨#[]⟩, .nilIface] 75 (0, 0))) := hN
      obtain ⟨c0, c1, f0, f1⟩ := cell_of2 hN
      have HP4 : Hid (PB (W3.alloc (.cells #[.string t] 9)) g s j d) := HP3.out.keep (heap_alloc_old _ _ HP3.out.lt)
      have HC4 : Hid (Cg g w (W3.alloc (.cells #[.string t] 9))) := HC3.out.alloc _
      clear hN ht
      go_wp2
      refine mem_post (M := M) (x := .string ⟨#[]⟩) (y := .nilIface) (c := 2) (set2_at HN.out _ _) rfl rfl ?_
      rw [HR2.out]
      exact ⟨_, _, rfl, .inr rfl, ⟨_, HP4.out.set2at hgM _ _⟩, HC4.out.set2 (by rw [HMM.out]; exact Nat.le_refl _) _ _⟩
    | true =>
      obtain ⟨key, hkey⟩ : ∃ key, sb xs = key := ⟨_, rfl⟩
      have hst : stV ((xs, j), true) = .tuple #[.string key, .int .i64 0] := by rw [← hkey]; rfl
      rw [hst]
      have HR2 : Hid ((if hasK key ms then Out.bad i
        else if gb s (sk s j) = 58 then
          (match val s k (sk s (sk s j + 1)) with
          | .ok v j => Out.ok (key, v) j
          | .bad j => .bad j
          | .big j => .big j)
        else .bad (sk s j)) = R) := by
        show _ = _
        rw [HK.out key, ← hkey, ← HR1.out]; rfl
      have hKW : (W3.alloc (.cells #[.string key] 9)).heap[W3.heap.size]? = some (.cells #[.string key] 9 (0, 0)) := heap_alloc_new _ _
      have HM4 : Hid ((W3.alloc (.cells #[.string key] 9)).heap[M]? = some (.cells #[.string ⟨#[]⟩, .nilIface] 75 (0, 0))) := (heap_alloc_old _ _ (Array.getElem?_eq_some_iff.1 HM3.out).1).trans HM3.out
      have HP4 : Hid (PB (W3.alloc (.cells #[.string key] 9)) g s j d) := HP3.out.keep (heap_alloc_old _ _ HP3.out.lt)
      have HC4 : Hid (Cg g w (W3.alloc (.cells #[.string key] 9))) := HC3.out.alloc _
      obtain ⟨KB, hKB⟩ : ∃ KB, W3.heap.size = KB := ⟨_, rfl⟩
      have hgK : g ≠ KB := by have := HP3.out.lt; omega
      have hMK : M ≠ KB := by have := (Array.getElem?_eq_some_iff.1 HM3.out).1; omega
      rw [hKB] at hKW
      have HRV4 : Hid (RV A (W3.alloc (.cells #[.string key] 9)) 2 av (mcs ms)) := HRV.out.keep (fun b hb hlt => ⟨hb, HC4.out.other b hlt (hA b hb)⟩) HC4.out.size
      have HC0 := @contains_mem ms A key av KB (W3.alloc (.cells #[.string key] 9)) HRV4.out h1 hl hKW
      have HKW : Hid ((W3.alloc (.cells #[.string key] 9)).heap[KB]? = some (.cells #[.string key] 9 (0, 0))) := hKW
      clear HR1 hst hkey hKW
      go_wp2_with fail
      obtain ⟨W4, hW4⟩ : ∃ W4, W3.alloc (.cells #[.string key] 9) = W4 := ⟨_, rfl⟩
      rw [hW4] at HM4 HP4 HC4 HKW HC0 ⊢
      clear hW4 HRV4 HRV HP3 HC3 HM3 hKB
      refine HC0.mono ?_
      rintro e W5 ⟨rfl, hb⟩
      have HP5 : Hid (PB W5 g s j d) := HP4.out.keep (hb.block _ HP4.out.lt)
      have HC5 : Hid (Cg g w W5) := HC4.out.then hb HC4.out.size
      have HM5 : Hid (W5.heap[M]? = some (.cells #[.string ⟨#[]⟩, .nilIface] 75 (0, 0))) := (hb.block _ (Array.getElem?_eq_some_iff.1 HM4.out).1).trans HM4.out
      have HK5 : Hid (W5.heap[KB]? = some (.cells #[.string key] 9 (0, 0))) := (hb.block _ (Array.getElem?_eq_some_iff.1 HKW.out).1).trans HKW.out
      clear hb HP4 HC4 HM4 HKW HC0
      cases hh : hasK key ms with
      | true =>
        have HR3 : Hid (R = .bad i) := by show _ = _; rw [← HR2.out, hh]; rfl
        obtain ⟨r0, r1, r2⟩ := HP5.out.cells
        have f9 := HP5.out.froz 1
        have HP6 : Hid (PB (W5.setCell ⟨g, 1, none⟩ (.int .i64 (i : Int))) g s i d) := HP5.out.set1 i
        have HC6 : Hid (Cg g w (W5.setCell ⟨g, 1, none⟩ (.int .i64 (i : Int)))) := HC5.out.setCell rfl
        have hM6 : (W5.setCell ⟨g, 1, none⟩ (.int .i64 (i : Int))).heap[M]? = some (.cells #[.string ⟨#[]⟩, .nilIface] 75 (0, 0)) := (Below.heap_setCell _ _ _ _ (by show M ≠ g; exact fun e => hgM e.symm)).trans HM5.out
        have HM6 : Hid ((W5.setCell ⟨g, 1, none⟩ (.int .i64 (i : Int))).heap[M]? = some (.cells #[.string ⟨#[]⟩, .nilIface] 75 (0, 0))) := hM6
        obtain ⟨c0, c1, f0, f1⟩ := cell_of2 hM6
        clear hM6 hh
        go_wp2
        refine mem_post (M := M) (x := .string ⟨#[]⟩) (y := .nilIface) (c := 2) (set2_at HM6.out _ _) rfl rfl ?_
        rw [HR3.out]
        exact ⟨_, _, rfl, .inr rfl, ⟨_, HP6.out.set2at hgM _ _⟩, HC6.out.set2 (by rw [HMM.out]; exact Nat.le_refl _) _ _⟩
      | false =>
        have HR3 : Hid ((if gb s (sk s j) = 58 then
          (match val s k (sk s (sk s j + 1)) with
          | .ok v j => Out.ok (key, v) j
          | .bad j => .bad j
          | .big j => .big j)
        else .bad (sk s j)) = R) := by show _ = _; rw [← HR2.out, hh]; rfl
        have hm := sk_le hj
        obtain ⟨m, hmm⟩ : ∃ m, sk s j = m := ⟨_, rfl⟩
        rw [hmm] at HR3 hm
        clear hh HR2
        go_wp2_with fail
        refine (blanks_any HP5.out hj HS.out).mono ?_
        rintro e W6 ⟨rfl, p, c⟩
        rw [hmm] at p
        have HP6 : Hid (PB W6 g s m d) := p
        have HC6 : Hid (Cg g w W6) := HC5.out.trans c
        have HM6 : Hid (W6.heap[M]? = some (.cells #[.string ⟨#[]⟩, .nilIface] 75 (0, 0))) := (c.other M (Array.getElem?_eq_some_iff.1 HM5.out).1 (fun e => hgM e.symm)).trans HM5.out
        have HK6 : Hid (W6.heap[KB]? = some (.cells #[.string key] 9 (0, 0))) := (c.other KB (Array.getElem?_eq_some_iff.1 HK5.out).1 (fun e => hgK e.symm)).trans HK5.out
        clear p c HP5 HC5 HM5 HK5 hmm
        go_wp2_with fail
        by_cases e58 : gb s m = 58
        · have hlm := gb_lt (s := s) (i := m) (by omega)
          have HR4 : Hid ((match val s k (sk s (m + 1)) with
            | .ok v j => Out.ok (key, v) j
            | .bad j => .bad j
            | .big j => .big j) = R) := by show _ = _; rw [← HR3.out, if_pos e58]
          refine (take_yes HP6.out hm HS.out e58 (by decide)).mono ?_
          rintro e W7 ⟨rfl, p, c⟩
          have HP7 : Hid (PB W7 g s (m + 1) d) := p
          have HC7 : Hid (Cg g w W7) := HC6.out.trans c
          have HM7 : Hid (W7.heap[M]? = some (.cells #[.string ⟨#[]⟩, .nilIface] 75 (0, 0))) := (c.other M (Array.getElem?_eq_some_iff.1 HM6.out).1 (fun e => hgM e.symm)).trans HM6.out
          have HK7 : Hid (W7.heap[KB]? = some (.cells #[.string key] 9 (0, 0))) := (c.other KB (Array.getElem?_eq_some_iff.1 HK6.out).1 (fun e => hgK e.symm)).trans HK6.out
          clear p c HP6 HC6 HM6 HK6
          go_wp2_with fail
          refine (blanks_any HP7.out hlm HS.out).mono ?_
          rintro e W8 ⟨rfl, p, c⟩
          have hn := sk_le (s := s) (i := m + 1) hlm
          obtain ⟨n, hnn⟩ : ∃ n, sk s (m + 1) = n := ⟨_, rfl⟩
          rw [hnn] at p hn HR4
          have HP8 : Hid (PB W8 g s n d) := p
          have HC8 : Hid (Cg g w W8) := HC7.out.trans c
          have HM8 : Hid (W8.heap[M]? = some (.cells #[.string ⟨#[]⟩, .nilIface] 75 (0, 0))) := (c.other M (Array.getElem?_eq_some_iff.1 HM7.out).1 (fun e => hgM e.symm)).trans HM7.out
          have HK8 : Hid (W8.heap[KB]? = some (.cells #[.string key] 9 (0, 0))) := (c.other KB (Array.getElem?_eq_some_iff.1 HK7.out).1 (fun e => hgK e.symm)).trans HK7.out
          clear p c HP7 HC7 HM7 HK7 hnn
          go_wp2_with fail
          have HEV8 : Hid (EV W8 ev) := HEV.out.chg HC8.out hg0
          refine (HVC.out W8 n d HP8.out hn hd HEV8.out).mono ?_
          intro e W9 hVP
          have HVP : Hid (VP g s d W8 (val s k n) e W9) := hVP
          obtain ⟨v, cc, rfl, hone, hc9⟩ := VC.one hVP
          have HC9 : Hid (Cg g w W9) := HC8.out.trans hc9
          have hM9 : W9.heap[M]? = some (.cells #[.string ⟨#[]⟩, .nilIface] 75 (0, 0)) := (hc9.other M (Array.getElem?_eq_some_iff.1 HM8.out).1 (fun e => hgM e.symm)).trans HM8.out
          have HM9 : Hid (W9.heap[M]? = some (.cells #[.string ⟨#[]⟩, .nilIface] 75 (0, 0))) := hM9
          have hK9 : W9.heap[KB]? = some (.cells #[.string key] 9 (0, 0)) := (hc9.other KB (Array.getElem?_eq_some_iff.1 HK8.out).1 (fun e => hgK e.symm)).trans HK8.out
          obtain ⟨c0, c1, f0, f1⟩ := cell_of2 hM9
          obtain ⟨k0, -⟩ := cell_of hK9
          have HC98 : Hid (Cg g W8 W9) := hc9
          have HW8 : Hid (M < W8.heap.size) := (Array.getElem?_eq_some_iff.1 HM8.out).1
          have HW08 : Hid (w.heap.size ≤ W8.heap.size) := HC8.out.size
          clear hc9 hM9 hK9 hVP HM8 HK8 HC8 HEV8 HP8
          rcases hone with ⟨vt, vp, rfl⟩ | rfl
          all_goals (
            go_wp2
            refine mem_post (M := M) (x := .string key) (y := _) (c := cc) (set2_at HM9.out _ _) rfl rfl ?_
            have hD := fun y => HC9.out.set2 (M := M) (by rw [HMM.out]; exact Nat.le_refl _) (.string key) y
            have hvp := HVP.out
            cases ho : val s k n with
            | bad j =>
              rw [ho] at hvp
              obtain ⟨v', e1, e2, ⟨d', e3⟩, e4⟩ := hvp
              have HR5 : Hid (R = .bad j) := by show _ = _; rw [← HR4.out, ho]
              rw [HR5.out]
              simp only [Ending.returned.injEq, Value.tuple.injEq, Array.mk.injEq, List.cons.injEq, and_true] at e1
              obtain ⟨rfl, e1⟩ := e1
              rw [e1]
              exact ⟨_, _, rfl, e2, ⟨_, e3.set2at hgM _ _⟩, hD _⟩
            | big j =>
              rw [ho] at hvp
              obtain ⟨v', e1, e2, ⟨d', e3⟩, e4⟩ := hvp
              have HR5 : Hid (R = .big j) := by show _ = _; rw [← HR4.out, ho]
              rw [HR5.out]
              simp only [Ending.returned.injEq, Value.tuple.injEq, Array.mk.injEq, List.cons.injEq, and_true] at e1
              obtain ⟨rfl, e1⟩ := e1
              rw [e1]
              exact ⟨_, _, rfl, e2, ⟨_, e3.set2at hgM _ _⟩, hD _⟩
            | ok jv j =>
              rw [ho] at hvp
              obtain ⟨v', e1, e2, e3, e4⟩ := hvp
              have HR5 : Hid (R = .ok (key, jv) j) := by show _ = _; rw [← HR4.out, ho]
              rw [HR5.out]
              simp only [Ending.returned.injEq, Value.tuple.injEq, Array.mk.injEq, List.cons.injEq, and_true] at e1
              obtain ⟨rfl, e1⟩ := e1
              rw [e1]
              refine ⟨_, rfl, e2.set2at hgM _ _, hD _, e4.keep (fun b hb hlt => ⟨Nat.le_trans HW08.out hb, ?_⟩) (by simp [World.setCell])⟩
              have hb' : W8.heap.size ≤ b := hb
              have hMb : b ≠ M := by have := HW8.out; omega
              exact (Below.heap_setCell _ _ _ _ (by show b ≠ M; exact hMb)).trans (Below.heap_setCell _ _ _ _ (by show b ≠ M; exact hMb)))
        · have HR4 : Hid (R = .bad m) := by show _ = _; rw [← HR3.out, if_neg e58]
          refine (take_no HP6.out hm HS.out e58).mono ?_
          rintro e W7 ⟨rfl, n7, rfl⟩
          have HP7 : Hid (PB (W6.drewN n7) g s m d) := HP6.out.drew _
          have HC7 : Hid (Cg g w (W6.drewN n7)) := HC6.out.drew _
          have hM7 : (W6.drewN n7).heap[M]? = some (.cells #[.string ⟨#[]⟩, .nilIface] 75 (0, 0)) := HM6.out
          have HM7 : Hid ((W6.drewN n7).heap[M]? = some (.cells #[.string ⟨#[]⟩, .nilIface] 75 (0, 0))) := hM7
          obtain ⟨c0, c1, f0, f1⟩ := cell_of2 hM7
          clear hM7
          go_wp2
          refine mem_post (M := M) (x := .string ⟨#[]⟩) (y := .nilIface) (c := 2) (set2_at HM7.out _ _) rfl rfl ?_
          rw [HR4.out]
          exact ⟨_, _, rfl, .inr rfl, ⟨_, HP7.out.set2at hgM _ _⟩, HC7.out.set2 (by rw [HMM.out]; exact Nat.le_refl _) _ _⟩
  · have HR1 : Hid (R = .bad i) := by show _ = _; rw [← HR.out]; unfold membr; rw [if_neg h34]
    obtain ⟨c0, c1, f0, f1⟩ := cell_of2 HM.out
    go_enter Tryd.func80, Tryd.ntmps80
    go_wp2_with fail
    refine (next_any HP.out HI.out HS.out).mono ?_
    rintro e W2 ⟨rfl, n2, rfl⟩
    go_wp2
    have hD := Cg.set2 (HC.out.drew n2) (M := M) (by rw [HMM.out]; exact Nat.le_refl _) (.string ⟨#[]⟩) .nilIface
    refine mem_post (M := M) (x := .string ⟨#[]⟩) (y := .nilIface) (c := 2) (set2_at (show ((w.alloc (.cells #[.string ⟨#[]⟩, .nilIface] 75)).drewN n2).heap[M]? = _ from HM.out) _ _) rfl rfl ?_
    rw [HR1.out]
    exact ⟨_, _, rfl, .inr rfl, ⟨_, PB.set2at (HP.out.drew n2) hgM _ _⟩, hD⟩
end Go.Proofs.YtefaohokmhdplaaDoor
