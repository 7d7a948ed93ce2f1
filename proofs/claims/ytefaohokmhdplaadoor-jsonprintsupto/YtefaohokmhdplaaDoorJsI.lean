/- Package json: strings. -/
import Derived.Test.YtefaohokmhdplaaDoorJsF
import Derived.Laws.BytesArg
namespace Go.Proofs.YtefaohokmhdplaaDoor
open Go Go.RowKit
set_option linter.unusedSimpArgs false
set_option linter.unusedVariables false
set_option maxRecDepth 100000

variable {w : World} {g : Nat} {s : ByteArray} {i d : Nat}
/-- A slice of bytes as a string. -/
theorem Sl.str {w : World} {v : Value} {xs : List Int} (h : Sl w v xs) : (convert 76 9 v).run Tryd.prog w = .ok (.string (strOfNums xs)) w := by
  obtain ⟨ad, cap, rfl, hc, h⟩ := h
  rcases h with ⟨rfl, _⟩ | ⟨b, o, rfl, hlt, hm⟩
  · cases ad with
    | none => exact run_convert_bytes_nil w 76 5 Tryd.underlying76 Tryd.underlying5 0 cap 9 Tryd.underlying9
    | some A =>
      rw [run_convert_bytes_string w 76 9 5 _ _ _ Tryd.underlying76 Tryd.underlying5 Tryd.underlying9]
      exact run_bytesToString w A 0 cap [] (by simpa using run_loadCells_list (P := Tryd.prog) w A [] (fun j v hj => by simp at hj))
  · exact run_convert_bytes_arg w 76 5 Tryd.underlying76 Tryd.underlying5 b o xs.length cap xs rfl hm 9 Tryd.underlying9
theorem Chg.then {F : Nat → Prop} {x y z : World} {B : Nat} (h : Chg F x y) (k : Below B y z) (hB : x.heap.size ≤ B) : Chg F x z :=
  ⟨k.os.trans h.os, k.tape.trans h.tape, k.output.trans h.output, Nat.le_trans h.size k.size, fun b hb hf => (k.block b (by omega)).trans (h.other b hb hf)⟩
theorem EV.chg {w w' : World} {ev : Value} {g : Nat} (h : EV w ev) (hc : Cg g w w') (hg : g ≠ 0) : EV w' ev := by
  refine ⟨?_, h.2⟩
  have e := hc.other 0 (Lib.lt_of_cell h.1) (fun q => hg q.symm)
  have h1 := h.1
  simp only [World.cell?] at h1 ⊢
  rw [e]; exact h1
theorem run_str {B0 : Nat} {w : World} {v : Value} {xs : List Int} (hB : B0 ≤ w.heap.size) (h0 : Ow B0 w v xs) (t : ByteArray) (hk : xs.length + t.size ≤ 140737488355328) :
    ∃ v' w', (Builtin.append_ #[76, 9] 76 #[v, .string t]).run Tryd.prog w = .ok v' w' ∧ Ow B0 w' v' (xs ++ nb t) ∧ Below B0 w w' := by
  obtain ⟨i, hi, hz, hsz, hby⟩ := info_u8
  obtain ⟨v', w', hr, h1, h2, -⟩ := Lib.run_append_own_string (P := Tryd.prog) w B0 76 9 76 5 i Tryd.underlying76 Tryd.underlying9 hi hz hsz hby v xs.length (bv xs) h0 t (by unfold maxLen; omega) (by omega) hB
  refine ⟨v', w', hr, ?_, (Below.refl B0 w).grown h2 hB (fun b hb' => h0.blk b hb')⟩
  unfold Ow
  rw [List.length_append, nb_length, bv_append, ← nb_cells]; exact h1
theorem nb_piece {s : ByteArray} {i j : Nat} (h : j ≤ s.size) : nb (s.extract i j) = cutb s i (j - i) := by
  apply List.ext_getElem
  · rw [nb_length, cutb_length, ByteArray.size_extract]; omega
  · intro k h1 h2
    rw [cutb_length] at h2
    have hs : k < (s.extract i j).size := by rw [ByteArray.size_extract]; omega
    have e1 : (nb (s.extract i j))[k] = gb (s.extract i j) k := by
      rw [← gi_get h1, nb_get hs, gbD hs]
    rw [e1, gb_ext (by omega) h]
    simp [cutb]
def apO (B : Nat) (U : World) (xs : List Int) : Nat → (Nat → Value) → World → Prop
  | 0, _, W => Below U.heap.size U W
  | k + 1, V, W => Below B U W ∧ Ow B W (V k) xs
theorem apO.low {B : Nat} {U : World} {xs : List Int} {k : Nat} {V : Nat → Value} {W : World} (hB : B ≤ U.heap.size) (h : apO B U xs k V W) : Below B U W := by
  match k, h with
  | 0, h => exact Below.mono h hB
  | k + 1, h => exact h.1
def apK : Nat → Nat
  | 17 => 1
  | _ => 0
/-- Where no rune stands for itself. -/
def txE (s : ByteArray) (k : Nat) (a : List Int) : Option (Int × Nat) → (List Int × Nat) × Bool
  | none => ((a, k), false)
  | some (r, n) => tx s (k + n) (a ++ Lib.encodeRuneZ r)
def txS (s : ByteArray) (k : Nat) (a : List Int) : (List Int × Nat) × Bool := if gb s k = 34 then ((a, k + 1), true) else if gb s k = 92 then txE s k a (esc s k) else ((a, k), false)
theorem txS_eq {s : ByteArray} {j : Nat} (a : List Int) (h : s.size ≤ j ∨ (j < s.size ∧ plainR s j = false)) : tx s j a = txS s j a := by
  rw [tx_stop a h]; unfold txS
  cases esc s j <;> rfl
def st3 (g j n : Nat) (s q : ByteArray) : Nat → Value
  | 0 => .pointer (some ⟨g, 0, none⟩)
  | 1 => .pointer (some ⟨g, 0, none⟩)
  | 2 => .pointer (some ⟨g, 0, none⟩)
  | 3 => .string s
  | 4 => .pointer (some ⟨g, 0, none⟩)
  | 5 => .pointer (some ⟨g, 0, none⟩)
  | 6 => .pointer (some ⟨g, 1, none⟩)
  | 7 => .int .i64 (j : Int)
  | 8 => .string q
  | 9 => .int .i64 (n : Int)
  | 10 => .int .i64 (n : Int)
  | _ => undef
def st4 (g j n k : Nat) (s t : ByteArray) (u4 : Value) : Nat → Value
  | 0 => u4
  | 1 => .pointer (some ⟨g, 0, none⟩)
  | 2 => .pointer (some ⟨g, 0, none⟩)
  | 3 => .pointer (some ⟨g, 0, none⟩)
  | 4 => .string s
  | 5 => .pointer (some ⟨g, 0, none⟩)
  | 6 => .pointer (some ⟨g, 0, none⟩)
  | 7 => .pointer (some ⟨g, 1, none⟩)
  | 8 => .int .i64 (j : Int)
  | 9 => .pointer (some ⟨g, 0, none⟩)
  | 10 => .pointer (some ⟨g, 0, none⟩)
  | 11 => .pointer (some ⟨g, 1, none⟩)
  | 12 => .int .i64 (j : Int)
  | 13 => .int .i64 (n : Int)
  | 14 => .int .i64 (k : Int)
  | 15 => .string t
  | 16 => undef
  | 17 => undef
  | _ => undef
def eR : Option (Int × Nat) → Int
  | none => 0
  | some (r, _) => r
def eN : Option (Int × Nat) → Int
  | none => 0
  | some (_, n) => (n : Int)
def eB : Option (Int × Nat) → Bool
  | none => false
  | some _ => true
theorem escV_eq (o : Option (Int × Nat)) : escV o = .tuple #[.int .i32 (eR o), .int .i64 (eN o), .bool (eB o)] := by
  match o with
  | none => rfl
  | some (r, n) => rfl
def st10 (g k : Nat) (o : Option (Int × Nat)) (s qq : ByteArray) : Nat → Value
  | 0 => .pointer (some ⟨g, 0, none⟩)
  | 1 => .pointer (some ⟨g, 0, none⟩)
  | 2 => .pointer (some ⟨g, 0, none⟩)
  | 3 => .string s
  | 4 => .pointer (some ⟨g, 0, none⟩)
  | 5 => .pointer (some ⟨g, 0, none⟩)
  | 6 => .pointer (some ⟨g, 1, none⟩)
  | 7 => .int .i64 (k : Int)
  | 8 => .string qq
  | 9 => escV o
  | 10 => escV o
  | 11 => .int .i32 (eR o)
  | 12 => .int .i64 (eN o)
  | 13 => .bool (eB o)
  | 14 => .int .i32 (eR o)
  | 15 => .int .i64 (eN o)
  | 16 => .bool (eB o)
  | _ => undef
/-- What a string's reading answers. -/
def stV (x : (List Int × Nat) × Bool) : Value := .tuple #[.string (if x.2 then sb x.1.1 else ⟨#[]⟩), .int .i64 (okE x.2)]
set_option maxHeartbeats 16000000 in
theorem str_any (h : PB w g s i d) (hi : i < s.size) (hs : s.size ≤ 8192) {ev : Value} (hv : EV w ev) (hg : g ≠ 0) :
    Calls Tryd.prog 70 #[.pointer (some ⟨g, 0, none⟩)] w fun e w' => e = .returned (stV (tx s (i + 1) [])) ∧ PB w' g s (tx s (i + 1) []).1.2 d ∧ Cg g w w' := by
  have H : Hid (PB w g s i d) := h
  have HS : Hid (s.size ≤ 8192) := hs
  have HV : Hid (EV w ev) := hv
  have hglt := h.lt
  obtain ⟨q0, q1, q2⟩ := h.cells
  have f1 := h.froz 1
  have hb9 : (i : Int) ≤ 8192 := by omega
  have hb8 : (0 : Int) ≤ (i : Int) := by omega
  obtain ⟨R, hR⟩ : ∃ R, tx s (i + 1) [] = R := ⟨_, rfl⟩
  have HR : Hid (tx s (i + 1) [] = R) := hR
  rw [hR]
  clear h hs hv hR
  go_enter Tryd.func70, Tryd.ntmps70
  go_wp2_with fail
  go_loopw [4] (fun v4 W => ∃ (j : Nat) (L : List Int), PB W g s j d ∧ Cg g w W ∧ j ≤ s.size ∧ Ow w.heap.size W v4 L ∧ Hid (tx s j L = R ∧ L.length ≤ 4 * j)) (fun _ W => s.size + 1 - posOf W g)
  case atStart => exact ⟨i + 1, [], H.out.set1 (i + 1), (Chg.refl _ _).setCell rfl, hi, Ow.nil _ _, HR.out, by simp⟩
  case round =>
    obtain ⟨j, L, hp, hc, hj, how, hh⟩ := hrel
    have HPU : Hid (PB wr g s j d) := hp
    have HCU : Hid (Cg g w wr) := hc
    have HOW : Hid (Ow w.heap.size wr u4 L) := how
    have HSZ : Hid (w.heap.size ≤ wr.heap.size) := hc.size
    have HH : Hid (tx s j L = R ∧ L.length ≤ 4 * j) := hh
    have hps := hp.pos
    clear hp hc how hh
    obtain ⟨q, hq⟩ : ∃ q, rest s j = q := ⟨_, rfl⟩
    have HQ : Hid (s.extract j s.size = q) := hq
    have hqs : q.size ≤ 8192 := by rw [← hq, rest_size]; have := HS.out; omega
    have HPLE : Hid (j + pl q 0 = pl s j) := by rw [← hq]; exact pl_rest hj
    have HPL0 : Hid _ := plain_any q hqs
    obtain ⟨n, hn⟩ : ∃ n, pl q 0 = n := ⟨_, rfl⟩
    have HPL : Hid (∀ w, Calls Tryd.prog 82 #[.string q] w fun e w' => e = .returned (.int .i64 (n : Int)) ∧ Below w.heap.size w w') := by rw [← hn]; exact HPL0.out
    rw [hn] at HPLE
    have HB : Hid (j ≤ pl s j ∧ pl s j ≤ s.size) := pl_in hj
    clear hn hq HPL0
    go_upto_region 3 with (fail)
    refine RU.wp_rgn' [] (st3 g j n s q) (fun _ => 0) (gΩ wr) (by kernel_rfl) (by kernel_rfl) (show Below wr.heap.size wr _ from (Below.refl _ _).drew) ?_ ?_
    · refine ⟨?_, ?_, ?_, ?_, ?_, ?_, ?_, ?_, ?_, ?_, ?_, trivial⟩
      · refine RU.ObT.pure rfl rfl rfl (fun a V hf hp ev he hc W => ?_)
        have q0 : ev (.tmp 0) = .pointer (some ⟨g, 0, none⟩) := (he (.tmp 0)).trans (hf 0 rfl)
        simp only [List.getElem_toArray, List.getElem_cons_succ, List.getElem_cons_zero, execOp, Option.map_some, Option.map_none]; rw [q0]
        first | (go_simp; done) | (go_simp; rfl) | rfl
      · refine RU.ObT.pure rfl rfl rfl (fun a V hf hp ev he hc W => ?_)
        have q16 : ev (.tmp 16) = .pointer (some ⟨g, 0, none⟩) := (he (.tmp 16)).trans (hp 0 16 rfl)
        simp only [List.getElem_toArray, List.getElem_cons_succ, List.getElem_cons_zero, execOp, Option.map_some, Option.map_none]; rw [q16]
        first | (go_simp; done) | (go_simp; rfl) | rfl
      · refine RU.ObT.pure rfl rfl rfl (fun a V hf hp ev he hc W => ?_)
        have q17 : ev (.tmp 17) = .pointer (some ⟨g, 0, none⟩) := (he (.tmp 17)).trans (hp 1 17 rfl)
        simp only [List.getElem_toArray, List.getElem_cons_succ, List.getElem_cons_zero, execOp, Option.map_some, Option.map_none]; rw [q17]
        first | (go_simp; done) | (go_simp; rfl) | rfl
      · refine RU.ObT.silent rfl (fun a W k0 V hO hf hp hk => ?_)
        have hO' : Below wr.heap.size wr W := hO
        have hcell := (HPU.out.keep (hO'.block _ HPU.out.lt)).cells.1
        refine RU.ob_val rfl (RU.wanted_none rfl) (fun ev he hc => ?_) ⟨rfl, hO⟩
        have q18 : ev (.tmp 18) = .pointer (some ⟨g, 0, none⟩) := (he (.tmp 18)).trans (hp 2 18 rfl)
        simp only [List.getElem_toArray, List.getElem_cons_succ, List.getElem_cons_zero, execOp, Option.map_some, Option.map_none]; rw [q18]
        first | (go_simp; done) | (go_simp; rfl) | rfl
      · refine RU.ObT.pure rfl rfl rfl (fun a V hf hp ev he hc W => ?_)
        have q0 : ev (.tmp 0) = .pointer (some ⟨g, 0, none⟩) := (he (.tmp 0)).trans (hf 0 rfl)
        simp only [List.getElem_toArray, List.getElem_cons_succ, List.getElem_cons_zero, execOp, Option.map_some, Option.map_none]; rw [q0]
        first | (go_simp; done) | (go_simp; rfl) | rfl
      · refine RU.ObT.pure rfl rfl rfl (fun a V hf hp ev he hc W => ?_)
        have q20 : ev (.tmp 20) = .pointer (some ⟨g, 0, none⟩) := (he (.tmp 20)).trans (hp 4 20 rfl)
        simp only [List.getElem_toArray, List.getElem_cons_succ, List.getElem_cons_zero, execOp, Option.map_some, Option.map_none]; rw [q20]
        first | (go_simp; done) | (go_simp; rfl) | rfl
      · refine RU.ObT.pure rfl rfl rfl (fun a V hf hp ev he hc W => ?_)
        have q21 : ev (.tmp 21) = .pointer (some ⟨g, 0, none⟩) := (he (.tmp 21)).trans (hp 5 21 rfl)
        simp only [List.getElem_toArray, List.getElem_cons_succ, List.getElem_cons_zero, execOp, Option.map_some, Option.map_none]; rw [q21]
        first | (go_simp; done) | (go_simp; rfl) | rfl
      · refine RU.ObT.silent rfl (fun a W k0 V hO hf hp hk => ?_)
        have hO' : Below wr.heap.size wr W := hO
        have hcell := (HPU.out.keep (hO'.block _ HPU.out.lt)).cells.2.1
        refine RU.ob_val rfl (RU.wanted_none rfl) (fun ev he hc => ?_) ⟨rfl, hO⟩
        have q22 : ev (.tmp 22) = .pointer (some ⟨g, 1, none⟩) := (he (.tmp 22)).trans (hp 6 22 rfl)
        simp only [List.getElem_toArray, List.getElem_cons_succ, List.getElem_cons_zero, execOp, Option.map_some, Option.map_none]; rw [q22]
        first | (go_simp; done) | (go_simp; rfl) | rfl
      · refine RU.ObT.pure rfl rfl rfl (fun a V hf hp ev he hc W => ?_)
        have q19 : ev (.tmp 19) = .string s := (he (.tmp 19)).trans (hp 3 19 rfl)
        have q23 : ev (.tmp 23) = .int .i64 (j : Int) := (he (.tmp 23)).trans (hp 7 23 rfl)
        simp only [List.getElem_toArray, List.getElem_cons_succ, List.getElem_cons_zero, execOp, Option.map_some, Option.map_none]; rw [q19, q23]
        rw [← HQ.out]
        first | (go_simp; done) | (go_simp; rfl) | rfl
      · refine RU.ObT.silent rfl (fun a W k0 V hO hf hp hk => ?_)
        have hO' : Below wr.heap.size wr W := hO
        have e24 : a.eval (.tmp 24) = .string q := hp 8 24 rfl
        refine RU.ob_call (g := 82) (args := #[.string q]) rfl (RU.wanted_none rfl) (fun ev he hc => ?_) ((HPL.out W).mono ?_)
        · have h24 := (he (.tmp 24)).trans e24
          have hfn := he (.func 82)
          simp only [List.getElem_toArray, List.getElem_cons_succ, List.getElem_cons_zero, execOp, Option.map_some, Option.map_none]
          simp only [resolve, invoke, Sem.run_bind, Sem.run_pure, Result.andThen_ok, List.map_toArray, List.map_cons, List.map_nil, h24, hfn, Act.eval, hc]
          rfl
        · rintro e' W2 ⟨rfl, hb2⟩
          exact ⟨_, rfl, rfl, (hO'.trans (hb2.mono hO'.size) : Below wr.heap.size wr W2)⟩
      · refine RU.ObT.pure rfl rfl rfl (fun a V hf hp ev he hc W => ?_)
        have q25 : ev (.tmp 25) = .int .i64 (n : Int) := (he (.tmp 25)).trans (hp 9 25 rfl)
        simp only [List.getElem_toArray, List.getElem_cons_succ, List.getElem_cons_zero, execOp, Option.map_some, Option.map_none]; rw [q25]
        first | (go_simp; done) | (go_simp; rfl) | rfl
    intro W1 VW1 hOW1
    have BW1 : Hid (Below wr.heap.size wr W1) := hOW1
    clear hOW1
    simp only [RU.lay, RU.val, RU.at', st3, Act.put]
    simp only [List.setIfInBounds_toArray, List.set_cons_succ, List.set_cons_zero]
    have HP1 : Hid (PB W1 g s j d) := HPU.out.keep (BW1.out.block _ HPU.out.lt)
    have HC1 : Hid (Cg g w W1) := HCU.out.then BW1.out HSZ.out
    have HOW1 : Hid (Ow w.heap.size W1 u4 L) := HOW.out.below BW1.out
    have HSZ1 : Hid (w.heap.size ≤ W1.heap.size) := HC1.out.size
    clear HPU HCU HOW HSZ BW1
    have HOW : Hid (Ow w.heap.size W1 u4 L) := HOW1.out
    have HSZ : Hid (w.heap.size ≤ W1.heap.size) := HSZ1.out
    obtain ⟨k, hk⟩ : ∃ k, j + n = k := ⟨_, rfl⟩
    have HK : Hid ((j : Int) + (n : Int) = (k : Int)) := by show (_ : Int) = _; omega
    have HKP : Hid (pl s j = k) := HPLE.out.symm.trans hk
    have hjk : j ≤ k := by omega
    have hks : k ≤ s.size := by rw [← HKP.out]; exact HB.out.2
    have hks8 : (k : Int) ≤ 8192 := by have := HS.out; omega
    obtain ⟨t, ht⟩ : ∃ t, s.extract j k = t := ⟨_, rfl⟩
    have HT : Hid (s.extract j k = t) := ht
    have HWJ : Hid (IntKind.i64.wrap ((j : Int) + (n : Int)) = (k : Int)) := by show _ = _; have := HS.out; rw [IntKind.wrap_i64]; omega
    have hjk' : (j : Int) ≤ (k : Int) := by omega
    have hks' : (k : Int) ≤ (s.size : Int) := by omega
    have HNB : Hid (nb t = cutb s j (k - j)) := by rw [← ht]; exact nb_piece hks
    have HTS : Hid (t.size = k - j) := by rw [← ht, ByteArray.size_extract]; show _ = _; omega
    have HLT : Hid (L.length + t.size ≤ 140737488355328) := by show _ ≤ _; rw [HTS.out]; have := HH.out.2; have := HS.out; omega
    have HA : Hid (R = txS s k (L ++ nb t)) := by
      show R = _
      rw [← txS_eq (L ++ nb t) (by rw [← HKP.out]; exact pl_end s j), ← HH.out.1, tx_pl L hj, HKP.out, HNB.out]
    have HLL : Hid ((L ++ nb t).length ≤ 4 * k) := by show _ ≤ _; rw [List.length_append, nb_length, HTS.out]; have := HH.out.2; omega
    clear ht HPLE HB HKP HQ HPL hqs
    go_upto_region 4 with (fail)
    refine RU.wp_rgn' [16, 17] (st4 g j n k s t u4) apK (apO w.heap.size W1 (L ++ nb t)) (by kernel_rfl) (by kernel_rfl) (show Below W1.heap.size W1 _ from (Below.refl _ _).drew) ?_ ?_
    · refine ⟨?_, ?_, ?_, ?_, ?_, ?_, ?_, ?_, ?_, ?_, ?_, ?_, ?_, ?_, ?_, ?_, ?_, ?_, trivial⟩
      · refine RU.ObT.pure rfl rfl rfl (fun a V hf hp ev he hc W => ?_)
        have q4 : ev (.tmp 4) = u4 := (he (.tmp 4)).trans (hf 4 rfl)
        simp only [List.getElem_toArray, List.getElem_cons_succ, List.getElem_cons_zero, execOp, Option.map_some, Option.map_none]; rw [q4]
        first | (go_simp; done) | (go_simp; rfl) | rfl
      · refine RU.ObT.pure rfl rfl rfl (fun a V hf hp ev he hc W => ?_)
        have q0 : ev (.tmp 0) = .pointer (some ⟨g, 0, none⟩) := (he (.tmp 0)).trans (hf 0 rfl)
        simp only [List.getElem_toArray, List.getElem_cons_succ, List.getElem_cons_zero, execOp, Option.map_some, Option.map_none]; rw [q0]
        first | (go_simp; done) | (go_simp; rfl) | rfl
      · refine RU.ObT.pure rfl rfl rfl (fun a V hf hp ev he hc W => ?_)
        have q27 : ev (.tmp 27) = .pointer (some ⟨g, 0, none⟩) := (he (.tmp 27)).trans (hp 1 27 rfl)
        simp only [List.getElem_toArray, List.getElem_cons_succ, List.getElem_cons_zero, execOp, Option.map_some, Option.map_none]; rw [q27]
        first | (go_simp; done) | (go_simp; rfl) | rfl
      · refine RU.ObT.pure rfl rfl rfl (fun a V hf hp ev he hc W => ?_)
        have q28 : ev (.tmp 28) = .pointer (some ⟨g, 0, none⟩) := (he (.tmp 28)).trans (hp 2 28 rfl)
        simp only [List.getElem_toArray, List.getElem_cons_succ, List.getElem_cons_zero, execOp, Option.map_some, Option.map_none]; rw [q28]
        first | (go_simp; done) | (go_simp; rfl) | rfl
      · refine RU.ObT.silent rfl (fun a W k0 V hO hf hp hk => ?_)
        have hO' : Below w.heap.size W1 W := apO.low HSZ.out hO
        have hcell := (HP1.out.keep (hO'.block _ hglt)).cells.1
        refine RU.ob_val rfl (RU.wanted_none rfl) (fun ev he hc => ?_) ⟨rfl, hO⟩
        have q29 : ev (.tmp 29) = .pointer (some ⟨g, 0, none⟩) := (he (.tmp 29)).trans (hp 3 29 rfl)
        simp only [List.getElem_toArray, List.getElem_cons_succ, List.getElem_cons_zero, execOp, Option.map_some, Option.map_none]; rw [q29]
        first | (go_simp; done) | (go_simp; rfl) | rfl
      · refine RU.ObT.pure rfl rfl rfl (fun a V hf hp ev he hc W => ?_)
        have q0 : ev (.tmp 0) = .pointer (some ⟨g, 0, none⟩) := (he (.tmp 0)).trans (hf 0 rfl)
        simp only [List.getElem_toArray, List.getElem_cons_succ, List.getElem_cons_zero, execOp, Option.map_some, Option.map_none]; rw [q0]
        first | (go_simp; done) | (go_simp; rfl) | rfl
      · refine RU.ObT.pure rfl rfl rfl (fun a V hf hp ev he hc W => ?_)
        have q31 : ev (.tmp 31) = .pointer (some ⟨g, 0, none⟩) := (he (.tmp 31)).trans (hp 5 31 rfl)
        simp only [List.getElem_toArray, List.getElem_cons_succ, List.getElem_cons_zero, execOp, Option.map_some, Option.map_none]; rw [q31]
        first | (go_simp; done) | (go_simp; rfl) | rfl
      · refine RU.ObT.pure rfl rfl rfl (fun a V hf hp ev he hc W => ?_)
        have q32 : ev (.tmp 32) = .pointer (some ⟨g, 0, none⟩) := (he (.tmp 32)).trans (hp 6 32 rfl)
        simp only [List.getElem_toArray, List.getElem_cons_succ, List.getElem_cons_zero, execOp, Option.map_some, Option.map_none]; rw [q32]
        first | (go_simp; done) | (go_simp; rfl) | rfl
      · refine RU.ObT.silent rfl (fun a W k0 V hO hf hp hk => ?_)
        have hO' : Below w.heap.size W1 W := apO.low HSZ.out hO
        have hcell := (HP1.out.keep (hO'.block _ hglt)).cells.2.1
        refine RU.ob_val rfl (RU.wanted_none rfl) (fun ev he hc => ?_) ⟨rfl, hO⟩
        have q33 : ev (.tmp 33) = .pointer (some ⟨g, 1, none⟩) := (he (.tmp 33)).trans (hp 7 33 rfl)
        simp only [List.getElem_toArray, List.getElem_cons_succ, List.getElem_cons_zero, execOp, Option.map_some, Option.map_none]; rw [q33]
        first | (go_simp; done) | (go_simp; rfl) | rfl
      · refine RU.ObT.pure rfl rfl rfl (fun a V hf hp ev he hc W => ?_)
        have q0 : ev (.tmp 0) = .pointer (some ⟨g, 0, none⟩) := (he (.tmp 0)).trans (hf 0 rfl)
        simp only [List.getElem_toArray, List.getElem_cons_succ, List.getElem_cons_zero, execOp, Option.map_some, Option.map_none]; rw [q0]
        first | (go_simp; done) | (go_simp; rfl) | rfl
      · refine RU.ObT.pure rfl rfl rfl (fun a V hf hp ev he hc W => ?_)
        have q35 : ev (.tmp 35) = .pointer (some ⟨g, 0, none⟩) := (he (.tmp 35)).trans (hp 9 35 rfl)
        simp only [List.getElem_toArray, List.getElem_cons_succ, List.getElem_cons_zero, execOp, Option.map_some, Option.map_none]; rw [q35]
        first | (go_simp; done) | (go_simp; rfl) | rfl
      · refine RU.ObT.pure rfl rfl rfl (fun a V hf hp ev he hc W => ?_)
        have q36 : ev (.tmp 36) = .pointer (some ⟨g, 0, none⟩) := (he (.tmp 36)).trans (hp 10 36 rfl)
        simp only [List.getElem_toArray, List.getElem_cons_succ, List.getElem_cons_zero, execOp, Option.map_some, Option.map_none]; rw [q36]
        first | (go_simp; done) | (go_simp; rfl) | rfl
      · refine RU.ObT.silent rfl (fun a W k0 V hO hf hp hk => ?_)
        have hO' : Below w.heap.size W1 W := apO.low HSZ.out hO
        have hcell := (HP1.out.keep (hO'.block _ hglt)).cells.2.1
        refine RU.ob_val rfl (RU.wanted_none rfl) (fun ev he hc => ?_) ⟨rfl, hO⟩
        have q37 : ev (.tmp 37) = .pointer (some ⟨g, 1, none⟩) := (he (.tmp 37)).trans (hp 11 37 rfl)
        simp only [List.getElem_toArray, List.getElem_cons_succ, List.getElem_cons_zero, execOp, Option.map_some, Option.map_none]; rw [q37]
        first | (go_simp; done) | (go_simp; rfl) | rfl
      · refine RU.ObT.pure rfl rfl rfl (fun a V hf hp ev he hc W => ?_)
        have q5 : ev (.tmp 5) = .int .i64 (n : Int) := (he (.tmp 5)).trans (hf 5 rfl)
        simp only [List.getElem_toArray, List.getElem_cons_succ, List.getElem_cons_zero, execOp, Option.map_some, Option.map_none]; rw [q5]
        first | (go_simp; done) | (go_simp; rfl) | rfl
      · refine RU.ObT.pure rfl rfl rfl (fun a V hf hp ev he hc W => ?_)
        have q38 : ev (.tmp 38) = .int .i64 (j : Int) := (he (.tmp 38)).trans (hp 12 38 rfl)
        have q39 : ev (.tmp 39) = .int .i64 (n : Int) := (he (.tmp 39)).trans (hp 13 39 rfl)
        simp only [List.getElem_toArray, List.getElem_cons_succ, List.getElem_cons_zero, execOp, Option.map_some, Option.map_none]; rw [q38, q39]
        (go_simp; rw [HWJ.out]; rfl)
      · refine RU.ObT.pure rfl rfl rfl (fun a V hf hp ev he hc W => ?_)
        have q30 : ev (.tmp 30) = .string s := (he (.tmp 30)).trans (hp 4 30 rfl)
        have q34 : ev (.tmp 34) = .int .i64 (j : Int) := (he (.tmp 34)).trans (hp 8 34 rfl)
        have q40 : ev (.tmp 40) = .int .i64 (k : Int) := (he (.tmp 40)).trans (hp 14 40 rfl)
        simp only [List.getElem_toArray, List.getElem_cons_succ, List.getElem_cons_zero, execOp, Option.map_some, Option.map_none]; rw [q30, q34, q40]
        rw [← HT.out]
        first | (go_simp; done) | (go_simp; rfl) | rfl
      · refine RU.ObT.loud (j := 0) rfl (fun a W V hO hf hp => ?_)
        have hO' : Below W1.heap.size W1 W := hO
        have q26 : a.eval (.tmp 26) = u4 := hp 0 26 rfl
        have q41 : a.eval (.tmp 41) = .string t := hp 15 41 rfl
        obtain ⟨v', W2, hr, p1, p2⟩ := run_str (Nat.le_trans HSZ.out hO'.size) (HOW.out.below hO') t HLT.out
        refine RU.ob_run (v := v') (w' := W2) rfl (RU.wanted_none rfl) (fun ev he hc => ?_) ⟨_, rfl, (hO'.mono HSZ.out).trans p2, p1⟩
        have e1 := (he (.tmp 26)).trans q26
        have e2 := (he (.tmp 41)).trans q41
        simp only [List.getElem_toArray, List.getElem_cons_succ, List.getElem_cons_zero, execOp, resolve, invoke, builtin, Sem.run_bind, Sem.run_pure, Result.andThen_ok, List.map_toArray, List.map_cons, List.map_nil, e1, e2, hr]
      · refine RU.ObT.loud (j := 1) rfl (fun a W V hO hf hp => ?_)
        have q42 : a.eval (.tmp 42) = V 0 := hp 16 42 rfl
        refine RU.ob_val (v := V 0) rfl (RU.wanted_none rfl) (fun ev he hc => ?_) ⟨_, rfl, hO⟩
        have e1 := (he (.tmp 42)).trans q42
        simp only [List.getElem_toArray, List.getElem_cons_succ, List.getElem_cons_zero, execOp]
        rw [e1]
        first | rfl | go_simp
    intro W2 VW2 hOW2
    have P2 : Hid (Below w.heap.size W1 W2 ∧ Ow w.heap.size W2 (VW2 1) (L ++ nb t)) := hOW2
    clear hOW2
    simp only [RU.lay, RU.val, show RU.at' [16, 17] 0 = none from rfl, show RU.at' [16, 17] 1 = none from rfl, show RU.at' [16, 17] 2 = none from rfl, show RU.at' [16, 17] 3 = none from rfl, show RU.at' [16, 17] 4 = none from rfl, show RU.at' [16, 17] 5 = none from rfl, show RU.at' [16, 17] 6 = none from rfl, show RU.at' [16, 17] 7 = none from rfl, show RU.at' [16, 17] 8 = none from rfl, show RU.at' [16, 17] 9 = none from rfl, show RU.at' [16, 17] 10 = none from rfl, show RU.at' [16, 17] 11 = none from rfl, show RU.at' [16, 17] 12 = none from rfl, show RU.at' [16, 17] 13 = none from rfl, show RU.at' [16, 17] 14 = none from rfl, show RU.at' [16, 17] 15 = none from rfl, show RU.at' [16, 17] 16 = some 0 from rfl, show RU.at' [16, 17] 17 = some 1 from rfl, st4, Act.put]
    simp only [List.setIfInBounds_toArray, List.set_cons_succ, List.set_cons_zero]
    obtain ⟨v, hv⟩ : ∃ v, VW2 1 = v := ⟨_, rfl⟩
    rw [hv] at P2 ⊢
    have HP2 : Hid (PB W2 g s j d) := HP1.out.keep (P2.out.1.block _ hglt)
    have HC2 : Hid (Cg g w W2) := HC1.out.then P2.out.1 (Nat.le_refl _)
    have HOW2 : Hid (Ow w.heap.size W2 v (L ++ nb t)) := P2.out.2
    clear hv P2 HP1 HC1 HOW HOW1 HSZ HSZ1 HLT
    obtain ⟨M, hM⟩ : ∃ M, L ++ nb t = M := ⟨_, rfl⟩
    rw [hM] at HA HLL HOW2
    clear hM HT HNB HTS HH L
    obtain ⟨r0, r1, r2⟩ := HP2.out.cells
    have f2 := HP2.out.froz 1
    go_wp2_with fail
    have HP3 : Hid (PB (W2.setCell ⟨g, 1, none⟩ (.int .i64 ((j : Int) + (n : Int)))) g s k d) := by
      have := HP2.out.set1 (j + n)
      rw [hk] at this
      rw [show ((j : Int) + (n : Int)) = (k : Int) from HK.out]; exact this
    have HC3 : Hid (Cg g w (W2.setCell ⟨g, 1, none⟩ (.int .i64 ((j : Int) + (n : Int))))) := HC2.out.setCell rfl
    have HOW3 : Hid (Ow w.heap.size (W2.setCell ⟨g, 1, none⟩ (.int .i64 ((j : Int) + (n : Int)))) v M) := HOW2.out.keep (fun b e => Below.heap_setCell _ _ _ _ (by have := HOW2.out.blk b e; show b ≠ g; omega))
    obtain ⟨W3, hW3⟩ : ∃ W3, W2.setCell ⟨g, 1, none⟩ (.int .i64 ((j : Int) + (n : Int))) = W3 := ⟨_, rfl⟩
    rw [hW3] at HP3 HC3 HOW3 ⊢
    clear hW3 HP2 HC2 HOW2 r0 r1 r2 f2 HK
    by_cases e34 : gb s k = 34
    · have HR4 : Hid (R = ((M, k + 1), true)) := by show _ = _; rw [HA.out]; unfold txS; rw [if_pos e34]
      refine (take_yes HP3.out hks HS.out e34 (by decide)).mono ?_
      rintro e W4 ⟨rfl, p1, p2⟩
      have HP4 : Hid (PB W4 g s (k + 1) d) := p1
      have HC4 : Hid (Cg g w W4) := HC3.out.trans p2
      have HSL : Hid _ := (HOW3.out.keep (fun b e => p2.other b (HOW3.out.lt b e) (by have := HOW3.out.blk b e; omega))).sl.str
      have hcv := HSL.out
      clear p1 p2
      go_wp2
      go_ret2
      rw [HR4.out]
      exact ⟨rfl, HP4.out, HC4.out⟩
    · refine (take_no HP3.out hks HS.out e34).mono ?_
      rintro e W4 ⟨rfl, n4, rfl⟩
      go_wp2_with fail
      refine (next_any (HP3.out.drew n4) hks HS.out).mono ?_
      rintro e W4 ⟨rfl, n5, rfl⟩
      have HP5 : Hid (PB ((W3.drewN n4).drewN n5) g s k d) := (HP3.out.drew n4).drew n5
      have HC5 : Hid (Cg g w ((W3.drewN n4).drewN n5)) := (HC3.out.drew n4).drew n5
      have HOW5 : Hid (Ow w.heap.size ((W3.drewN n4).drewN n5) v M) := HOW3.out
      obtain ⟨W4, hW4⟩ : ∃ W4, (W3.drewN n4).drewN n5 = W4 := ⟨_, rfl⟩
      rw [hW4] at HP5 HC5 HOW5 ⊢
      clear hW4 HP3 HC3 HOW3
      by_cases e92 : gb s k = 92
      · have hkl := gb_lt (s := s) (i := k) (by omega)
        have HR4 : Hid (R = txE s k M (esc s k)) := by show _ = _; rw [HA.out]; unfold txS; rw [if_neg e34, if_pos e92]
        have HP4 : Hid (PB W4 g s k d) := HP5.out
        have HEV : Hid (EV W4 ev) := HV.out.chg HC5.out hg
        obtain ⟨qq, hq2⟩ : ∃ qq, rest s k = qq := ⟨_, rfl⟩
        have HQ : Hid (s.extract k s.size = qq) := hq2
        have hqs2 : qq.size ≤ 8192 := by rw [← hq2, rest_size]; have := HS.out; omega
        have HES0 : ∀ w (hv : EV w ev), _ := fun w hv => @escape_any qq w hqs2 ev hv
        rw [show esc qq 0 = esc s k by rw [← hq2]; exact esc_rest hks] at HES0
        have hin := fun r n => @esc_in s k n r
        obtain ⟨o, ho⟩ : ∃ o, esc s k = o := ⟨_, rfl⟩
        rw [ho] at HES0 HR4
        simp only [ho] at hin
        have HES : Hid (∀ w (hv : EV w ev), Calls Tryd.prog 83 #[.string qq] w fun e w' => e = .returned (escV o) ∧ Below w.heap.size w w') := HES0
        clear hq2 HES0 ho
        go_wp2_with fail
        go_upto_region 10 with (fail)
        refine RU.wp_rgn' [] (st10 g k o s qq) (fun _ => 0) (gΩ W4) (by kernel_rfl) (by kernel_rfl) (show Below W4.heap.size W4 _ from (Below.refl _ _).drew) ?_ ?_
        · refine ⟨?_, ?_, ?_, ?_, ?_, ?_, ?_, ?_, ?_, ?_, ?_, ?_, ?_, ?_, ?_, ?_, ?_, trivial⟩
          · refine RU.ObT.pure rfl rfl rfl (fun a V hf hp ev he hc W => ?_)
            have q0 : ev (.tmp 0) = .pointer (some ⟨g, 0, none⟩) := (he (.tmp 0)).trans (hf 0 rfl)
            simp only [List.getElem_toArray, List.getElem_cons_succ, List.getElem_cons_zero, execOp, Option.map_some, Option.map_none]; rw [q0]
            first | (go_simp; done) | (go_simp; rfl) | rfl
          · refine RU.ObT.pure rfl rfl rfl (fun a V hf hp ev he hc W => ?_)
            have q59 : ev (.tmp 59) = .pointer (some ⟨g, 0, none⟩) := (he (.tmp 59)).trans (hp 0 59 rfl)
            simp only [List.getElem_toArray, List.getElem_cons_succ, List.getElem_cons_zero, execOp, Option.map_some, Option.map_none]; rw [q59]
            first | (go_simp; done) | (go_simp; rfl) | rfl
          · refine RU.ObT.pure rfl rfl rfl (fun a V hf hp ev he hc W => ?_)
            have q60 : ev (.tmp 60) = .pointer (some ⟨g, 0, none⟩) := (he (.tmp 60)).trans (hp 1 60 rfl)
            simp only [List.getElem_toArray, List.getElem_cons_succ, List.getElem_cons_zero, execOp, Option.map_some, Option.map_none]; rw [q60]
            first | (go_simp; done) | (go_simp; rfl) | rfl
          · refine RU.ObT.silent rfl (fun a W k0 V hO hf hp hk => ?_)
            have hO' : Below W4.heap.size W4 W := hO
            have hcell := (HP4.out.keep (hO'.block _ HP4.out.lt)).cells.1
            refine RU.ob_val rfl (RU.wanted_none rfl) (fun ev he hc => ?_) ⟨rfl, hO⟩
            have q61 : ev (.tmp 61) = .pointer (some ⟨g, 0, none⟩) := (he (.tmp 61)).trans (hp 2 61 rfl)
            simp only [List.getElem_toArray, List.getElem_cons_succ, List.getElem_cons_zero, execOp, Option.map_some, Option.map_none]; rw [q61]
            first | (go_simp; done) | (go_simp; rfl) | rfl
          · refine RU.ObT.pure rfl rfl rfl (fun a V hf hp ev he hc W => ?_)
            have q0 : ev (.tmp 0) = .pointer (some ⟨g, 0, none⟩) := (he (.tmp 0)).trans (hf 0 rfl)
            simp only [List.getElem_toArray, List.getElem_cons_succ, List.getElem_cons_zero, execOp, Option.map_some, Option.map_none]; rw [q0]
            first | (go_simp; done) | (go_simp; rfl) | rfl
          · refine RU.ObT.pure rfl rfl rfl (fun a V hf hp ev he hc W => ?_)
            have q63 : ev (.tmp 63) = .pointer (some ⟨g, 0, none⟩) := (he (.tmp 63)).trans (hp 4 63 rfl)
            simp only [List.getElem_toArray, List.getElem_cons_succ, List.getElem_cons_zero, execOp, Option.map_some, Option.map_none]; rw [q63]
            first | (go_simp; done) | (go_simp; rfl) | rfl
          · refine RU.ObT.pure rfl rfl rfl (fun a V hf hp ev he hc W => ?_)
            have q64 : ev (.tmp 64) = .pointer (some ⟨g, 0, none⟩) := (he (.tmp 64)).trans (hp 5 64 rfl)
            simp only [List.getElem_toArray, List.getElem_cons_succ, List.getElem_cons_zero, execOp, Option.map_some, Option.map_none]; rw [q64]
            first | (go_simp; done) | (go_simp; rfl) | rfl
          · refine RU.ObT.silent rfl (fun a W k0 V hO hf hp hk => ?_)
            have hO' : Below W4.heap.size W4 W := hO
            have hcell := (HP4.out.keep (hO'.block _ HP4.out.lt)).cells.2.1
            refine RU.ob_val rfl (RU.wanted_none rfl) (fun ev he hc => ?_) ⟨rfl, hO⟩
            have q65 : ev (.tmp 65) = .pointer (some ⟨g, 1, none⟩) := (he (.tmp 65)).trans (hp 6 65 rfl)
            simp only [List.getElem_toArray, List.getElem_cons_succ, List.getElem_cons_zero, execOp, Option.map_some, Option.map_none]; rw [q65]
            first | (go_simp; done) | (go_simp; rfl) | rfl
          · refine RU.ObT.pure rfl rfl rfl (fun a V hf hp ev he hc W => ?_)
            have q62 : ev (.tmp 62) = .string s := (he (.tmp 62)).trans (hp 3 62 rfl)
            have q66 : ev (.tmp 66) = .int .i64 (k : Int) := (he (.tmp 66)).trans (hp 7 66 rfl)
            simp only [List.getElem_toArray, List.getElem_cons_succ, List.getElem_cons_zero, execOp, Option.map_some, Option.map_none]; rw [q62, q66]
            rw [← HQ.out]
            first | (go_simp; done) | (go_simp; rfl) | rfl
          · refine RU.ObT.silent rfl (fun a W k0 V hO hf hp hk => ?_)
            have hO' : Below W4.heap.size W4 W := hO
            have e67 : a.eval (.tmp 67) = .string qq := hp 8 67 rfl
            refine RU.ob_call (g := 83) (args := #[.string qq]) rfl (RU.wanted_none rfl) (fun ev he hc => ?_) ((HES.out W (HEV.out.below hO')).mono ?_)
            · have h67 := (he (.tmp 67)).trans e67
              have hfn := he (.func 83)
              simp only [List.getElem_toArray, List.getElem_cons_succ, List.getElem_cons_zero, execOp, Option.map_some, Option.map_none]
              simp only [resolve, invoke, Sem.run_bind, Sem.run_pure, Result.andThen_ok, List.map_toArray, List.map_cons, List.map_nil, h67, hfn, Act.eval, hc]
              rfl
            · rintro e' W2 ⟨rfl, hb2⟩
              exact ⟨_, rfl, rfl, (hO'.trans (hb2.mono hO'.size) : Below W4.heap.size W4 W2)⟩
          · refine RU.ObT.pure rfl rfl rfl (fun a V hf hp ev he hc W => ?_)
            have q68 : ev (.tmp 68) = escV o := (he (.tmp 68)).trans (hp 9 68 rfl)
            simp only [List.getElem_toArray, List.getElem_cons_succ, List.getElem_cons_zero, execOp, Option.map_some, Option.map_none]; rw [q68]
            first | (go_simp; done) | (go_simp; rfl) | rfl
          · refine RU.ObT.pure rfl rfl rfl (fun a V hf hp ev he hc W => ?_)
            have q58 : ev (.tmp 58) = escV o := (he (.tmp 58)).trans (hp 10 58 rfl)
            simp only [List.getElem_toArray, List.getElem_cons_succ, List.getElem_cons_zero, execOp, Option.map_some, Option.map_none]; rw [q58]
            rw [escV_eq]
            first | (go_simp; done) | (go_simp; rfl) | rfl
          · refine RU.ObT.pure rfl rfl rfl (fun a V hf hp ev he hc W => ?_)
            have q58 : ev (.tmp 58) = escV o := (he (.tmp 58)).trans (hp 10 58 rfl)
            simp only [List.getElem_toArray, List.getElem_cons_succ, List.getElem_cons_zero, execOp, Option.map_some, Option.map_none]; rw [q58]
            rw [escV_eq]
            first | (go_simp; done) | (go_simp; rfl) | rfl
          · refine RU.ObT.pure rfl rfl rfl (fun a V hf hp ev he hc W => ?_)
            have q58 : ev (.tmp 58) = escV o := (he (.tmp 58)).trans (hp 10 58 rfl)
            simp only [List.getElem_toArray, List.getElem_cons_succ, List.getElem_cons_zero, execOp, Option.map_some, Option.map_none]; rw [q58]
            rw [escV_eq]
            first | (go_simp; done) | (go_simp; rfl) | rfl
          · refine RU.ObT.pure rfl rfl rfl (fun a V hf hp ev he hc W => ?_)
            have q69 : ev (.tmp 69) = .int .i32 (eR o) := (he (.tmp 69)).trans (hp 11 69 rfl)
            simp only [List.getElem_toArray, List.getElem_cons_succ, List.getElem_cons_zero, execOp, Option.map_some, Option.map_none]; rw [q69]
            first | (go_simp; done) | (go_simp; rfl) | rfl
          · refine RU.ObT.pure rfl rfl rfl (fun a V hf hp ev he hc W => ?_)
            have q70 : ev (.tmp 70) = .int .i64 (eN o) := (he (.tmp 70)).trans (hp 12 70 rfl)
            simp only [List.getElem_toArray, List.getElem_cons_succ, List.getElem_cons_zero, execOp, Option.map_some, Option.map_none]; rw [q70]
            first | (go_simp; done) | (go_simp; rfl) | rfl
          · refine RU.ObT.pure rfl rfl rfl (fun a V hf hp ev he hc W => ?_)
            have q71 : ev (.tmp 71) = .bool (eB o) := (he (.tmp 71)).trans (hp 13 71 rfl)
            simp only [List.getElem_toArray, List.getElem_cons_succ, List.getElem_cons_zero, execOp, Option.map_some, Option.map_none]; rw [q71]
            first | (go_simp; done) | (go_simp; rfl) | rfl
        intro W5 VW5 hOW5
        have BW5 : Hid (Below W4.heap.size W4 W5) := hOW5
        clear hOW5
        simp only [RU.lay, RU.val, RU.at', st10, Act.put]
        simp only [List.setIfInBounds_toArray, List.set_cons_succ, List.set_cons_zero]
        have HP6 : Hid (PB W5 g s k d) := HP4.out.keep (BW5.out.block _ HP4.out.lt)
        have HC6 : Hid (Cg g w W5) := HC5.out.then BW5.out HC5.out.size
        have HOW6 : Hid (Ow w.heap.size W5 v M) := HOW5.out.below BW5.out
        clear HP4 HP5 HC5 HOW5 BW5 HES HEV HQ
        cases o with
        | none =>
          have HR5 : Hid (R = ((M, k), false)) := HR4.out
          go_wp2
          go_ret2
          rw [HR5.out]
          exact ⟨rfl, HP6.out, HC6.out⟩
        | some rn =>
          obtain ⟨r, m⟩ := rn
          have HR5 : Hid (tx s (k + m) (M ++ Lib.encodeRuneZ r) = R) := HR4.out.symm
          obtain ⟨h1, h2, h3, h4, -⟩ := hin r m rfl
          simp only [eR, eN, eB]
          go_wp2_with fail
          refine (rune_any w.heap.size v M r h3 h4 W5 HOW6.out (by have := HLL.out; have := HS.out; omega) HC6.out.size).mono ?_
          rintro e W6 ⟨v', rfl, o1, b1⟩
          have HP7 : Hid (PB W6 g s k d) := HP6.out.keep (b1.block _ hglt)
          have HC7 : Hid (Cg g w W6) := HC6.out.then b1 (Nat.le_refl _)
          have HOW7 : Hid (Ow w.heap.size W6 v' (M ++ Lib.encodeRuneZ r)) := o1
          have HL7 : Hid ((M ++ Lib.encodeRuneZ r).length ≤ 4 * (k + m)) := by
            show _ ≤ _
            rw [List.length_append]
            have := HLL.out
            have := (Lib.encodeRuneZ_length r).2
            omega
          obtain ⟨r0, r1, r2⟩ := HP7.out.cells
          have f2 := HP7.out.froz 1
          have hb5 : (k : Int) + (m : Int) ≤ 8192 := by have := HS.out; omega
          have hb6 : (0 : Int) ≤ (k : Int) := by omega
          have hb7 : (0 : Int) ≤ (m : Int) := by omega
          have HPS : Hid (posOf (W6.setCell ⟨g, 1, none⟩ (.int .i64 ((k : Int) + (m : Int)))) g = k + m) := (HP7.out.set1 (k + m)).pos
          clear o1 b1 HP6 HC6 HOW6 h3 h4 hin
          go_wp2
          go_roundw
          case rel => exact ⟨k + m, M ++ Lib.encodeRuneZ r, HP7.out.set1 (k + m), HC7.out.setCell rfl, h1, HOW7.out.keep (fun b e => Below.heap_setCell _ _ _ _ (by have := HOW7.out.blk b e; show b ≠ g; omega)), HR5.out, HL7.out⟩
          case measure => rw [HPS.out, hps]; omega
      · have HR4 : Hid (R = ((M, k), false)) := by show _ = _; rw [HA.out]; unfold txS; rw [if_neg e34, if_neg e92]
        go_wp2
        go_ret2
        rw [HR4.out]
        exact ⟨rfl, HP5.out, HC5.out⟩
end Go.Proofs.YtefaohokmhdplaaDoor
