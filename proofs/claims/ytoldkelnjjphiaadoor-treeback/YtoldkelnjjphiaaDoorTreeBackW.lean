/- The walk of TreeBack. -/
import Derived.Test.YtoldkelnjjphiaaDoorTrrL
import Derived.Test.YtoldkelnjjphiaaDoorTrmD
import Derived.Test.YtoldkelnjjphiaaDoorTrdA
import Derived.Test.YtoldkelnjjphiaaDoorTreeOpensW
namespace Go.Proofs.YtoldkelnjjphiaaDoor
open Go Go.RowKit
set_option linter.unusedSimpArgs false
set_option linter.unusedVariables false
set_option maxRecDepth 100000

theorem field_h {x : Nd} (h : x.Ok) (w : World) : (Instr.field 27 (.agg (nc x).toArray) 2).run Tryd.prog w = .ok (.agg (bv x.h).toArray) w := by
  have p2 := part32 w (nc x).toArray 33
  rw [ext_h h] at p2
  obtain ⟨C, hC⟩ : ∃ C, (nc x).toArray = C := ⟨_, rfl⟩
  rw [hC] at p2 ⊢
  have hu := run_underlying (P := Tryd.prog) Tryd.underlying27 (w := w)
  simp only [Instr.field, Sem.run_bind, hu, Result.andThen_ok, asAgg, Sem.run_pure]
  exact p2
def tb7f (v7 : Value) (y2 : List Int) (er : Int) : Nat → Option Value
  | 0 => some (v7)
  | 2 => some (.agg (bv y2).toArray)
  | 6 => some (.int .i64 er)
  | 8 => some (.int .i64 er)
  | _ => none
def tb14f (b o m cp k : Nat) (px y2 : List Int) (q : Bool) : Nat → Value
  | 0 => .slice (some ⟨b, o, none⟩) m cp
  | 1 => .int .i64 (k : Int)
  | 2 => .pointer (some ⟨b, o + k * 64, none⟩)
  | 3 => .pointer (some ⟨b, o + k * 64, none⟩)
  | 4 => .agg (bv px).toArray
  | 5 => .agg (bv y2).toArray
  | 6 => .bool q
  | _ => undef
def tb15f (b o m cp k : Nat) (x : Lf) (nx : Nd) (H : List Int) : Nat → Value
  | 0 => .bool true
  | 1 => .bool true
  | 2 => .agg (bv H).toArray
  | 3 => .slice (some ⟨b, o, none⟩) m cp
  | 4 => .int .i64 (k : Int)
  | 5 => .pointer (some ⟨b, o + k * 64, none⟩)
  | 6 => .agg (lfc x).toArray
  | 7 => .agg (nc nx).toArray
  | 8 => .agg (bv H).toArray
  | 9 => .bool true
  | 10 => .bool true
  | 11 => .bool true
  | _ => undef
set_option maxHeartbeats 32000000 in
theorem back_any (ls : List Lf) (hk : ∀ x ∈ ls, x.Ok) (hlen : ls.length ≤ 2500000000000) (t : Int) (htr : -9223372036854775808 ≤ t ∧ t ≤ 9223372036854775807) (y : List Int) (hy : L32 y) (v : Value) (w : World) (hv : LS w v ls) (hT : Tb w) :
    Calls Tryd.prog 7 #[v, .int .i64 t, .agg (bv y).toArray] w fun e w' => e = .returned (.bool true) ∧ Below w.heap.size w w' := by
  have hz := zero_32
  rw [show List.replicate 32 (0 : Int) = z32 from rfl] at hz
  obtain ⟨Z, hZ⟩ : ∃ Z, (bv z32).toArray = Z := ⟨_, rfl⟩
  have HZS : Hid (Z.size = 32) := by show Z.size = 32; rw [← hZ]; simp [bv, z32]
  have HZE : Hid ((bv z32).toArray = Z) := hZ
  rw [hZ] at hz
  have sy : (bv y).toArray.size = 32 := by rw [List.size_toArray, bv_length, hy.len]
  have ra := range_alloc w (bv y) 23 (0, 0)
  have rh : (w.alloc (.cells (bv y).toArray 23)).heap[w.heap.size]? = some (.cells (bv y).toArray 23 (0, 0)) := by show (w.heap.push _)[w.heap.size]? = _; simp
  obtain ⟨A, hA⟩ : ∃ A, (bv y).toArray = A := ⟨_, rfl⟩
  rw [hA] at ra sy rh ⊢
  obtain ⟨U, hU⟩ : ∃ U, w.alloc (.cells A 23) = U := ⟨_, rfl⟩
  have bU : Below w.heap.size w U := by rw [← hU]; exact (Below.refl _ w).alloc (Nat.le_refl _) _
  have sU : U.heap.size = w.heap.size + 1 := by rw [← hU]; simp
  rw [hU] at ra rh
  have BU : Hid (Below w.heap.size w U) := bU
  have VU : Hid (LS U v ls) := hv.below bU
  have TW : Hid (Tb w) := hT
  have HY : Hid (L32 y) := hy
  obtain ⟨D, hD⟩ : ∃ D, w.heap.size = D := ⟨_, rfl⟩
  have HD : Hid (w.heap.size = D) := hD
  rw [hD] at ra sU rh
  have RY : Hid (U.rangeAt D 0 (bv y)) := ra
  have hDU : Hid (D < U.heap.size) := by show D < _; omega
  have RH : Hid (U.heap[D]? = some (.cells A 23 (0, 0))) := rh
  have HAS : Hid (A.size = 32) := sy
  have HAW : Hid (Calls Tryd.prog 9 #[] U fun e w' => e = .returned (.bool true) ∧ Below U.heap.size U w') := awake_any U (hT.below bU)
  have HDS : Hid (∀ W : World, Below U.heap.size U W → Calls Tryd.prog 31 #[v] W fun e w' => ∃ v', e = .returned v' ∧ LO W.heap.size w' v' (dst ls) ∧ Below W.heap.size W w') := fun W q => distinct_any ls hk hlen v W (VU.out.below q)
  obtain ⟨Q, hQ⟩ : ∃ Q, dst ls = Q := ⟨_, rfl⟩
  have HQK : Hid (∀ x ∈ Q, x.Ok) := by rw [← hQ]; exact dst_ok hk
  have HQO : Hid (okl Q) := by rw [← hQ]; exact okl_dst hk
  have HQL : Hid (Q.length ≤ 2500000000000) := by rw [← hQ]; have := dst_len ls []; show _ ≤ _; unfold dst; simp at this; omega
  rw [hQ] at HDS
  clear ra bU hy hk sU hv hlen hT hQ rh hZ hA
  go_enter Tryd.func7, Tryd.ntmps7
  go_upto_region 1 with (fail)
  try rw [hU]
  try rw [hD]
  clear hU hD
  go_upto_region 4 with (first
    | (go_at_call 9; refine HAW.out.mono ?_; rintro e w0 ⟨rfl, g1⟩; have C0' : Hid (Below U.heap.size U w0) := g1; clear g1)
    | (go_at_call 31; refine (HDS.out w0 C0'.out).mono ?_; rintro e w1 ⟨v7, rfl, g1, g2⟩; have O1 : Hid (LO w0.heap.size w1 v7 Q) := g1; have C1 : Hid (Below U.heap.size U w1) := Below.tr' C0'.out g2; clear g1 g2))
  obtain ⟨ad, cp, hv7, hcp, hqx⟩ := O1.out.ls
  obtain ⟨m, hm⟩ : ∃ m, Q.length = m := ⟨_, rfl⟩
  have HQM : Hid (Q.length = m) := hm
  have hml : m ≤ 2500000000000 := by rw [← hm]; exact HQL.out
  rw [hm] at hv7
  subst hv7
  have HQ1 : Hid (Q = [] ∧ (ad = none → cp = 0) ∨ ∃ b o, ad = some ⟨b, o, none⟩ ∧ b < w1.heap.size ∧ ∀ (i : Nat) (x : Lf), Q[i]? = some x → w1.rangeAt b (o + i * 64) (lfc x)) := hqx
  clear hm hcp hqx
  have hDw0 : Hid (D < w0.heap.size) := Nat.lt_of_lt_of_le hDU.out C0'.out.size
  have NQ1 : Hid (LS w1 (.slice ad m cp) Q) := by
    have := O1.out.ls; exact this
  have BW1' : Hid (Below w.heap.size w w1) := BU.out.trans (C1.out.mono BU.out.size)
  by_cases hm0 : 0 < m
  · by_cases ht2 : t.tmod 2 = 0
    · rcases HQ1.out with ⟨h0, _⟩ | ⟨b, o, rfl, hlb, hqm⟩
      · have := HQM.out; rw [h0] at this; simp at this; omega
      obtain ⟨i, hwi, him⟩ : ∃ i : Nat, wrap64 ((IntKind.u64.wrap t).tmod (m : Int)) = (i : Int) ∧ i < m := by
        have h0 : 0 ≤ IntKind.u64.wrap t := by simp [IntKind.wrap, IntKind.bits, IntKind.signed]; omega
        have h1 := Int.tmod_nonneg (m : Int) h0
        have h2 := Int.tmod_lt_of_pos (IntKind.u64.wrap t) (show (0 : Int) < (m : Int) by omega)
        refine ⟨((IntKind.u64.wrap t).tmod (m : Int)).toNat, ?_, by omega⟩
        unfold wrap64; omega
      obtain ⟨x, hx⟩ : ∃ x, Q[i]? = some x := ⟨Q[i]'(by have := HQM.out; omega), List.getElem?_eq_getElem _⟩
      have HXO : Hid x.Ok := HQK.out x (List.mem_of_getElem? hx)
      obtain ⟨y2, hy2⟩ : ∃ p, x.p = p := ⟨_, rfl⟩
      have HY2 : Hid (L32 y2) := by rw [← hy2]; exact HXO.out.p
      have RX2 : Hid (w1.rangeAt b (o + i * 64) (bv y2)) := by rw [← hy2]; exact lf_p (hqm i x hx)
      have HBD : Hid (b ≠ D) := by
        have h1 := (O1.out.1.lt b rfl).1
        have h2 := hDw0.out
        show b ≠ D
        omega
      have HTH : Hid (w1.there D 0 32) := there_of_row' ((C1.out.block _ hDU.out).trans RH.out) 0 32 (by have := HAS.out; omega)
      have hi9 : (i : Int) < (m : Int) := by omega
      clear hx hy2 hlb hqm
      go_upto_region 6 with (first
        | (refine ld 23 (.tmp 37) rfl rfl b (o + i * 64) rfl (bv y2) _ RX2.out Tryd.underlying23 rfl (size_l32 HY2.out) ?_)
        | (refine wpList_store_mid rfl 23 (.tmp 5) (.tmp 38) rfl D 0 (bv y2).toArray rfl rfl (by rw [List.size_toArray, bv_length, HY2.out.len]; exact HTH.out) (by rw [List.size_toArray]; exact size_l32 HY2.out) (bv_one' _) ?_; simp only [List.toList_toArray]))
      obtain ⟨U2, hU2⟩ : ∃ U2, w1.setCells D 0 (bv y2) = U2 := ⟨_, rfl⟩
      rw [hU2]
      have RY2 : Hid (U2.rangeAt D 0 (bv y2)) := by rw [← hU2]; exact World.rangeAt_setCells_same _ _ _ _ (by rw [bv_length, HY2.out.len]; exact HTH.out)
      have BW : Hid (Below w.heap.size w U2) := by rw [← hU2]; exact below_setCells (by have := HD.out; omega) _ _ BW1'.out
      have TU2 : Hid (Tb U2) := TW.out.below BW.out
      have hD2 : Hid (D < U2.heap.size) := by rw [← hU2]; show D < _; rw [size_setC]; exact Nat.lt_of_lt_of_le hDU.out C1.out.size
      have NQ : Hid (LS U2 (.slice (some ⟨b, o, none⟩) m cp) Q) := by
        obtain ⟨ad', cp', he, hc, hx⟩ := NQ1.out
        simp only [Value.slice.injEq] at he
        obtain ⟨rfl, h2, rfl⟩ := he
        refine ⟨_, _, by rw [HQM.out], hc, ?_⟩
        rcases hx with h | ⟨b', o', e, hlt, hm'⟩
        · exact .inl h
        · simp only [Option.some.injEq, Addr.mk.injEq, and_true] at e
          obtain ⟨rfl, rfl⟩ := e
          refine .inr ⟨b, o, rfl, by rw [← hU2, size_setC]; exact hlt, fun j z hz => ?_⟩
          rw [← hU2]
          exact World.rangeAt_setCells_apart (hm' j z hz) _ _ _ (.inl HBD.out)
      clear hU2 hwi
      obtain ⟨L, hLL⟩ : ∃ L, opl y2 (so Q) = L := ⟨_, rfl⟩
      obtain ⟨R, hRR⟩ : ∃ R, rt (so Q) = R := ⟨_, rfl⟩
      have HRL : Hid (L32 R) := by rw [← hRR]; exact rt_l32 _
      obtain ⟨F, g, e1, hF⟩ : ∃ F g e1, fnd R L y2 = (F, g, e1) := ⟨_, _, _, rfl⟩
      have HFY : Hid (∀ x ∈ Q, x.p = y2 → F = (ln x).h ∧ g = true ∧ e1 = 0) := fun x hx e => by
        have := back_yes HQK.out HQO.out HY2.out hx e; rw [hLL, hRR, hF] at this; cases this; exact ⟨rfl, rfl, rfl⟩
      have HFN : Hid ((∀ x ∈ Q, x.p ≠ y2) → F = z32 ∧ g = false ∧ e1 = 0) := fun e => by
        have := back_no HQK.out HQO.out HY2.out e; rw [hLL, hRR, hF] at this; cases this; exact ⟨rfl, rfl, rfl⟩
      have he1 : e1 = 0 := by
        by_cases q : ∃ x ∈ Q, x.p = y2
        · obtain ⟨x, hx, e⟩ := q; exact (HFY.out x hx e).2.2
        · exact (HFN.out (fun x hx e => q ⟨x, hx, e⟩)).2.2
      subst he1
      have hLo : (∀ x ∈ L, x.Ok) ∧ L.length ≤ Q.length := by
        have := wo_fit (hd := fun n => hl n y2) (own := true) (so Q).length (so Q) (so_rsn HQK.out HQO.out)
        rw [wo_opl y2 _ _ (so_rsn HQK.out HQO.out).ris (Nat.le_refl _), hLL, so_len HQO.out] at this
        exact this
      have HFL : Hid (L32 F) := by have := fnd_ok32 R L hLo.1 y2; rw [hF] at this; exact this
      obtain ⟨er, her⟩ : ∃ er : Int, er = 0 := ⟨_, rfl⟩
      have HCP : Hid (∀ W : World, Below U2.heap.size U2 W → Calls Tryd.prog 23 #[.slice (some ⟨b, o, none⟩) m cp] W fun e w' => ∃ v', e = .returned v' ∧ LS w' v' Q ∧ Below W.heap.size W w') := fun W q => copyLeaves_any Q HQK.out (by have := HQL.out; omega) _ W (NQ.out.below q)
      have HRO : Hid (∀ (v' : Value) (W : World), LS W v' Q → Below U2.heap.size U2 W → Calls Tryd.prog 22 #[v'] W fun e w' => e = .returned (.tuple #[.agg (bv R).toArray, .int .i64 0]) ∧ Below W.heap.size W w') := fun v' W n1 n2 => RootOf_any Q HQK.out HQL.out R 0 (.inl ⟨HQO.out, hRR.symm, rfl⟩) v' W n1 (TU2.out.below n2)
      have HOP : Hid (∀ (v' : Value) (W : World), LS W v' Q → Below U2.heap.size U2 W → Calls Tryd.prog 27 #[v', .agg (bv y2).toArray] W fun e w' => ∃ v', e = .returned (.tuple #[v', .int .i64 er]) ∧ NS w' v' L ∧ Below W.heap.size W w') := fun v' W n1 n2 => by
        refine (Open_any Q HQK.out HQL.out y2 HY2.out v' W n1 (TU2.out.below n2)).mono fun e w' ⟨v', er', he, hL, hb⟩ => ?_
        rcases hL with ⟨_, h1, h2⟩ | ⟨h1, _⟩
        · rw [her]; subst h1; rw [hLL] at h2; exact ⟨v', he, h2.ns, hb⟩
        · exact absurd HQO.out h1
      have HFO : Hid (∀ (v' : Value) (W : World), NS W v' L → Below U2.heap.size U2 W → Calls Tryd.prog 29 #[.agg (bv R).toArray, v', .agg (bv y2).toArray] W fun e w' => e = .returned (.tuple #[.agg (bv F).toArray, .bool g, .int .i64 0]) ∧ Below W.heap.size W w') := fun v' W n1 n2 => by
        have := Found_any R HRL.out L hLo.1 (by have h1 := hLo.2; have h2 := HQL.out; omega) y2 HY2.out v' W n1 (TU2.out.below n2); rw [hF] at this; exact this
      have HQX : Hid (Q = [] ∧ ((some ⟨b, o, none⟩ : Option Addr) = none → cp = 0) ∨ ∃ b' o', (some ⟨b, o, none⟩ : Option Addr) = some ⟨b', o', none⟩ ∧ b' < U2.heap.size ∧ ∀ (i : Nat) (x : Lf), Q[i]? = some x → U2.rangeAt b' (o' + i * 64) (lfc x)) := by
        obtain ⟨ad', cp', he, -, hx⟩ := NQ.out
        simp only [Value.slice.injEq] at he
        obtain ⟨rfl, -, rfl⟩ := he
        exact hx
      have C0 : Hid (Below U2.heap.size U2 U2) := Below.refl _ _
      clear hLo hLL hRR hF
      go_upto_region 7 with (first
        | (refine wpList_store_mid rfl 23 (.tmp 8) (.tmp 43) rfl a2.heap.size 0 (bv R).toArray rfl rfl (there_new a2 (by rw [List.size_toArray, bv_length, HRL.out.len, HZS.out])) (by rw [List.size_toArray]; exact size_l32 HRL.out) (bv_one' _) ?_; simp only [List.toList_toArray])
        | (go_at_call 22; refine (HRO.out v1 a1 N1.out Ca1.out).mono ?_; rintro e a2 ⟨rfl, g1⟩; have Ca2 : Hid (Below U2.heap.size U2 a2) := Below.tr' Ca1.out g1; clear g1)
        | (go_at_call 23; refine (HCP.out U2 C0.out).mono ?_; rintro e a1 ⟨v1, rfl, g1, g2⟩; have N1 : Hid (LS a1 v1 Q) := g1; have Ca1 : Hid (Below U2.heap.size U2 a1) := g2; clear g1 g2))
      obtain ⟨a3, ha3⟩ : ∃ a9, (a2.alloc (.cells Z 23)).setCells a2.heap.size 0 (bv R) = a9 := ⟨_, rfl⟩
      rw [ha3]
      obtain ⟨r1, r2, r3⟩ := laid_row (by rw [bv_length, HRL.out.len, HZS.out]) (by rw [bv_length, HRL.out.len]; omega) ha3
      obtain ⟨BR8, hBR8⟩ : ∃ q, a2.heap.size = q := ⟨_, rfl⟩
      rw [hBR8] at r1 r3 ⊢
      have RR8 : Hid (a3.rangeAt BR8 0 (bv R)) := r1
      have Ca3 : Hid (Below U2.heap.size U2 a3) := Below.tr' Ca2.out r2
      have LR8 : Hid (BR8 < a3.heap.size) := r3
      clear r1 r2 r3 ha3 hBR8
      refine RG.wp_rgn' (GI a3 (tb7f (.slice (some ⟨b, o, none⟩) m cp) y2 er) (phO Q L er) []) (by kernel_rfl) (by kernel_rfl) GI.start ?_ ?_
      · refine ⟨?_, ?_, ?_, ?_, ?_, ?_, ?_, ?_, ?_, trivial⟩
        · intro a W d V hI hd hpx hbk hf hp
          have hO' : Below a3.heap.size a3 W := hI.be
          refine RU.ob_val (v := .slice (some ⟨b, o, none⟩) m cp) rfl (RU.wanted_none rfl) (fun ev he hc => ?_) ⟨_, rfl, hI.step (phO_mono Q L er) (Below.refl _ _) 0 _ (by simp) (fun u hu => by first | (cases hu; rfl) | cases hu) (trivial)⟩
          have q7 : ev (.tmp 7) = .slice (some ⟨b, o, none⟩) m cp := (he (.tmp 7)).trans (hf 7 rfl)
          simp only [List.getElem_toArray, List.getElem_cons_succ, List.getElem_cons_zero, execOp, Option.map_some, Option.map_none]; rw [q7]
          first | (go_simp; done) | (go_simp; rfl) | rfl
        · intro a W d V hI hd hpx hbk hf hp
          have hO' : Below a3.heap.size a3 W := hI.be
          have e46 : a.eval (.tmp 46) = .slice (some ⟨b, o, none⟩) m cp := (hp 0 46 rfl).trans (hI.kn 0 _ rfl (hpx 0 rfl))
          have hno : ∀ x ∈ ([] : List Al), d x.2.1 = false := by simp
          refine RU.ob_call (g := 23) (args := #[.slice (some ⟨b, o, none⟩) m cp]) rfl (RU.wanted_none rfl) (fun ev he hc => ?_) ((HCP.out W (Below.tr' Ca3.out hO')).mono ?_)
          · have h46 := (he (.tmp 46)).trans e46
            have hfn := he (.func 23)
            simp only [List.getElem_toArray, List.getElem_cons_succ, List.getElem_cons_zero, execOp, Option.map_some, Option.map_none]
            simp only [resolve, invoke, Sem.run_bind, Sem.run_pure, Result.andThen_ok, List.map_toArray, List.map_cons, List.map_nil, h46, hfn, Act.eval, hc]
            rfl
          · rintro e' W2 ⟨v', rfl, hn2, hb2⟩
            exact ⟨_, rfl, ⟨_, rfl, hI.step (phO_mono Q L er) hb2 1 _ (by simp) (fun u hu => by first | (cases hu; rfl) | cases hu) (hn2)⟩⟩
        · intro a W d V hI hd hpx hbk hf hp
          have hO' : Below a3.heap.size a3 W := hI.be
          have q5 : a.eval (.tmp 5) = .pointer (some ⟨D, 0, none⟩) := hf 5 rfl
          exact RU.ob_op rfl (RU.wanted_none rfl) (wp_load_mid 23 (.tmp 5) rfl (D) (0) q5 (bv y2) _ (range_below RY2.out (Below.tr' Ca3.out hO') hD2.out) Tryd.underlying23 rfl (size_l32 HY2.out) ⟨_, rfl, hI.step (phO_mono Q L er) (Below.refl _ _) 2 _ (by simp) (fun u hu => by first | (cases hu; rfl) | cases hu) (trivial)⟩)
        · intro a W d V hI hd hpx hbk hf hp
          have hO' : Below a3.heap.size a3 W := hI.be
          have e47 : a.eval (.tmp 47) = V 1 := hp 1 47 rfl
          have e48 : a.eval (.tmp 48) = .agg (bv y2).toArray := (hp 2 48 rfl).trans (hI.kn 2 _ rfl (hpx 2 rfl))
          have hno : ∀ x ∈ ([] : List Al), d x.2.1 = false := by simp
          refine RU.ob_call (g := 27) (args := #[V 1, .agg (bv y2).toArray]) rfl (RU.wanted_none rfl) (fun ev he hc => ?_) ((HOP.out (V 1) W (hI.pr 1 (hpx 1 rfl) hno) (Below.tr' Ca3.out hO')).mono ?_)
          · have h47 := (he (.tmp 47)).trans e47
            have h48 := (he (.tmp 48)).trans e48
            have hfn := he (.func 27)
            simp only [List.getElem_toArray, List.getElem_cons_succ, List.getElem_cons_zero, execOp, Option.map_some, Option.map_none]
            simp only [resolve, invoke, Sem.run_bind, Sem.run_pure, Result.andThen_ok, List.map_toArray, List.map_cons, List.map_nil, h47, h48, hfn, Act.eval, hc]
            rfl
          · rintro e' W2 ⟨v', rfl, hn2, hb2⟩
            exact ⟨_, rfl, ⟨_, rfl, hI.step (phO_mono Q L er) hb2 3 _ (by simp) (fun u hu => by first | (cases hu; rfl) | cases hu) (⟨v', rfl, hn2⟩)⟩⟩
        · intro a W d V hI hd hpx hbk hf hp
          have hO' : Below a3.heap.size a3 W := hI.be
          have hno : ∀ x ∈ ([] : List Al), d x.2.1 = false := by simp
          refine RU.ob_val (v := V 3) rfl (RU.wanted_none rfl) (fun ev he hc => ?_) ⟨_, rfl, hI.step (phO_mono Q L er) (Below.refl _ _) 4 _ (by simp) (fun u hu => by first | (cases hu; rfl) | cases hu) (hI.pr 3 (hpx 3 rfl) hno)⟩
          have q49 : ev (.tmp 49) = V 3 := (he (.tmp 49)).trans (hp 3 49 rfl)
          simp only [List.getElem_toArray, List.getElem_cons_succ, List.getElem_cons_zero, execOp, Option.map_some, Option.map_none]; rw [q49]
          first | (go_simp; done) | (go_simp; rfl) | rfl
        · intro a W d V hI hd hpx hbk hf hp
          have hO' : Below a3.heap.size a3 W := hI.be
          have e17 : a.eval (.tmp 45) = V 4 := hp 4 45 rfl
          obtain ⟨v', ev4, hn4⟩ : phO Q L er 4 (V 4) W := hI.pr 4 (hpx 4 rfl) (by simp)
          refine RU.ob_val (v := v') rfl (RU.wanted_none rfl) (fun ev he hc => ?_) ⟨_, rfl, hI.step (phO_mono Q L er) (Below.refl _ _) 5 _ (by simp) (fun u hu => by first | (cases hu; rfl) | cases hu) hn4⟩
          have q17 := (he (.tmp 45)).trans (e17.trans ev4)
          simp only [List.getElem_toArray, List.getElem_cons_succ, List.getElem_cons_zero, execOp, Option.map_some, Option.map_none]; rw [q17]
          first | (go_simp; done) | (go_simp; rfl) | rfl
        · intro a W d V hI hd hpx hbk hf hp
          have hO' : Below a3.heap.size a3 W := hI.be
          have e17 : a.eval (.tmp 45) = V 4 := hp 4 45 rfl
          obtain ⟨v', ev4, hn4⟩ : phO Q L er 4 (V 4) W := hI.pr 4 (hpx 4 rfl) (by simp)
          refine RU.ob_val (v := .int .i64 er) rfl (RU.wanted_none rfl) (fun ev he hc => ?_) ⟨_, rfl, hI.step (phO_mono Q L er) (Below.refl _ _) 6 _ (by simp) (fun u hu => by first | (cases hu; rfl) | cases hu) trivial⟩
          have q17 := (he (.tmp 45)).trans (e17.trans ev4)
          simp only [List.getElem_toArray, List.getElem_cons_succ, List.getElem_cons_zero, execOp, Option.map_some, Option.map_none]; rw [q17]
          first | (go_simp; done) | (go_simp; rfl) | rfl
        · intro a W d V hI hd hpx hbk hf hp
          have hO' : Below a3.heap.size a3 W := hI.be
          have hno : ∀ x ∈ ([] : List Al), d x.2.1 = false := by simp
          refine RU.ob_val (v := V 5) rfl (RU.wanted_none rfl) (fun ev he hc => ?_) ⟨_, rfl, hI.step (phO_mono Q L er) (Below.refl _ _) 7 _ (by simp) (fun u hu => by first | (cases hu; rfl) | cases hu) (hI.pr 5 (hpx 5 rfl) hno)⟩
          have q50 : ev (.tmp 50) = V 5 := (he (.tmp 50)).trans (hp 5 50 rfl)
          simp only [List.getElem_toArray, List.getElem_cons_succ, List.getElem_cons_zero, execOp, Option.map_some, Option.map_none]; rw [q50]
          first | (go_simp; done) | (go_simp; rfl) | rfl
        · intro a W d V hI hd hpx hbk hf hp
          have hO' : Below a3.heap.size a3 W := hI.be
          refine RU.ob_val (v := .int .i64 er) rfl (RU.wanted_none rfl) (fun ev he hc => ?_) ⟨_, rfl, hI.step (phO_mono Q L er) (Below.refl _ _) 8 _ (by simp) (fun u hu => by first | (cases hu; rfl) | cases hu) (trivial)⟩
          have q51 : ev (.tmp 51) = .int .i64 er := (he (.tmp 51)).trans ((hp 6 51 rfl).trans (hI.kn 6 _ rfl (hpx 6 rfl)))
          simp only [List.getElem_toArray, List.getElem_cons_succ, List.getElem_cons_zero, execOp, Option.map_some, Option.map_none]; rw [q51]
          first | (go_simp; done) | (go_simp; rfl) | rfl
      intro a4 da4 Va4 hal hI
      have Ba4 : Hid (Below a3.heap.size a3 a4) := hI.be
      have hs0 : Va4 0 = .slice (some ⟨b, o, none⟩) m cp := hI.kn 0 _ rfl (hal 0 (by decide))
      obtain ⟨u1, hs1⟩ : ∃ u, Va4 1 = u := ⟨_, rfl⟩
      have P1a4 : Hid ((phO Q L er) 1 u1 a4) := by rw [← hs1]; exact hI.pr 1 (hal 1 (by decide)) (by simp)
      have hs2 : Va4 2 = .agg (bv y2).toArray := hI.kn 2 _ rfl (hal 2 (by decide))
      obtain ⟨u3, hs3⟩ : ∃ u, Va4 3 = u := ⟨_, rfl⟩
      have P3a4 : Hid ((phO Q L er) 3 u3 a4) := by rw [← hs3]; exact hI.pr 3 (hal 3 (by decide)) (by simp)
      obtain ⟨u4, hs4⟩ : ∃ u, Va4 4 = u := ⟨_, rfl⟩
      have P4a4 : Hid ((phO Q L er) 4 u4 a4) := by rw [← hs4]; exact hI.pr 4 (hal 4 (by decide)) (by simp)
      obtain ⟨u5, hs5⟩ : ∃ u, Va4 5 = u := ⟨_, rfl⟩
      have P5a4 : Hid ((phO Q L er) 5 u5 a4) := by rw [← hs5]; exact hI.pr 5 (hal 5 (by decide)) (by simp)
      have hs6 : Va4 6 = .int .i64 er := hI.kn 6 _ rfl (hal 6 (by decide))
      obtain ⟨u7, hs7⟩ : ∃ u, Va4 7 = u := ⟨_, rfl⟩
      have P7a4 : Hid ((phO Q L er) 7 u7 a4) := by rw [← hs7]; exact hI.pr 7 (hal 7 (by decide)) (by simp)
      have hs8 : Va4 8 = .int .i64 er := hI.kn 8 _ rfl (hal 8 (by decide))
      simp only [RU.lay, Act.put, hs0, hs1, hs2, hs3, hs4, hs5, hs6, hs7, hs8]
      simp only [List.setIfInBounds_toArray, List.set_cons_succ, List.set_cons_zero]
      clear hI hal hs0 hs1 hs2 hs3 hs4 hs5 hs6 hs7 hs8
      have N7 : Hid (NS a4 u7 L) := P7a4.out
      have Ca4 : Hid (Below U2.heap.size U2 a4) := Below.tr' Ca3.out Ba4.out
      subst her
      go_upto_region 9 with (first
        | (refine ld 23 (.tmp 8) rfl rfl BR8 0 rfl (bv R) _ (range_below RR8.out Ba4.out LR8.out) Tryd.underlying23 rfl (size_l32 HRL.out) ?_)
        | (refine ld 23 (.tmp 5) rfl rfl D 0 rfl (bv y2) _ (range_below RY2.out Ca4.out hD2.out) Tryd.underlying23 rfl (size_l32 HY2.out) ?_)
        | (refine wpList_store_mid rfl 23 (.tmp 12) (.tmp 57) rfl a5.heap.size 0 (bv F).toArray rfl rfl (there_new a5 (by rw [List.size_toArray, bv_length, HFL.out.len, HZS.out])) (by rw [List.size_toArray]; exact size_l32 HFL.out) (bv_one' _) ?_; simp only [List.toList_toArray])
        | (go_at_call 29; refine (HFO.out u7 a4 N7.out Ca4.out).mono ?_; rintro e a5 ⟨rfl, g1⟩; have Ca5 : Hid (Below U2.heap.size U2 a5) := Below.tr' Ca4.out g1; clear g1))
      obtain ⟨a6, ha6⟩ : ∃ a9, (a5.alloc (.cells Z 23)).setCells a5.heap.size 0 (bv F) = a9 := ⟨_, rfl⟩
      rw [ha6]
      obtain ⟨r1, r2, r3⟩ := laid_row (by rw [bv_length, HFL.out.len, HZS.out]) (by rw [bv_length, HFL.out.len]; omega) ha6
      obtain ⟨Fb, hFb⟩ : ∃ q, a5.heap.size = q := ⟨_, rfl⟩
      rw [hFb] at r1 r3 ⊢
      have RFb : Hid (a6.rangeAt Fb 0 (bv F)) := r1
      have Ca6 : Hid (Below U2.heap.size U2 a6) := Below.tr' Ca5.out r2
      have LFb : Hid (Fb < a6.heap.size) := r3
      clear r1 r2 r3 ha6 hFb
      clear hz
      go_wp2_with fail
      go_loopw [72] (fun i wr => ∃ k : Nat, k ≤ m ∧ i = .int .i64 (k : Int) ∧ (∀ (j : Nat) (x : Lf), j < k → Q[j]? = some x → x.p ≠ y2) ∧ Below a6.heap.size a6 wr) (fun i _ => m - (intOf i).toNat)
      case atStart => exact ⟨0, Nat.zero_le _, rfl, fun j x hj => by omega, Below.refl _ _⟩
      case round =>
        obtain ⟨k, hkl, rfl, hall, h9⟩ := hrel
        have H9 : Hid (Below a6.heap.size a6 wr) := h9
        have HA9 : Hid (∀ (j : Nat) (x : Lf), j < k → Q[j]? = some x → x.p ≠ y2) := hall
        have C9 : Hid (Below U2.heap.size U2 wr) := Below.tr' Ca6.out H9.out
        clear h9 hall
        by_cases hlt : k < m
        · rcases HQX.out with ⟨h0, _⟩ | ⟨b', o', heq, hlb, hm⟩
          · have := HQM.out; rw [h0] at this; simp at this; omega
          simp only [Option.some.injEq, Addr.mk.injEq, and_true] at heq
          obtain ⟨rfl, rfl⟩ := heq
          obtain ⟨x, hx⟩ : ∃ x, Q[k]? = some x := ⟨Q[k]'(by have := HQM.out; omega), List.getElem?_eq_getElem _⟩
          have HX : Hid x.Ok := HQK.out x (List.mem_of_getElem? hx)
          have HXK : Hid (Q[k]? = some x) := hx
          obtain ⟨px, hpx⟩ : ∃ p, x.p = p := ⟨_, rfl⟩
          have HXP : Hid (x.p = px) := hpx
          have HPX : Hid (L32 px) := by rw [← hpx]; exact HX.out.p
          have RL0 : Hid (wr.rangeAt b (o + k * 64) (lfc x)) := range_below (hm k x hx) C9.out hlb
          have RXW : Hid (wr.rangeAt b (o + k * 64) (bv px)) := by rw [← hpx]; exact lf_p RL0.out
          have LXW : Hid (b < wr.heap.size) := Nat.lt_of_lt_of_le hlb C9.out.size
          have RYW : Hid (wr.rangeAt D 0 (bv y2)) := range_below RY2.out C9.out hD2.out
          have LYW : Hid (D < wr.heap.size) := Nat.lt_of_lt_of_le hD2.out C9.out.size
          obtain ⟨q, hq⟩ : ∃ q, decide (px = y2) = q := ⟨_, rfl⟩
          have HQQ : Hid (decide (px = y2) = q) := hq
          have HEQ : Hid (∀ W : World, (binOp .eql 23 (.agg (bv px).toArray) (.agg (bv y2).toArray)).run Tryd.prog W = .ok (.bool q) W) := fun W => by rw [← hq]; exact eql_32 HPX.out HY2.out W
          clear hm hlb hx hpx hq
          go_upto_region 14 with (fail)
          refine RU.wp_rgn' [] (tb14f b o m cp k px y2 q) (fun _ => 0) (gΩ wr) (by kernel_rfl) (by kernel_rfl) (show Below wr.heap.size wr _ from (Below.refl _ _).drew) ?_ ?_
          · refine ⟨?_, ?_, ?_, ?_, ?_, ?_, ?_, trivial⟩
            · refine RU.ObT.pure rfl rfl rfl (fun a V hf hp ev he hc W => ?_)
              have q7 : ev (.tmp 7) = .slice (some ⟨b, o, none⟩) m cp := (he (.tmp 7)).trans (hf 7 rfl)
              simp only [List.getElem_toArray, List.getElem_cons_succ, List.getElem_cons_zero, execOp, Option.map_some, Option.map_none]; rw [q7]
              first | (go_simp; done) | (go_simp; rfl) | rfl
            · refine RU.ObT.pure rfl rfl rfl (fun a V hf hp ev he hc W => ?_)
              have q15 : ev (.tmp 15) = .int .i64 (k : Int) := (he (.tmp 15)).trans (hf 15 rfl)
              simp only [List.getElem_toArray, List.getElem_cons_succ, List.getElem_cons_zero, execOp, Option.map_some, Option.map_none]; rw [q15]
              first | (go_simp; done) | (go_simp; rfl) | rfl
            · refine RU.ObT.pure rfl rfl rfl (fun a V hf hp ev he hc W => ?_)
              have q75 : ev (.tmp 75) = .slice (some ⟨b, o, none⟩) m cp := (he (.tmp 75)).trans (hp 0 75 rfl)
              have q76 : ev (.tmp 76) = .int .i64 (k : Int) := (he (.tmp 76)).trans (hp 1 76 rfl)
              simp only [List.getElem_toArray, List.getElem_cons_succ, List.getElem_cons_zero, execOp, Option.map_some, Option.map_none]; rw [q75, q76]
              have hk9 : (k : Int) < (m : Int) := by omega
              first | (go_simp; done) | (go_simp; rfl) | rfl
            · refine RU.ObT.pure rfl rfl rfl (fun a V hf hp ev he hc W => ?_)
              have q77 : ev (.tmp 77) = .pointer (some ⟨b, o + k * 64, none⟩) := (he (.tmp 77)).trans (hp 2 77 rfl)
              simp only [List.getElem_toArray, List.getElem_cons_succ, List.getElem_cons_zero, execOp, Option.map_some, Option.map_none]; rw [q77]
              first | (go_simp; done) | (go_simp; rfl) | rfl
            · refine RU.ObT.silent rfl (fun a W k0 V hO hf hp hk => ?_)
              have hO' : Below wr.heap.size wr W := hO
              have q78 : a.eval (.tmp 78) = .pointer (some ⟨b, o + k * 64, none⟩) := hp 3 78 rfl
              exact RU.ob_op rfl (RU.wanted_none rfl) (wp_load_mid 23 (.tmp 78) rfl (b) (o + k * 64) q78 (bv px) _ (range_below RXW.out hO' LXW.out) Tryd.underlying23 rfl (size_l32 HPX.out) ⟨rfl, hO⟩)
            · refine RU.ObT.silent rfl (fun a W k0 V hO hf hp hk => ?_)
              have hO' : Below wr.heap.size wr W := hO
              have q5 : a.eval (.tmp 5) = .pointer (some ⟨D, 0, none⟩) := hf 5 rfl
              exact RU.ob_op rfl (RU.wanted_none rfl) (wp_load_mid 23 (.tmp 5) rfl (D) (0) q5 (bv y2) _ (range_below RYW.out hO' LYW.out) Tryd.underlying23 rfl (size_l32 HY2.out) ⟨rfl, hO⟩)
            · refine RU.ObT.pure rfl rfl rfl (fun a V hf hp ev he hc W => ?_)
              have q79 : ev (.tmp 79) = .agg (bv px).toArray := (he (.tmp 79)).trans (hp 4 79 rfl)
              have q80 : ev (.tmp 80) = .agg (bv y2).toArray := (he (.tmp 80)).trans (hp 5 80 rfl)
              simp only [List.getElem_toArray, List.getElem_cons_succ, List.getElem_cons_zero, execOp, Option.map_some, Option.map_none]; rw [q79, q80]
              simp only [Sem.run_bind, eqg_32, HEQ.out W, Result.andThen_ok, Sem.run_pure]; rfl
          intro W1 VW1 hOW1
          have BW1 : Hid (Below wr.heap.size wr W1) := hOW1
          clear hOW1
          simp only [RU.lay, RU.val, RU.at', tb14f, Act.put]
          simp only [List.setIfInBounds_toArray, List.set_cons_succ, List.set_cons_zero]
          cases q with
          | false =>
            go_wp2_with fail
            exact ⟨⟨k + 1, by omega, by go_num, fun j z hj hz => by
              rcases Nat.lt_succ_iff_lt_or_eq.1 hj with q | rfl
              · exact HA9.out j z q hz
              · rw [HXK.out] at hz; cases hz
                rw [HXP.out]; simpa using HQQ.out, Below.tr' H9.out BW1.out⟩, by simp [intOf]; omega⟩
          | true =>
            have hxy : x.p = y2 := by rw [HXP.out]; simpa using HQQ.out
            obtain ⟨f1, f2, -⟩ := HFY.out x (List.mem_of_getElem? HXK.out) hxy
            obtain ⟨nx, hnx⟩ : ∃ n, ln x = n := ⟨_, rfl⟩
            rw [hnx] at f1
            have HNX : Hid nx.Ok := by rw [← hnx]; exact ln_ok HX.out
            have HLF : Hid (∀ W : World, Calls Tryd.prog 25 #[.agg (lfc x).toArray] W fun e w' => e = .returned (.agg (nc nx).toArray) ∧ Below W.heap.size W w') := fun W => by rw [← hnx]; exact rLeafNode_any x.p x.q HX.out.p HX.out.q W
            obtain ⟨H, hH⟩ : ∃ H, nx.h = H := ⟨_, rfl⟩
            have HHL : Hid (L32 H) := by rw [← hH]; exact HNX.out.h
            have HFH : Hid (∀ W : World, (Instr.field 27 (.agg (nc nx).toArray) 2).run Tryd.prog W = .ok (.agg (bv H).toArray) W) := fun W => by rw [← hH]; exact field_h HNX.out W
            have HEH : Hid (∀ W : World, (binOp .eql 23 (.agg (bv H).toArray) (.agg (bv H).toArray)).run Tryd.prog W = .ok (.bool true) W) := fun W => (eql_32 HHL.out HHL.out W).trans (by simp)
            rw [hH] at f1
            have RF1 : Hid (W1.rangeAt Fb 0 (bv H)) := by rw [← f1]; exact range_below (range_below RFb.out H9.out LFb.out) BW1.out (Nat.lt_of_lt_of_le LFb.out H9.out.size)
            have LF1 : Hid (Fb < W1.heap.size) := Nat.lt_of_lt_of_le LFb.out (Nat.le_trans H9.out.size BW1.out.size)
            have RL1 : Hid (W1.rangeAt b (o + k * 64) (lfc x)) := range_below RL0.out BW1.out LXW.out
            have LL1 : Hid (b < W1.heap.size) := Nat.lt_of_lt_of_le LXW.out BW1.out.size
            subst f2
            clear hnx hH hxy f1
            go_upto_region 15 with (fail)
            refine RU.wp_rgn' [] (tb15f b o m cp k x nx H) (fun _ => 0) (gΩ W1) (by kernel_rfl) (by kernel_rfl) (show Below W1.heap.size W1 _ from (Below.refl _ _).drew) ?_ ?_
            · refine ⟨?_, ?_, ?_, ?_, ?_, ?_, ?_, ?_, ?_, ?_, ?_, ?_, trivial⟩
              · refine RU.ObT.pure rfl rfl rfl (fun a V hf hp ev he hc W => ?_)
                have q13 : ev (.tmp 13) = .bool true := (he (.tmp 13)).trans (hf 13 rfl)
                simp only [List.getElem_toArray, List.getElem_cons_succ, List.getElem_cons_zero, execOp, Option.map_some, Option.map_none]; rw [q13]
                first | (go_simp; done) | (go_simp; rfl) | rfl
              · refine RU.ObT.pure rfl rfl rfl (fun a V hf hp ev he hc W => ?_)
                have q82 : ev (.tmp 82) = .bool true := (he (.tmp 82)).trans (hp 0 82 rfl)
                simp only [List.getElem_toArray, List.getElem_cons_succ, List.getElem_cons_zero, execOp, Option.map_some, Option.map_none]; rw [q82]
                first | (go_simp; done) | (go_simp; rfl) | rfl
              · refine RU.ObT.silent rfl (fun a W k0 V hO hf hp hk => ?_)
                have hg : a.eval (.tmp 83) = .bool true := hp 1 83 rfl
                have hO' : Below W1.heap.size W1 W := hO
                have q12 : a.eval (.tmp 12) = .pointer (some ⟨Fb, 0, none⟩) := hf 12 rfl
                exact RU.ob_op rfl (RU.wanted_some rfl rfl rfl hg) (wp_load_mid 23 (.tmp 12) rfl (Fb) (0) q12 (bv H) _ (range_below RF1.out hO' LF1.out) Tryd.underlying23 rfl (size_l32 HHL.out) ⟨rfl, hO⟩)
              · refine RU.ObT.silent rfl (fun a W k0 V hO hf hp hk => ?_)
                have hg : a.eval (.tmp 83) = .bool true := hp 1 83 rfl
                refine RU.ob_val rfl (RU.wanted_some rfl rfl rfl hg) (fun ev he hc => ?_) ⟨rfl, hO⟩
                have q7 : ev (.tmp 7) = .slice (some ⟨b, o, none⟩) m cp := (he (.tmp 7)).trans (hf 7 rfl)
                simp only [List.getElem_toArray, List.getElem_cons_succ, List.getElem_cons_zero, execOp, Option.map_some, Option.map_none]; rw [q7]
                first | (go_simp; done) | (go_simp; rfl) | rfl
              · refine RU.ObT.silent rfl (fun a W k0 V hO hf hp hk => ?_)
                have hg : a.eval (.tmp 83) = .bool true := hp 1 83 rfl
                refine RU.ob_val rfl (RU.wanted_some rfl rfl rfl hg) (fun ev he hc => ?_) ⟨rfl, hO⟩
                have q15 : ev (.tmp 15) = .int .i64 (k : Int) := (he (.tmp 15)).trans (hf 15 rfl)
                simp only [List.getElem_toArray, List.getElem_cons_succ, List.getElem_cons_zero, execOp, Option.map_some, Option.map_none]; rw [q15]
                first | (go_simp; done) | (go_simp; rfl) | rfl
              · refine RU.ObT.silent rfl (fun a W k0 V hO hf hp hk => ?_)
                have hg : a.eval (.tmp 83) = .bool true := hp 1 83 rfl
                refine RU.ob_val rfl (RU.wanted_some rfl rfl rfl hg) (fun ev he hc => ?_) ⟨rfl, hO⟩
                have q85 : ev (.tmp 85) = .slice (some ⟨b, o, none⟩) m cp := (he (.tmp 85)).trans (hp 3 85 rfl)
                have q86 : ev (.tmp 86) = .int .i64 (k : Int) := (he (.tmp 86)).trans (hp 4 86 rfl)
                simp only [List.getElem_toArray, List.getElem_cons_succ, List.getElem_cons_zero, execOp, Option.map_some, Option.map_none]; rw [q85, q86]
                have hk9 : (k : Int) < (m : Int) := by omega
                first | (go_simp; done) | (go_simp; rfl) | rfl
              · refine RU.ObT.silent rfl (fun a W k0 V hO hf hp hk => ?_)
                have hg : a.eval (.tmp 83) = .bool true := hp 1 83 rfl
                have hO' : Below W1.heap.size W1 W := hO
                have q87 : a.eval (.tmp 87) = .pointer (some ⟨b, o + k * 64, none⟩) := hp 5 87 rfl
                exact RU.ob_op rfl (RU.wanted_some rfl rfl rfl hg) (wp_load_mid 41 (.tmp 87) rfl (b) (o + k * 64) q87 (lfc x) _ (range_below RL1.out hO' LL1.out) Tryd.underlying41 rfl (size_lfc HX.out) ⟨rfl, hO⟩)
              · refine RU.ObT.silent rfl (fun a W k0 V hO hf hp hk => ?_)
                have hg : a.eval (.tmp 83) = .bool true := hp 1 83 rfl
                have hO' : Below W1.heap.size W1 W := hO
                have e88 : a.eval (.tmp 88) = .agg (lfc x).toArray := hp 6 88 rfl
                refine RU.ob_call (g := 25) (args := #[.agg (lfc x).toArray]) rfl (RU.wanted_some rfl rfl rfl hg) (fun ev he hc => ?_) ((HLF.out W).mono ?_)
                · have h88 := (he (.tmp 88)).trans e88
                  have hfn := he (.func 25)
                  simp only [List.getElem_toArray, List.getElem_cons_succ, List.getElem_cons_zero, execOp, Option.map_some, Option.map_none]
                  simp only [resolve, invoke, Sem.run_bind, Sem.run_pure, Result.andThen_ok, List.map_toArray, List.map_cons, List.map_nil, h88, hfn, Act.eval, hc]
                  rfl
                · rintro e' W9 ⟨rfl, hb2⟩
                  exact ⟨_, rfl, rfl, (hO'.trans (hb2.mono hO'.size) : Below W1.heap.size W1 W9)⟩
              · refine RU.ObT.silent rfl (fun a W k0 V hO hf hp hk => ?_)
                have hg : a.eval (.tmp 83) = .bool true := hp 1 83 rfl
                refine RU.ob_val rfl (RU.wanted_some rfl rfl rfl hg) (fun ev he hc => ?_) ⟨rfl, hO⟩
                have q89 : ev (.tmp 89) = .agg (nc nx).toArray := (he (.tmp 89)).trans (hp 7 89 rfl)
                simp only [List.getElem_toArray, List.getElem_cons_succ, List.getElem_cons_zero, execOp, Option.map_some, Option.map_none]; rw [q89]
                simp only [Sem.run_bind, HFH.out W, Result.andThen_ok, Sem.run_pure]; rfl
              · refine RU.ObT.silent rfl (fun a W k0 V hO hf hp hk => ?_)
                have hg : a.eval (.tmp 83) = .bool true := hp 1 83 rfl
                refine RU.ob_val rfl (RU.wanted_some rfl rfl rfl hg) (fun ev he hc => ?_) ⟨rfl, hO⟩
                have q84 : ev (.tmp 84) = .agg (bv H).toArray := (he (.tmp 84)).trans (hp 2 84 rfl)
                have q90 : ev (.tmp 90) = .agg (bv H).toArray := (he (.tmp 90)).trans (hp 8 90 rfl)
                simp only [List.getElem_toArray, List.getElem_cons_succ, List.getElem_cons_zero, execOp, Option.map_some, Option.map_none]; rw [q84, q90]
                simp only [Sem.run_bind, eqg_32, HEH.out W, Result.andThen_ok, Sem.run_pure]; rfl
              · refine RU.ObT.pure rfl rfl rfl (fun a V hf hp ev he hc W => ?_)
                have q83 : ev (.tmp 83) = .bool true := (he (.tmp 83)).trans (hp 1 83 rfl)
                have q91 : ev (.tmp 91) = .bool true := (he (.tmp 91)).trans (hp 9 91 rfl)
                simp only [List.getElem_toArray, List.getElem_cons_succ, List.getElem_cons_zero, execOp, Option.map_some, Option.map_none]; rw [q83, q91]
                try simp only [hc]
                first | (go_simp; done) | (go_simp; rfl) | rfl
              · refine RU.ObT.pure rfl rfl rfl (fun a V hf hp ev he hc W => ?_)
                have q92 : ev (.tmp 92) = .bool true := (he (.tmp 92)).trans (hp 10 92 rfl)
                simp only [List.getElem_toArray, List.getElem_cons_succ, List.getElem_cons_zero, execOp, Option.map_some, Option.map_none]; rw [q92]
                first | (go_simp; done) | (go_simp; rfl) | rfl
            intro W2 VW2 hOW2
            have BW2 : Hid (Below W1.heap.size W1 W2) := hOW2
            clear hOW2
            simp only [RU.lay, RU.val, RU.at', tb15f, Act.put]
            simp only [List.setIfInBounds_toArray, List.set_cons_succ, List.set_cons_zero]
            go_wp2_with fail
            go_ret
            exact ⟨rfl, BW.out.trans ((Below.tr' C9.out (Below.tr' BW1.out BW2.out)).mono BW.out.size)⟩
        · have hno : ∀ x ∈ Q, x.p ≠ y2 := fun x hx => by
            obtain ⟨i, hi, rfl⟩ := List.getElem_of_mem hx
            exact HA9.out i _ (by have := HQM.out; omega) (List.getElem?_eq_getElem hi)
          obtain ⟨f1, f2, -⟩ := HFN.out hno
          have RFW : Hid (wr.rangeAt Fb 0 (bv z32)) := by rw [← f1]; exact range_below RFb.out H9.out LFb.out
          subst f2
          clear hno f1
          go_wp2_with (first
            | (refine ld 23 (.tmp 12) rfl rfl Fb 0 rfl (bv z32) _ (RFW.out) Tryd.underlying23 rfl (size_l32 z32_l32) ?_)
            | (refine wp_build0g 23 rfl rfl _ (build_32 wr) ?_)
            | (refine wp_bin_run .eql 23 23 (.tmp 97) (.tmp 98) rfl rfl (.agg (bv z32).toArray) (.agg (bv z32).toArray) (.bool true) rfl rfl (eqg_32 _ _ _ _ _ wr) ((eql_32 z32_l32 z32_l32 wr).trans (by simp)) ?_))
          go_ret
          exact ⟨rfl, BW.out.trans (C9.out.mono BW.out.size)⟩
    · skip
      have RY2 : Hid (w1.rangeAt D 0 (bv y)) := range_below RY.out C1.out hDU.out
      have HY2 : Hid (L32 y) := HY.out
      have NQ : Hid (LS w1 (.slice ad m cp) Q) := NQ1.out
      have BW : Hid (Below w.heap.size w w1) := BW1'.out
      have TU2 : Hid (Tb w1) := TW.out.below BW.out
      have hD2 : Hid (D < w1.heap.size) := Nat.lt_of_lt_of_le hDU.out C1.out.size
      go_upto_region 6 with (fail)
      obtain ⟨L, hLL⟩ : ∃ L, opl y (so Q) = L := ⟨_, rfl⟩
      obtain ⟨R, hRR⟩ : ∃ R, rt (so Q) = R := ⟨_, rfl⟩
      have HRL : Hid (L32 R) := by rw [← hRR]; exact rt_l32 _
      obtain ⟨F, g, e1, hF⟩ : ∃ F g e1, fnd R L y = (F, g, e1) := ⟨_, _, _, rfl⟩
      have HFY : Hid (∀ x ∈ Q, x.p = y → F = (ln x).h ∧ g = true ∧ e1 = 0) := fun x hx e => by
        have := back_yes HQK.out HQO.out HY2.out hx e; rw [hLL, hRR, hF] at this; cases this; exact ⟨rfl, rfl, rfl⟩
      have HFN : Hid ((∀ x ∈ Q, x.p ≠ y) → F = z32 ∧ g = false ∧ e1 = 0) := fun e => by
        have := back_no HQK.out HQO.out HY2.out e; rw [hLL, hRR, hF] at this; cases this; exact ⟨rfl, rfl, rfl⟩
      have he1 : e1 = 0 := by
        by_cases q : ∃ x ∈ Q, x.p = y
        · obtain ⟨x, hx, e⟩ := q; exact (HFY.out x hx e).2.2
        · exact (HFN.out (fun x hx e => q ⟨x, hx, e⟩)).2.2
      subst he1
      have hLo : (∀ x ∈ L, x.Ok) ∧ L.length ≤ Q.length := by
        have := wo_fit (hd := fun n => hl n y) (own := true) (so Q).length (so Q) (so_rsn HQK.out HQO.out)
        rw [wo_opl y _ _ (so_rsn HQK.out HQO.out).ris (Nat.le_refl _), hLL, so_len HQO.out] at this
        exact this
      have HFL : Hid (L32 F) := by have := fnd_ok32 R L hLo.1 y; rw [hF] at this; exact this
      obtain ⟨er, her⟩ : ∃ er : Int, er = 0 := ⟨_, rfl⟩
      have HCP : Hid (∀ W : World, Below w1.heap.size w1 W → Calls Tryd.prog 23 #[.slice ad m cp] W fun e w' => ∃ v', e = .returned v' ∧ LS w' v' Q ∧ Below W.heap.size W w') := fun W q => copyLeaves_any Q HQK.out (by have := HQL.out; omega) _ W (NQ.out.below q)
      have HRO : Hid (∀ (v' : Value) (W : World), LS W v' Q → Below w1.heap.size w1 W → Calls Tryd.prog 22 #[v'] W fun e w' => e = .returned (.tuple #[.agg (bv R).toArray, .int .i64 0]) ∧ Below W.heap.size W w') := fun v' W n1 n2 => RootOf_any Q HQK.out HQL.out R 0 (.inl ⟨HQO.out, hRR.symm, rfl⟩) v' W n1 (TU2.out.below n2)
      have HOP : Hid (∀ (v' : Value) (W : World), LS W v' Q → Below w1.heap.size w1 W → Calls Tryd.prog 27 #[v', .agg (bv y).toArray] W fun e w' => ∃ v', e = .returned (.tuple #[v', .int .i64 er]) ∧ NS w' v' L ∧ Below W.heap.size W w') := fun v' W n1 n2 => by
        refine (Open_any Q HQK.out HQL.out y HY2.out v' W n1 (TU2.out.below n2)).mono fun e w' ⟨v', er', he, hL, hb⟩ => ?_
        rcases hL with ⟨_, h1, h2⟩ | ⟨h1, _⟩
        · rw [her]; subst h1; rw [hLL] at h2; exact ⟨v', he, h2.ns, hb⟩
        · exact absurd HQO.out h1
      have HFO : Hid (∀ (v' : Value) (W : World), NS W v' L → Below w1.heap.size w1 W → Calls Tryd.prog 29 #[.agg (bv R).toArray, v', .agg (bv y).toArray] W fun e w' => e = .returned (.tuple #[.agg (bv F).toArray, .bool g, .int .i64 0]) ∧ Below W.heap.size W w') := fun v' W n1 n2 => by
        have := Found_any R HRL.out L hLo.1 (by have h1 := hLo.2; have h2 := HQL.out; omega) y HY2.out v' W n1 (TU2.out.below n2); rw [hF] at this; exact this
      have HQX : Hid (Q = [] ∧ (ad = none → cp = 0) ∨ ∃ b o, ad = some ⟨b, o, none⟩ ∧ b < w1.heap.size ∧ ∀ (i : Nat) (x : Lf), Q[i]? = some x → w1.rangeAt b (o + i * 64) (lfc x)) := by
        obtain ⟨ad', cp', he, -, hx⟩ := NQ.out
        simp only [Value.slice.injEq] at he
        obtain ⟨rfl, -, rfl⟩ := he
        exact hx
      have C0 : Hid (Below w1.heap.size w1 w1) := Below.refl _ _
      clear hLo hLL hRR hF
      go_upto_region 7 with (first
        | (refine wpList_store_mid rfl 23 (.tmp 8) (.tmp 43) rfl a2.heap.size 0 (bv R).toArray rfl rfl (there_new a2 (by rw [List.size_toArray, bv_length, HRL.out.len, HZS.out])) (by rw [List.size_toArray]; exact size_l32 HRL.out) (bv_one' _) ?_; simp only [List.toList_toArray])
        | (go_at_call 22; refine (HRO.out v1 a1 N1.out Ca1.out).mono ?_; rintro e a2 ⟨rfl, g1⟩; have Ca2 : Hid (Below w1.heap.size w1 a2) := Below.tr' Ca1.out g1; clear g1)
        | (go_at_call 23; refine (HCP.out w1 C0.out).mono ?_; rintro e a1 ⟨v1, rfl, g1, g2⟩; have N1 : Hid (LS a1 v1 Q) := g1; have Ca1 : Hid (Below w1.heap.size w1 a1) := g2; clear g1 g2))
      obtain ⟨a3, ha3⟩ : ∃ a9, (a2.alloc (.cells Z 23)).setCells a2.heap.size 0 (bv R) = a9 := ⟨_, rfl⟩
      rw [ha3]
      obtain ⟨r1, r2, r3⟩ := laid_row (by rw [bv_length, HRL.out.len, HZS.out]) (by rw [bv_length, HRL.out.len]; omega) ha3
      obtain ⟨BR8, hBR8⟩ : ∃ q, a2.heap.size = q := ⟨_, rfl⟩
      rw [hBR8] at r1 r3 ⊢
      have RR8 : Hid (a3.rangeAt BR8 0 (bv R)) := r1
      have Ca3 : Hid (Below w1.heap.size w1 a3) := Below.tr' Ca2.out r2
      have LR8 : Hid (BR8 < a3.heap.size) := r3
      clear r1 r2 r3 ha3 hBR8
      refine RG.wp_rgn' (GI a3 (tb7f (.slice ad m cp) y er) (phO Q L er) []) (by kernel_rfl) (by kernel_rfl) GI.start ?_ ?_
      · refine ⟨?_, ?_, ?_, ?_, ?_, ?_, ?_, ?_, ?_, trivial⟩
        · intro a W d V hI hd hpx hbk hf hp
          have hO' : Below a3.heap.size a3 W := hI.be
          refine RU.ob_val (v := .slice ad m cp) rfl (RU.wanted_none rfl) (fun ev he hc => ?_) ⟨_, rfl, hI.step (phO_mono Q L er) (Below.refl _ _) 0 _ (by simp) (fun u hu => by first | (cases hu; rfl) | cases hu) (trivial)⟩
          have q7 : ev (.tmp 7) = .slice ad m cp := (he (.tmp 7)).trans (hf 7 rfl)
          simp only [List.getElem_toArray, List.getElem_cons_succ, List.getElem_cons_zero, execOp, Option.map_some, Option.map_none]; rw [q7]
          first | (go_simp; done) | (go_simp; rfl) | rfl
        · intro a W d V hI hd hpx hbk hf hp
          have hO' : Below a3.heap.size a3 W := hI.be
          have e46 : a.eval (.tmp 46) = .slice ad m cp := (hp 0 46 rfl).trans (hI.kn 0 _ rfl (hpx 0 rfl))
          have hno : ∀ x ∈ ([] : List Al), d x.2.1 = false := by simp
          refine RU.ob_call (g := 23) (args := #[.slice ad m cp]) rfl (RU.wanted_none rfl) (fun ev he hc => ?_) ((HCP.out W (Below.tr' Ca3.out hO')).mono ?_)
          · have h46 := (he (.tmp 46)).trans e46
            have hfn := he (.func 23)
            simp only [List.getElem_toArray, List.getElem_cons_succ, List.getElem_cons_zero, execOp, Option.map_some, Option.map_none]
            simp only [resolve, invoke, Sem.run_bind, Sem.run_pure, Result.andThen_ok, List.map_toArray, List.map_cons, List.map_nil, h46, hfn, Act.eval, hc]
            rfl
          · rintro e' W2 ⟨v', rfl, hn2, hb2⟩
            exact ⟨_, rfl, ⟨_, rfl, hI.step (phO_mono Q L er) hb2 1 _ (by simp) (fun u hu => by first | (cases hu; rfl) | cases hu) (hn2)⟩⟩
        · intro a W d V hI hd hpx hbk hf hp
          have hO' : Below a3.heap.size a3 W := hI.be
          have q5 : a.eval (.tmp 5) = .pointer (some ⟨D, 0, none⟩) := hf 5 rfl
          exact RU.ob_op rfl (RU.wanted_none rfl) (wp_load_mid 23 (.tmp 5) rfl (D) (0) q5 (bv y) _ (range_below RY2.out (Below.tr' Ca3.out hO') hD2.out) Tryd.underlying23 rfl (size_l32 HY2.out) ⟨_, rfl, hI.step (phO_mono Q L er) (Below.refl _ _) 2 _ (by simp) (fun u hu => by first | (cases hu; rfl) | cases hu) (trivial)⟩)
        · intro a W d V hI hd hpx hbk hf hp
          have hO' : Below a3.heap.size a3 W := hI.be
          have e47 : a.eval (.tmp 47) = V 1 := hp 1 47 rfl
          have e48 : a.eval (.tmp 48) = .agg (bv y).toArray := (hp 2 48 rfl).trans (hI.kn 2 _ rfl (hpx 2 rfl))
          have hno : ∀ x ∈ ([] : List Al), d x.2.1 = false := by simp
          refine RU.ob_call (g := 27) (args := #[V 1, .agg (bv y).toArray]) rfl (RU.wanted_none rfl) (fun ev he hc => ?_) ((HOP.out (V 1) W (hI.pr 1 (hpx 1 rfl) hno) (Below.tr' Ca3.out hO')).mono ?_)
          · have h47 := (he (.tmp 47)).trans e47
            have h48 := (he (.tmp 48)).trans e48
            have hfn := he (.func 27)
            simp only [List.getElem_toArray, List.getElem_cons_succ, List.getElem_cons_zero, execOp, Option.map_some, Option.map_none]
            simp only [resolve, invoke, Sem.run_bind, Sem.run_pure, Result.andThen_ok, List.map_toArray, List.map_cons, List.map_nil, h47, h48, hfn, Act.eval, hc]
            rfl
          · rintro e' W2 ⟨v', rfl, hn2, hb2⟩
            exact ⟨_, rfl, ⟨_, rfl, hI.step (phO_mono Q L er) hb2 3 _ (by simp) (fun u hu => by first | (cases hu; rfl) | cases hu) (⟨v', rfl, hn2⟩)⟩⟩
        · intro a W d V hI hd hpx hbk hf hp
          have hO' : Below a3.heap.size a3 W := hI.be
          have hno : ∀ x ∈ ([] : List Al), d x.2.1 = false := by simp
          refine RU.ob_val (v := V 3) rfl (RU.wanted_none rfl) (fun ev he hc => ?_) ⟨_, rfl, hI.step (phO_mono Q L er) (Below.refl _ _) 4 _ (by simp) (fun u hu => by first | (cases hu; rfl) | cases hu) (hI.pr 3 (hpx 3 rfl) hno)⟩
          have q49 : ev (.tmp 49) = V 3 := (he (.tmp 49)).trans (hp 3 49 rfl)
          simp only [List.getElem_toArray, List.getElem_cons_succ, List.getElem_cons_zero, execOp, Option.map_some, Option.map_none]; rw [q49]
          first | (go_simp; done) | (go_simp; rfl) | rfl
        · intro a W d V hI hd hpx hbk hf hp
          have hO' : Below a3.heap.size a3 W := hI.be
          have e17 : a.eval (.tmp 45) = V 4 := hp 4 45 rfl
          obtain ⟨v', ev4, hn4⟩ : phO Q L er 4 (V 4) W := hI.pr 4 (hpx 4 rfl) (by simp)
          refine RU.ob_val (v := v') rfl (RU.wanted_none rfl) (fun ev he hc => ?_) ⟨_, rfl, hI.step (phO_mono Q L er) (Below.refl _ _) 5 _ (by simp) (fun u hu => by first | (cases hu; rfl) | cases hu) hn4⟩
          have q17 := (he (.tmp 45)).trans (e17.trans ev4)
          simp only [List.getElem_toArray, List.getElem_cons_succ, List.getElem_cons_zero, execOp, Option.map_some, Option.map_none]; rw [q17]
          first | (go_simp; done) | (go_simp; rfl) | rfl
        · intro a W d V hI hd hpx hbk hf hp
          have hO' : Below a3.heap.size a3 W := hI.be
          have e17 : a.eval (.tmp 45) = V 4 := hp 4 45 rfl
          obtain ⟨v', ev4, hn4⟩ : phO Q L er 4 (V 4) W := hI.pr 4 (hpx 4 rfl) (by simp)
          refine RU.ob_val (v := .int .i64 er) rfl (RU.wanted_none rfl) (fun ev he hc => ?_) ⟨_, rfl, hI.step (phO_mono Q L er) (Below.refl _ _) 6 _ (by simp) (fun u hu => by first | (cases hu; rfl) | cases hu) trivial⟩
          have q17 := (he (.tmp 45)).trans (e17.trans ev4)
          simp only [List.getElem_toArray, List.getElem_cons_succ, List.getElem_cons_zero, execOp, Option.map_some, Option.map_none]; rw [q17]
          first | (go_simp; done) | (go_simp; rfl) | rfl
        · intro a W d V hI hd hpx hbk hf hp
          have hO' : Below a3.heap.size a3 W := hI.be
          have hno : ∀ x ∈ ([] : List Al), d x.2.1 = false := by simp
          refine RU.ob_val (v := V 5) rfl (RU.wanted_none rfl) (fun ev he hc => ?_) ⟨_, rfl, hI.step (phO_mono Q L er) (Below.refl _ _) 7 _ (by simp) (fun u hu => by first | (cases hu; rfl) | cases hu) (hI.pr 5 (hpx 5 rfl) hno)⟩
          have q50 : ev (.tmp 50) = V 5 := (he (.tmp 50)).trans (hp 5 50 rfl)
          simp only [List.getElem_toArray, List.getElem_cons_succ, List.getElem_cons_zero, execOp, Option.map_some, Option.map_none]; rw [q50]
          first | (go_simp; done) | (go_simp; rfl) | rfl
        · intro a W d V hI hd hpx hbk hf hp
          have hO' : Below a3.heap.size a3 W := hI.be
          refine RU.ob_val (v := .int .i64 er) rfl (RU.wanted_none rfl) (fun ev he hc => ?_) ⟨_, rfl, hI.step (phO_mono Q L er) (Below.refl _ _) 8 _ (by simp) (fun u hu => by first | (cases hu; rfl) | cases hu) (trivial)⟩
          have q51 : ev (.tmp 51) = .int .i64 er := (he (.tmp 51)).trans ((hp 6 51 rfl).trans (hI.kn 6 _ rfl (hpx 6 rfl)))
          simp only [List.getElem_toArray, List.getElem_cons_succ, List.getElem_cons_zero, execOp, Option.map_some, Option.map_none]; rw [q51]
          first | (go_simp; done) | (go_simp; rfl) | rfl
      intro a4 da4 Va4 hal hI
      have Ba4 : Hid (Below a3.heap.size a3 a4) := hI.be
      have hs0 : Va4 0 = .slice ad m cp := hI.kn 0 _ rfl (hal 0 (by decide))
      obtain ⟨u1, hs1⟩ : ∃ u, Va4 1 = u := ⟨_, rfl⟩
      have P1a4 : Hid ((phO Q L er) 1 u1 a4) := by rw [← hs1]; exact hI.pr 1 (hal 1 (by decide)) (by simp)
      have hs2 : Va4 2 = .agg (bv y).toArray := hI.kn 2 _ rfl (hal 2 (by decide))
      obtain ⟨u3, hs3⟩ : ∃ u, Va4 3 = u := ⟨_, rfl⟩
      have P3a4 : Hid ((phO Q L er) 3 u3 a4) := by rw [← hs3]; exact hI.pr 3 (hal 3 (by decide)) (by simp)
      obtain ⟨u4, hs4⟩ : ∃ u, Va4 4 = u := ⟨_, rfl⟩
      have P4a4 : Hid ((phO Q L er) 4 u4 a4) := by rw [← hs4]; exact hI.pr 4 (hal 4 (by decide)) (by simp)
      obtain ⟨u5, hs5⟩ : ∃ u, Va4 5 = u := ⟨_, rfl⟩
      have P5a4 : Hid ((phO Q L er) 5 u5 a4) := by rw [← hs5]; exact hI.pr 5 (hal 5 (by decide)) (by simp)
      have hs6 : Va4 6 = .int .i64 er := hI.kn 6 _ rfl (hal 6 (by decide))
      obtain ⟨u7, hs7⟩ : ∃ u, Va4 7 = u := ⟨_, rfl⟩
      have P7a4 : Hid ((phO Q L er) 7 u7 a4) := by rw [← hs7]; exact hI.pr 7 (hal 7 (by decide)) (by simp)
      have hs8 : Va4 8 = .int .i64 er := hI.kn 8 _ rfl (hal 8 (by decide))
      simp only [RU.lay, Act.put, hs0, hs1, hs2, hs3, hs4, hs5, hs6, hs7, hs8]
      simp only [List.setIfInBounds_toArray, List.set_cons_succ, List.set_cons_zero]
      clear hI hal hs0 hs1 hs2 hs3 hs4 hs5 hs6 hs7 hs8
      have N7 : Hid (NS a4 u7 L) := P7a4.out
      have Ca4 : Hid (Below w1.heap.size w1 a4) := Below.tr' Ca3.out Ba4.out
      subst her
      go_upto_region 9 with (first
        | (refine ld 23 (.tmp 8) rfl rfl BR8 0 rfl (bv R) _ (range_below RR8.out Ba4.out LR8.out) Tryd.underlying23 rfl (size_l32 HRL.out) ?_)
        | (refine ld 23 (.tmp 5) rfl rfl D 0 rfl (bv y) _ (range_below RY2.out Ca4.out hD2.out) Tryd.underlying23 rfl (size_l32 HY2.out) ?_)
        | (refine wpList_store_mid rfl 23 (.tmp 12) (.tmp 57) rfl a5.heap.size 0 (bv F).toArray rfl rfl (there_new a5 (by rw [List.size_toArray, bv_length, HFL.out.len, HZS.out])) (by rw [List.size_toArray]; exact size_l32 HFL.out) (bv_one' _) ?_; simp only [List.toList_toArray])
        | (go_at_call 29; refine (HFO.out u7 a4 N7.out Ca4.out).mono ?_; rintro e a5 ⟨rfl, g1⟩; have Ca5 : Hid (Below w1.heap.size w1 a5) := Below.tr' Ca4.out g1; clear g1))
      obtain ⟨a6, ha6⟩ : ∃ a9, (a5.alloc (.cells Z 23)).setCells a5.heap.size 0 (bv F) = a9 := ⟨_, rfl⟩
      rw [ha6]
      obtain ⟨r1, r2, r3⟩ := laid_row (by rw [bv_length, HFL.out.len, HZS.out]) (by rw [bv_length, HFL.out.len]; omega) ha6
      obtain ⟨Fb, hFb⟩ : ∃ q, a5.heap.size = q := ⟨_, rfl⟩
      rw [hFb] at r1 r3 ⊢
      have RFb : Hid (a6.rangeAt Fb 0 (bv F)) := r1
      have Ca6 : Hid (Below w1.heap.size w1 a6) := Below.tr' Ca5.out r2
      have LFb : Hid (Fb < a6.heap.size) := r3
      clear r1 r2 r3 ha6 hFb
      clear hz
      go_wp2_with fail
      go_loopw [72] (fun i wr => ∃ k : Nat, k ≤ m ∧ i = .int .i64 (k : Int) ∧ (∀ (j : Nat) (x : Lf), j < k → Q[j]? = some x → x.p ≠ y) ∧ Below a6.heap.size a6 wr) (fun i _ => m - (intOf i).toNat)
      case atStart => exact ⟨0, Nat.zero_le _, rfl, fun j x hj => by omega, Below.refl _ _⟩
      case round =>
        obtain ⟨k, hkl, rfl, hall, h9⟩ := hrel
        have H9 : Hid (Below a6.heap.size a6 wr) := h9
        have HA9 : Hid (∀ (j : Nat) (x : Lf), j < k → Q[j]? = some x → x.p ≠ y) := hall
        have C9 : Hid (Below w1.heap.size w1 wr) := Below.tr' Ca6.out H9.out
        clear h9 hall
        by_cases hlt : k < m
        · rcases HQX.out with ⟨h0, _⟩ | ⟨b, o, rfl, hlb, hm⟩
          · have := HQM.out; rw [h0] at this; simp at this; omega
          obtain ⟨x, hx⟩ : ∃ x, Q[k]? = some x := ⟨Q[k]'(by have := HQM.out; omega), List.getElem?_eq_getElem _⟩
          have HX : Hid x.Ok := HQK.out x (List.mem_of_getElem? hx)
          have HXK : Hid (Q[k]? = some x) := hx
          obtain ⟨px, hpx⟩ : ∃ p, x.p = p := ⟨_, rfl⟩
          have HXP : Hid (x.p = px) := hpx
          have HPX : Hid (L32 px) := by rw [← hpx]; exact HX.out.p
          have RL0 : Hid (wr.rangeAt b (o + k * 64) (lfc x)) := range_below (hm k x hx) C9.out hlb
          have RXW : Hid (wr.rangeAt b (o + k * 64) (bv px)) := by rw [← hpx]; exact lf_p RL0.out
          have LXW : Hid (b < wr.heap.size) := Nat.lt_of_lt_of_le hlb C9.out.size
          have RYW : Hid (wr.rangeAt D 0 (bv y)) := range_below RY2.out C9.out hD2.out
          have LYW : Hid (D < wr.heap.size) := Nat.lt_of_lt_of_le hD2.out C9.out.size
          obtain ⟨q, hq⟩ : ∃ q, decide (px = y) = q := ⟨_, rfl⟩
          have HQQ : Hid (decide (px = y) = q) := hq
          have HEQ : Hid (∀ W : World, (binOp .eql 23 (.agg (bv px).toArray) (.agg (bv y).toArray)).run Tryd.prog W = .ok (.bool q) W) := fun W => by rw [← hq]; exact eql_32 HPX.out HY2.out W
          clear hm hlb hx hpx hq
          go_upto_region 14 with (fail)
          refine RU.wp_rgn' [] (tb14f b o m cp k px y q) (fun _ => 0) (gΩ wr) (by kernel_rfl) (by kernel_rfl) (show Below wr.heap.size wr _ from (Below.refl _ _).drew) ?_ ?_
          · refine ⟨?_, ?_, ?_, ?_, ?_, ?_, ?_, trivial⟩
            · refine RU.ObT.pure rfl rfl rfl (fun a V hf hp ev he hc W => ?_)
              have q7 : ev (.tmp 7) = .slice (some ⟨b, o, none⟩) m cp := (he (.tmp 7)).trans (hf 7 rfl)
              simp only [List.getElem_toArray, List.getElem_cons_succ, List.getElem_cons_zero, execOp, Option.map_some, Option.map_none]; rw [q7]
              first | (go_simp; done) | (go_simp; rfl) | rfl
            · refine RU.ObT.pure rfl rfl rfl (fun a V hf hp ev he hc W => ?_)
              have q15 : ev (.tmp 15) = .int .i64 (k : Int) := (he (.tmp 15)).trans (hf 15 rfl)
              simp only [List.getElem_toArray, List.getElem_cons_succ, List.getElem_cons_zero, execOp, Option.map_some, Option.map_none]; rw [q15]
              first | (go_simp; done) | (go_simp; rfl) | rfl
            · refine RU.ObT.pure rfl rfl rfl (fun a V hf hp ev he hc W => ?_)
              have q75 : ev (.tmp 75) = .slice (some ⟨b, o, none⟩) m cp := (he (.tmp 75)).trans (hp 0 75 rfl)
              have q76 : ev (.tmp 76) = .int .i64 (k : Int) := (he (.tmp 76)).trans (hp 1 76 rfl)
              simp only [List.getElem_toArray, List.getElem_cons_succ, List.getElem_cons_zero, execOp, Option.map_some, Option.map_none]; rw [q75, q76]
              have hk9 : (k : Int) < (m : Int) := by omega
              first | (go_simp; done) | (go_simp; rfl) | rfl
            · refine RU.ObT.pure rfl rfl rfl (fun a V hf hp ev he hc W => ?_)
              have q77 : ev (.tmp 77) = .pointer (some ⟨b, o + k * 64, none⟩) := (he (.tmp 77)).trans (hp 2 77 rfl)
              simp only [List.getElem_toArray, List.getElem_cons_succ, List.getElem_cons_zero, execOp, Option.map_some, Option.map_none]; rw [q77]
              first | (go_simp; done) | (go_simp; rfl) | rfl
            · refine RU.ObT.silent rfl (fun a W k0 V hO hf hp hk => ?_)
              have hO' : Below wr.heap.size wr W := hO
              have q78 : a.eval (.tmp 78) = .pointer (some ⟨b, o + k * 64, none⟩) := hp 3 78 rfl
              exact RU.ob_op rfl (RU.wanted_none rfl) (wp_load_mid 23 (.tmp 78) rfl (b) (o + k * 64) q78 (bv px) _ (range_below RXW.out hO' LXW.out) Tryd.underlying23 rfl (size_l32 HPX.out) ⟨rfl, hO⟩)
            · refine RU.ObT.silent rfl (fun a W k0 V hO hf hp hk => ?_)
              have hO' : Below wr.heap.size wr W := hO
              have q5 : a.eval (.tmp 5) = .pointer (some ⟨D, 0, none⟩) := hf 5 rfl
              exact RU.ob_op rfl (RU.wanted_none rfl) (wp_load_mid 23 (.tmp 5) rfl (D) (0) q5 (bv y) _ (range_below RYW.out hO' LYW.out) Tryd.underlying23 rfl (size_l32 HY2.out) ⟨rfl, hO⟩)
            · refine RU.ObT.pure rfl rfl rfl (fun a V hf hp ev he hc W => ?_)
              have q79 : ev (.tmp 79) = .agg (bv px).toArray := (he (.tmp 79)).trans (hp 4 79 rfl)
              have q80 : ev (.tmp 80) = .agg (bv y).toArray := (he (.tmp 80)).trans (hp 5 80 rfl)
              simp only [List.getElem_toArray, List.getElem_cons_succ, List.getElem_cons_zero, execOp, Option.map_some, Option.map_none]; rw [q79, q80]
              simp only [Sem.run_bind, eqg_32, HEQ.out W, Result.andThen_ok, Sem.run_pure]; rfl
          intro W1 VW1 hOW1
          have BW1 : Hid (Below wr.heap.size wr W1) := hOW1
          clear hOW1
          simp only [RU.lay, RU.val, RU.at', tb14f, Act.put]
          simp only [List.setIfInBounds_toArray, List.set_cons_succ, List.set_cons_zero]
          cases q with
          | false =>
            go_wp2_with fail
            exact ⟨⟨k + 1, by omega, by go_num, fun j z hj hz => by
              rcases Nat.lt_succ_iff_lt_or_eq.1 hj with q | rfl
              · exact HA9.out j z q hz
              · rw [HXK.out] at hz; cases hz
                rw [HXP.out]; simpa using HQQ.out, Below.tr' H9.out BW1.out⟩, by simp [intOf]; omega⟩
          | true =>
            have hxy : x.p = y := by rw [HXP.out]; simpa using HQQ.out
            obtain ⟨f1, f2, -⟩ := HFY.out x (List.mem_of_getElem? HXK.out) hxy
            obtain ⟨nx, hnx⟩ : ∃ n, ln x = n := ⟨_, rfl⟩
            rw [hnx] at f1
            have HNX : Hid nx.Ok := by rw [← hnx]; exact ln_ok HX.out
            have HLF : Hid (∀ W : World, Calls Tryd.prog 25 #[.agg (lfc x).toArray] W fun e w' => e = .returned (.agg (nc nx).toArray) ∧ Below W.heap.size W w') := fun W => by rw [← hnx]; exact rLeafNode_any x.p x.q HX.out.p HX.out.q W
            obtain ⟨H, hH⟩ : ∃ H, nx.h = H := ⟨_, rfl⟩
            have HHL : Hid (L32 H) := by rw [← hH]; exact HNX.out.h
            have HFH : Hid (∀ W : World, (Instr.field 27 (.agg (nc nx).toArray) 2).run Tryd.prog W = .ok (.agg (bv H).toArray) W) := fun W => by rw [← hH]; exact field_h HNX.out W
            have HEH : Hid (∀ W : World, (binOp .eql 23 (.agg (bv H).toArray) (.agg (bv H).toArray)).run Tryd.prog W = .ok (.bool true) W) := fun W => (eql_32 HHL.out HHL.out W).trans (by simp)
            rw [hH] at f1
            have RF1 : Hid (W1.rangeAt Fb 0 (bv H)) := by rw [← f1]; exact range_below (range_below RFb.out H9.out LFb.out) BW1.out (Nat.lt_of_lt_of_le LFb.out H9.out.size)
            have LF1 : Hid (Fb < W1.heap.size) := Nat.lt_of_lt_of_le LFb.out (Nat.le_trans H9.out.size BW1.out.size)
            have RL1 : Hid (W1.rangeAt b (o + k * 64) (lfc x)) := range_below RL0.out BW1.out LXW.out
            have LL1 : Hid (b < W1.heap.size) := Nat.lt_of_lt_of_le LXW.out BW1.out.size
            subst f2
            clear hnx hH hxy f1
            go_upto_region 15 with (fail)
            refine RU.wp_rgn' [] (tb15f b o m cp k x nx H) (fun _ => 0) (gΩ W1) (by kernel_rfl) (by kernel_rfl) (show Below W1.heap.size W1 _ from (Below.refl _ _).drew) ?_ ?_
            · refine ⟨?_, ?_, ?_, ?_, ?_, ?_, ?_, ?_, ?_, ?_, ?_, ?_, trivial⟩
              · refine RU.ObT.pure rfl rfl rfl (fun a V hf hp ev he hc W => ?_)
                have q13 : ev (.tmp 13) = .bool true := (he (.tmp 13)).trans (hf 13 rfl)
                simp only [List.getElem_toArray, List.getElem_cons_succ, List.getElem_cons_zero, execOp, Option.map_some, Option.map_none]; rw [q13]
                first | (go_simp; done) | (go_simp; rfl) | rfl
              · refine RU.ObT.pure rfl rfl rfl (fun a V hf hp ev he hc W => ?_)
                have q82 : ev (.tmp 82) = .bool true := (he (.tmp 82)).trans (hp 0 82 rfl)
                simp only [List.getElem_toArray, List.getElem_cons_succ, List.getElem_cons_zero, execOp, Option.map_some, Option.map_none]; rw [q82]
                first | (go_simp; done) | (go_simp; rfl) | rfl
              · refine RU.ObT.silent rfl (fun a W k0 V hO hf hp hk => ?_)
                have hg : a.eval (.tmp 83) = .bool true := hp 1 83 rfl
                have hO' : Below W1.heap.size W1 W := hO
                have q12 : a.eval (.tmp 12) = .pointer (some ⟨Fb, 0, none⟩) := hf 12 rfl
                exact RU.ob_op rfl (RU.wanted_some rfl rfl rfl hg) (wp_load_mid 23 (.tmp 12) rfl (Fb) (0) q12 (bv H) _ (range_below RF1.out hO' LF1.out) Tryd.underlying23 rfl (size_l32 HHL.out) ⟨rfl, hO⟩)
              · refine RU.ObT.silent rfl (fun a W k0 V hO hf hp hk => ?_)
                have hg : a.eval (.tmp 83) = .bool true := hp 1 83 rfl
                refine RU.ob_val rfl (RU.wanted_some rfl rfl rfl hg) (fun ev he hc => ?_) ⟨rfl, hO⟩
                have q7 : ev (.tmp 7) = .slice (some ⟨b, o, none⟩) m cp := (he (.tmp 7)).trans (hf 7 rfl)
                simp only [List.getElem_toArray, List.getElem_cons_succ, List.getElem_cons_zero, execOp, Option.map_some, Option.map_none]; rw [q7]
                first | (go_simp; done) | (go_simp; rfl) | rfl
              · refine RU.ObT.silent rfl (fun a W k0 V hO hf hp hk => ?_)
                have hg : a.eval (.tmp 83) = .bool true := hp 1 83 rfl
                refine RU.ob_val rfl (RU.wanted_some rfl rfl rfl hg) (fun ev he hc => ?_) ⟨rfl, hO⟩
                have q15 : ev (.tmp 15) = .int .i64 (k : Int) := (he (.tmp 15)).trans (hf 15 rfl)
                simp only [List.getElem_toArray, List.getElem_cons_succ, List.getElem_cons_zero, execOp, Option.map_some, Option.map_none]; rw [q15]
                first | (go_simp; done) | (go_simp; rfl) | rfl
              · refine RU.ObT.silent rfl (fun a W k0 V hO hf hp hk => ?_)
                have hg : a.eval (.tmp 83) = .bool true := hp 1 83 rfl
                refine RU.ob_val rfl (RU.wanted_some rfl rfl rfl hg) (fun ev he hc => ?_) ⟨rfl, hO⟩
                have q85 : ev (.tmp 85) = .slice (some ⟨b, o, none⟩) m cp := (he (.tmp 85)).trans (hp 3 85 rfl)
                have q86 : ev (.tmp 86) = .int .i64 (k : Int) := (he (.tmp 86)).trans (hp 4 86 rfl)
                simp only [List.getElem_toArray, List.getElem_cons_succ, List.getElem_cons_zero, execOp, Option.map_some, Option.map_none]; rw [q85, q86]
                have hk9 : (k : Int) < (m : Int) := by omega
                first | (go_simp; done) | (go_simp; rfl) | rfl
              · refine RU.ObT.silent rfl (fun a W k0 V hO hf hp hk => ?_)
                have hg : a.eval (.tmp 83) = .bool true := hp 1 83 rfl
                have hO' : Below W1.heap.size W1 W := hO
                have q87 : a.eval (.tmp 87) = .pointer (some ⟨b, o + k * 64, none⟩) := hp 5 87 rfl
                exact RU.ob_op rfl (RU.wanted_some rfl rfl rfl hg) (wp_load_mid 41 (.tmp 87) rfl (b) (o + k * 64) q87 (lfc x) _ (range_below RL1.out hO' LL1.out) Tryd.underlying41 rfl (size_lfc HX.out) ⟨rfl, hO⟩)
              · refine RU.ObT.silent rfl (fun a W k0 V hO hf hp hk => ?_)
                have hg : a.eval (.tmp 83) = .bool true := hp 1 83 rfl
                have hO' : Below W1.heap.size W1 W := hO
                have e88 : a.eval (.tmp 88) = .agg (lfc x).toArray := hp 6 88 rfl
                refine RU.ob_call (g := 25) (args := #[.agg (lfc x).toArray]) rfl (RU.wanted_some rfl rfl rfl hg) (fun ev he hc => ?_) ((HLF.out W).mono ?_)
                · have h88 := (he (.tmp 88)).trans e88
                  have hfn := he (.func 25)
                  simp only [List.getElem_toArray, List.getElem_cons_succ, List.getElem_cons_zero, execOp, Option.map_some, Option.map_none]
                  simp only [resolve, invoke, Sem.run_bind, Sem.run_pure, Result.andThen_ok, List.map_toArray, List.map_cons, List.map_nil, h88, hfn, Act.eval, hc]
                  rfl
                · rintro e' W9 ⟨rfl, hb2⟩
                  exact ⟨_, rfl, rfl, (hO'.trans (hb2.mono hO'.size) : Below W1.heap.size W1 W9)⟩
              · refine RU.ObT.silent rfl (fun a W k0 V hO hf hp hk => ?_)
                have hg : a.eval (.tmp 83) = .bool true := hp 1 83 rfl
                refine RU.ob_val rfl (RU.wanted_some rfl rfl rfl hg) (fun ev he hc => ?_) ⟨rfl, hO⟩
                have q89 : ev (.tmp 89) = .agg (nc nx).toArray := (he (.tmp 89)).trans (hp 7 89 rfl)
                simp only [List.getElem_toArray, List.getElem_cons_succ, List.getElem_cons_zero, execOp, Option.map_some, Option.map_none]; rw [q89]
                simp only [Sem.run_bind, HFH.out W, Result.andThen_ok, Sem.run_pure]; rfl
              · refine RU.ObT.silent rfl (fun a W k0 V hO hf hp hk => ?_)
                have hg : a.eval (.tmp 83) = .bool true := hp 1 83 rfl
                refine RU.ob_val rfl (RU.wanted_some rfl rfl rfl hg) (fun ev he hc => ?_) ⟨rfl, hO⟩
                have q84 : ev (.tmp 84) = .agg (bv H).toArray := (he (.tmp 84)).trans (hp 2 84 rfl)
                have q90 : ev (.tmp 90) = .agg (bv H).toArray := (he (.tmp 90)).trans (hp 8 90 rfl)
                simp only [List.getElem_toArray, List.getElem_cons_succ, List.getElem_cons_zero, execOp, Option.map_some, Option.map_none]; rw [q84, q90]
                simp only [Sem.run_bind, eqg_32, HEH.out W, Result.andThen_ok, Sem.run_pure]; rfl
              · refine RU.ObT.pure rfl rfl rfl (fun a V hf hp ev he hc W => ?_)
                have q83 : ev (.tmp 83) = .bool true := (he (.tmp 83)).trans (hp 1 83 rfl)
                have q91 : ev (.tmp 91) = .bool true := (he (.tmp 91)).trans (hp 9 91 rfl)
                simp only [List.getElem_toArray, List.getElem_cons_succ, List.getElem_cons_zero, execOp, Option.map_some, Option.map_none]; rw [q83, q91]
                try simp only [hc]
                first | (go_simp; done) | (go_simp; rfl) | rfl
              · refine RU.ObT.pure rfl rfl rfl (fun a V hf hp ev he hc W => ?_)
                have q92 : ev (.tmp 92) = .bool true := (he (.tmp 92)).trans (hp 10 92 rfl)
                simp only [List.getElem_toArray, List.getElem_cons_succ, List.getElem_cons_zero, execOp, Option.map_some, Option.map_none]; rw [q92]
                first | (go_simp; done) | (go_simp; rfl) | rfl
            intro W2 VW2 hOW2
            have BW2 : Hid (Below W1.heap.size W1 W2) := hOW2
            clear hOW2
            simp only [RU.lay, RU.val, RU.at', tb15f, Act.put]
            simp only [List.setIfInBounds_toArray, List.set_cons_succ, List.set_cons_zero]
            go_wp2_with fail
            go_ret
            exact ⟨rfl, BW.out.trans ((Below.tr' C9.out (Below.tr' BW1.out BW2.out)).mono BW.out.size)⟩
        · have hno : ∀ x ∈ Q, x.p ≠ y := fun x hx => by
            obtain ⟨i, hi, rfl⟩ := List.getElem_of_mem hx
            exact HA9.out i _ (by have := HQM.out; omega) (List.getElem?_eq_getElem hi)
          obtain ⟨f1, f2, -⟩ := HFN.out hno
          have RFW : Hid (wr.rangeAt Fb 0 (bv z32)) := by rw [← f1]; exact range_below RFb.out H9.out LFb.out
          subst f2
          clear hno f1
          go_wp2_with (first
            | (refine ld 23 (.tmp 12) rfl rfl Fb 0 rfl (bv z32) _ (RFW.out) Tryd.underlying23 rfl (size_l32 z32_l32) ?_)
            | (refine wp_build0g 23 rfl rfl _ (build_32 wr) ?_)
            | (refine wp_bin_run .eql 23 23 (.tmp 97) (.tmp 98) rfl rfl (.agg (bv z32).toArray) (.agg (bv z32).toArray) (.bool true) rfl rfl (eqg_32 _ _ _ _ _ wr) ((eql_32 z32_l32 z32_l32 wr).trans (by simp)) ?_))
          go_ret
          exact ⟨rfl, BW.out.trans (C9.out.mono BW.out.size)⟩
  · skip
    have RY2 : Hid (w1.rangeAt D 0 (bv y)) := range_below RY.out C1.out hDU.out
    have HY2 : Hid (L32 y) := HY.out
    have NQ : Hid (LS w1 (.slice ad m cp) Q) := NQ1.out
    have BW : Hid (Below w.heap.size w w1) := BW1'.out
    have TU2 : Hid (Tb w1) := TW.out.below BW.out
    have hD2 : Hid (D < w1.heap.size) := Nat.lt_of_lt_of_le hDU.out C1.out.size
    go_upto_region 6 with (fail)
    obtain ⟨L, hLL⟩ : ∃ L, opl y (so Q) = L := ⟨_, rfl⟩
    obtain ⟨R, hRR⟩ : ∃ R, rt (so Q) = R := ⟨_, rfl⟩
    have HRL : Hid (L32 R) := by rw [← hRR]; exact rt_l32 _
    obtain ⟨F, g, e1, hF⟩ : ∃ F g e1, fnd R L y = (F, g, e1) := ⟨_, _, _, rfl⟩
    have HFY : Hid (∀ x ∈ Q, x.p = y → F = (ln x).h ∧ g = true ∧ e1 = 0) := fun x hx e => by
      have := back_yes HQK.out HQO.out HY2.out hx e; rw [hLL, hRR, hF] at this; cases this; exact ⟨rfl, rfl, rfl⟩
    have HFN : Hid ((∀ x ∈ Q, x.p ≠ y) → F = z32 ∧ g = false ∧ e1 = 0) := fun e => by
      have := back_no HQK.out HQO.out HY2.out e; rw [hLL, hRR, hF] at this; cases this; exact ⟨rfl, rfl, rfl⟩
    have he1 : e1 = 0 := by
      by_cases q : ∃ x ∈ Q, x.p = y
      · obtain ⟨x, hx, e⟩ := q; exact (HFY.out x hx e).2.2
      · exact (HFN.out (fun x hx e => q ⟨x, hx, e⟩)).2.2
    subst he1
    have hLo : (∀ x ∈ L, x.Ok) ∧ L.length ≤ Q.length := by
      have := wo_fit (hd := fun n => hl n y) (own := true) (so Q).length (so Q) (so_rsn HQK.out HQO.out)
      rw [wo_opl y _ _ (so_rsn HQK.out HQO.out).ris (Nat.le_refl _), hLL, so_len HQO.out] at this
      exact this
    have HFL : Hid (L32 F) := by have := fnd_ok32 R L hLo.1 y; rw [hF] at this; exact this
    obtain ⟨er, her⟩ : ∃ er : Int, er = 0 := ⟨_, rfl⟩
    have HCP : Hid (∀ W : World, Below w1.heap.size w1 W → Calls Tryd.prog 23 #[.slice ad m cp] W fun e w' => ∃ v', e = .returned v' ∧ LS w' v' Q ∧ Below W.heap.size W w') := fun W q => copyLeaves_any Q HQK.out (by have := HQL.out; omega) _ W (NQ.out.below q)
    have HRO : Hid (∀ (v' : Value) (W : World), LS W v' Q → Below w1.heap.size w1 W → Calls Tryd.prog 22 #[v'] W fun e w' => e = .returned (.tuple #[.agg (bv R).toArray, .int .i64 0]) ∧ Below W.heap.size W w') := fun v' W n1 n2 => RootOf_any Q HQK.out HQL.out R 0 (.inl ⟨HQO.out, hRR.symm, rfl⟩) v' W n1 (TU2.out.below n2)
    have HOP : Hid (∀ (v' : Value) (W : World), LS W v' Q → Below w1.heap.size w1 W → Calls Tryd.prog 27 #[v', .agg (bv y).toArray] W fun e w' => ∃ v', e = .returned (.tuple #[v', .int .i64 er]) ∧ NS w' v' L ∧ Below W.heap.size W w') := fun v' W n1 n2 => by
      refine (Open_any Q HQK.out HQL.out y HY2.out v' W n1 (TU2.out.below n2)).mono fun e w' ⟨v', er', he, hL, hb⟩ => ?_
      rcases hL with ⟨_, h1, h2⟩ | ⟨h1, _⟩
      · rw [her]; subst h1; rw [hLL] at h2; exact ⟨v', he, h2.ns, hb⟩
      · exact absurd HQO.out h1
    have HFO : Hid (∀ (v' : Value) (W : World), NS W v' L → Below w1.heap.size w1 W → Calls Tryd.prog 29 #[.agg (bv R).toArray, v', .agg (bv y).toArray] W fun e w' => e = .returned (.tuple #[.agg (bv F).toArray, .bool g, .int .i64 0]) ∧ Below W.heap.size W w') := fun v' W n1 n2 => by
      have := Found_any R HRL.out L hLo.1 (by have h1 := hLo.2; have h2 := HQL.out; omega) y HY2.out v' W n1 (TU2.out.below n2); rw [hF] at this; exact this
    have HQX : Hid (Q = [] ∧ (ad = none → cp = 0) ∨ ∃ b o, ad = some ⟨b, o, none⟩ ∧ b < w1.heap.size ∧ ∀ (i : Nat) (x : Lf), Q[i]? = some x → w1.rangeAt b (o + i * 64) (lfc x)) := by
      obtain ⟨ad', cp', he, -, hx⟩ := NQ.out
      simp only [Value.slice.injEq] at he
      obtain ⟨rfl, -, rfl⟩ := he
      exact hx
    have C0 : Hid (Below w1.heap.size w1 w1) := Below.refl _ _
    clear hLo hLL hRR hF
    go_upto_region 7 with (first
      | (refine wpList_store_mid rfl 23 (.tmp 8) (.tmp 43) rfl a2.heap.size 0 (bv R).toArray rfl rfl (there_new a2 (by rw [List.size_toArray, bv_length, HRL.out.len, HZS.out])) (by rw [List.size_toArray]; exact size_l32 HRL.out) (bv_one' _) ?_; simp only [List.toList_toArray])
      | (go_at_call 22; refine (HRO.out v1 a1 N1.out Ca1.out).mono ?_; rintro e a2 ⟨rfl, g1⟩; have Ca2 : Hid (Below w1.heap.size w1 a2) := Below.tr' Ca1.out g1; clear g1)
      | (go_at_call 23; refine (HCP.out w1 C0.out).mono ?_; rintro e a1 ⟨v1, rfl, g1, g2⟩; have N1 : Hid (LS a1 v1 Q) := g1; have Ca1 : Hid (Below w1.heap.size w1 a1) := g2; clear g1 g2))
    obtain ⟨a3, ha3⟩ : ∃ a9, (a2.alloc (.cells Z 23)).setCells a2.heap.size 0 (bv R) = a9 := ⟨_, rfl⟩
    rw [ha3]
    obtain ⟨r1, r2, r3⟩ := laid_row (by rw [bv_length, HRL.out.len, HZS.out]) (by rw [bv_length, HRL.out.len]; omega) ha3
    obtain ⟨BR8, hBR8⟩ : ∃ q, a2.heap.size = q := ⟨_, rfl⟩
    rw [hBR8] at r1 r3 ⊢
    have RR8 : Hid (a3.rangeAt BR8 0 (bv R)) := r1
    have Ca3 : Hid (Below w1.heap.size w1 a3) := Below.tr' Ca2.out r2
    have LR8 : Hid (BR8 < a3.heap.size) := r3
    clear r1 r2 r3 ha3 hBR8
    refine RG.wp_rgn' (GI a3 (tb7f (.slice ad m cp) y er) (phO Q L er) []) (by kernel_rfl) (by kernel_rfl) GI.start ?_ ?_
    · refine ⟨?_, ?_, ?_, ?_, ?_, ?_, ?_, ?_, ?_, trivial⟩
      · intro a W d V hI hd hpx hbk hf hp
        have hO' : Below a3.heap.size a3 W := hI.be
        refine RU.ob_val (v := .slice ad m cp) rfl (RU.wanted_none rfl) (fun ev he hc => ?_) ⟨_, rfl, hI.step (phO_mono Q L er) (Below.refl _ _) 0 _ (by simp) (fun u hu => by first | (cases hu; rfl) | cases hu) (trivial)⟩
        have q7 : ev (.tmp 7) = .slice ad m cp := (he (.tmp 7)).trans (hf 7 rfl)
        simp only [List.getElem_toArray, List.getElem_cons_succ, List.getElem_cons_zero, execOp, Option.map_some, Option.map_none]; rw [q7]
        first | (go_simp; done) | (go_simp; rfl) | rfl
      · intro a W d V hI hd hpx hbk hf hp
        have hO' : Below a3.heap.size a3 W := hI.be
        have e46 : a.eval (.tmp 46) = .slice ad m cp := (hp 0 46 rfl).trans (hI.kn 0 _ rfl (hpx 0 rfl))
        have hno : ∀ x ∈ ([] : List Al), d x.2.1 = false := by simp
        refine RU.ob_call (g := 23) (args := #[.slice ad m cp]) rfl (RU.wanted_none rfl) (fun ev he hc => ?_) ((HCP.out W (Below.tr' Ca3.out hO')).mono ?_)
        · have h46 := (he (.tmp 46)).trans e46
          have hfn := he (.func 23)
          simp only [List.getElem_toArray, List.getElem_cons_succ, List.getElem_cons_zero, execOp, Option.map_some, Option.map_none]
          simp only [resolve, invoke, Sem.run_bind, Sem.run_pure, Result.andThen_ok, List.map_toArray, List.map_cons, List.map_nil, h46, hfn, Act.eval, hc]
          rfl
        · rintro e' W2 ⟨v', rfl, hn2, hb2⟩
          exact ⟨_, rfl, ⟨_, rfl, hI.step (phO_mono Q L er) hb2 1 _ (by simp) (fun u hu => by first | (cases hu; rfl) | cases hu) (hn2)⟩⟩
      · intro a W d V hI hd hpx hbk hf hp
        have hO' : Below a3.heap.size a3 W := hI.be
        have q5 : a.eval (.tmp 5) = .pointer (some ⟨D, 0, none⟩) := hf 5 rfl
        exact RU.ob_op rfl (RU.wanted_none rfl) (wp_load_mid 23 (.tmp 5) rfl (D) (0) q5 (bv y) _ (range_below RY2.out (Below.tr' Ca3.out hO') hD2.out) Tryd.underlying23 rfl (size_l32 HY2.out) ⟨_, rfl, hI.step (phO_mono Q L er) (Below.refl _ _) 2 _ (by simp) (fun u hu => by first | (cases hu; rfl) | cases hu) (trivial)⟩)
      · intro a W d V hI hd hpx hbk hf hp
        have hO' : Below a3.heap.size a3 W := hI.be
        have e47 : a.eval (.tmp 47) = V 1 := hp 1 47 rfl
        have e48 : a.eval (.tmp 48) = .agg (bv y).toArray := (hp 2 48 rfl).trans (hI.kn 2 _ rfl (hpx 2 rfl))
        have hno : ∀ x ∈ ([] : List Al), d x.2.1 = false := by simp
        refine RU.ob_call (g := 27) (args := #[V 1, .agg (bv y).toArray]) rfl (RU.wanted_none rfl) (fun ev he hc => ?_) ((HOP.out (V 1) W (hI.pr 1 (hpx 1 rfl) hno) (Below.tr' Ca3.out hO')).mono ?_)
        · have h47 := (he (.tmp 47)).trans e47
          have h48 := (he (.tmp 48)).trans e48
          have hfn := he (.func 27)
          simp only [List.getElem_toArray, List.getElem_cons_succ, List.getElem_cons_zero, execOp, Option.map_some, Option.map_none]
          simp only [resolve, invoke, Sem.run_bind, Sem.run_pure, Result.andThen_ok, List.map_toArray, List.map_cons, List.map_nil, h47, h48, hfn, Act.eval, hc]
          rfl
        · rintro e' W2 ⟨v', rfl, hn2, hb2⟩
          exact ⟨_, rfl, ⟨_, rfl, hI.step (phO_mono Q L er) hb2 3 _ (by simp) (fun u hu => by first | (cases hu; rfl) | cases hu) (⟨v', rfl, hn2⟩)⟩⟩
      · intro a W d V hI hd hpx hbk hf hp
        have hO' : Below a3.heap.size a3 W := hI.be
        have hno : ∀ x ∈ ([] : List Al), d x.2.1 = false := by simp
        refine RU.ob_val (v := V 3) rfl (RU.wanted_none rfl) (fun ev he hc => ?_) ⟨_, rfl, hI.step (phO_mono Q L er) (Below.refl _ _) 4 _ (by simp) (fun u hu => by first | (cases hu; rfl) | cases hu) (hI.pr 3 (hpx 3 rfl) hno)⟩
        have q49 : ev (.tmp 49) = V 3 := (he (.tmp 49)).trans (hp 3 49 rfl)
        simp only [List.getElem_toArray, List.getElem_cons_succ, List.getElem_cons_zero, execOp, Option.map_some, Option.map_none]; rw [q49]
        first | (go_simp; done) | (go_simp; rfl) | rfl
      · intro a W d V hI hd hpx hbk hf hp
        have hO' : Below a3.heap.size a3 W := hI.be
        have e17 : a.eval (.tmp 45) = V 4 := hp 4 45 rfl
        obtain ⟨v', ev4, hn4⟩ : phO Q L er 4 (V 4) W := hI.pr 4 (hpx 4 rfl) (by simp)
        refine RU.ob_val (v := v') rfl (RU.wanted_none rfl) (fun ev he hc => ?_) ⟨_, rfl, hI.step (phO_mono Q L er) (Below.refl _ _) 5 _ (by simp) (fun u hu => by first | (cases hu; rfl) | cases hu) hn4⟩
        have q17 := (he (.tmp 45)).trans (e17.trans ev4)
        simp only [List.getElem_toArray, List.getElem_cons_succ, List.getElem_cons_zero, execOp, Option.map_some, Option.map_none]; rw [q17]
        first | (go_simp; done) | (go_simp; rfl) | rfl
      · intro a W d V hI hd hpx hbk hf hp
        have hO' : Below a3.heap.size a3 W := hI.be
        have e17 : a.eval (.tmp 45) = V 4 := hp 4 45 rfl
        obtain ⟨v', ev4, hn4⟩ : phO Q L er 4 (V 4) W := hI.pr 4 (hpx 4 rfl) (by simp)
        refine RU.ob_val (v := .int .i64 er) rfl (RU.wanted_none rfl) (fun ev he hc => ?_) ⟨_, rfl, hI.step (phO_mono Q L er) (Below.refl _ _) 6 _ (by simp) (fun u hu => by first | (cases hu; rfl) | cases hu) trivial⟩
        have q17 := (he (.tmp 45)).trans (e17.trans ev4)
        simp only [List.getElem_toArray, List.getElem_cons_succ, List.getElem_cons_zero, execOp, Option.map_some, Option.map_none]; rw [q17]
        first | (go_simp; done) | (go_simp; rfl) | rfl
      · intro a W d V hI hd hpx hbk hf hp
        have hO' : Below a3.heap.size a3 W := hI.be
        have hno : ∀ x ∈ ([] : List Al), d x.2.1 = false := by simp
        refine RU.ob_val (v := V 5) rfl (RU.wanted_none rfl) (fun ev he hc => ?_) ⟨_, rfl, hI.step (phO_mono Q L er) (Below.refl _ _) 7 _ (by simp) (fun u hu => by first | (cases hu; rfl) | cases hu) (hI.pr 5 (hpx 5 rfl) hno)⟩
        have q50 : ev (.tmp 50) = V 5 := (he (.tmp 50)).trans (hp 5 50 rfl)
        simp only [List.getElem_toArray, List.getElem_cons_succ, List.getElem_cons_zero, execOp, Option.map_some, Option.map_none]; rw [q50]
        first | (go_simp; done) | (go_simp; rfl) | rfl
      · intro a W d V hI hd hpx hbk hf hp
        have hO' : Below a3.heap.size a3 W := hI.be
        refine RU.ob_val (v := .int .i64 er) rfl (RU.wanted_none rfl) (fun ev he hc => ?_) ⟨_, rfl, hI.step (phO_mono Q L er) (Below.refl _ _) 8 _ (by simp) (fun u hu => by first | (cases hu; rfl) | cases hu) (trivial)⟩
        have q51 : ev (.tmp 51) = .int .i64 er := (he (.tmp 51)).trans ((hp 6 51 rfl).trans (hI.kn 6 _ rfl (hpx 6 rfl)))
        simp only [List.getElem_toArray, List.getElem_cons_succ, List.getElem_cons_zero, execOp, Option.map_some, Option.map_none]; rw [q51]
        first | (go_simp; done) | (go_simp; rfl) | rfl
    intro a4 da4 Va4 hal hI
    have Ba4 : Hid (Below a3.heap.size a3 a4) := hI.be
    have hs0 : Va4 0 = .slice ad m cp := hI.kn 0 _ rfl (hal 0 (by decide))
    obtain ⟨u1, hs1⟩ : ∃ u, Va4 1 = u := ⟨_, rfl⟩
    have P1a4 : Hid ((phO Q L er) 1 u1 a4) := by rw [← hs1]; exact hI.pr 1 (hal 1 (by decide)) (by simp)
    have hs2 : Va4 2 = .agg (bv y).toArray := hI.kn 2 _ rfl (hal 2 (by decide))
    obtain ⟨u3, hs3⟩ : ∃ u, Va4 3 = u := ⟨_, rfl⟩
    have P3a4 : Hid ((phO Q L er) 3 u3 a4) := by rw [← hs3]; exact hI.pr 3 (hal 3 (by decide)) (by simp)
    obtain ⟨u4, hs4⟩ : ∃ u, Va4 4 = u := ⟨_, rfl⟩
    have P4a4 : Hid ((phO Q L er) 4 u4 a4) := by rw [← hs4]; exact hI.pr 4 (hal 4 (by decide)) (by simp)
    obtain ⟨u5, hs5⟩ : ∃ u, Va4 5 = u := ⟨_, rfl⟩
    have P5a4 : Hid ((phO Q L er) 5 u5 a4) := by rw [← hs5]; exact hI.pr 5 (hal 5 (by decide)) (by simp)
    have hs6 : Va4 6 = .int .i64 er := hI.kn 6 _ rfl (hal 6 (by decide))
    obtain ⟨u7, hs7⟩ : ∃ u, Va4 7 = u := ⟨_, rfl⟩
    have P7a4 : Hid ((phO Q L er) 7 u7 a4) := by rw [← hs7]; exact hI.pr 7 (hal 7 (by decide)) (by simp)
    have hs8 : Va4 8 = .int .i64 er := hI.kn 8 _ rfl (hal 8 (by decide))
    simp only [RU.lay, Act.put, hs0, hs1, hs2, hs3, hs4, hs5, hs6, hs7, hs8]
    simp only [List.setIfInBounds_toArray, List.set_cons_succ, List.set_cons_zero]
    clear hI hal hs0 hs1 hs2 hs3 hs4 hs5 hs6 hs7 hs8
    have N7 : Hid (NS a4 u7 L) := P7a4.out
    have Ca4 : Hid (Below w1.heap.size w1 a4) := Below.tr' Ca3.out Ba4.out
    subst her
    go_upto_region 9 with (first
      | (refine ld 23 (.tmp 8) rfl rfl BR8 0 rfl (bv R) _ (range_below RR8.out Ba4.out LR8.out) Tryd.underlying23 rfl (size_l32 HRL.out) ?_)
      | (refine ld 23 (.tmp 5) rfl rfl D 0 rfl (bv y) _ (range_below RY2.out Ca4.out hD2.out) Tryd.underlying23 rfl (size_l32 HY2.out) ?_)
      | (refine wpList_store_mid rfl 23 (.tmp 12) (.tmp 57) rfl a5.heap.size 0 (bv F).toArray rfl rfl (there_new a5 (by rw [List.size_toArray, bv_length, HFL.out.len, HZS.out])) (by rw [List.size_toArray]; exact size_l32 HFL.out) (bv_one' _) ?_; simp only [List.toList_toArray])
      | (go_at_call 29; refine (HFO.out u7 a4 N7.out Ca4.out).mono ?_; rintro e a5 ⟨rfl, g1⟩; have Ca5 : Hid (Below w1.heap.size w1 a5) := Below.tr' Ca4.out g1; clear g1))
    obtain ⟨a6, ha6⟩ : ∃ a9, (a5.alloc (.cells Z 23)).setCells a5.heap.size 0 (bv F) = a9 := ⟨_, rfl⟩
    rw [ha6]
    obtain ⟨r1, r2, r3⟩ := laid_row (by rw [bv_length, HFL.out.len, HZS.out]) (by rw [bv_length, HFL.out.len]; omega) ha6
    obtain ⟨Fb, hFb⟩ : ∃ q, a5.heap.size = q := ⟨_, rfl⟩
    rw [hFb] at r1 r3 ⊢
    have RFb : Hid (a6.rangeAt Fb 0 (bv F)) := r1
    have Ca6 : Hid (Below w1.heap.size w1 a6) := Below.tr' Ca5.out r2
    have LFb : Hid (Fb < a6.heap.size) := r3
    clear r1 r2 r3 ha6 hFb
    clear hz
    go_wp2_with fail
    go_loopw [72] (fun i wr => ∃ k : Nat, k ≤ m ∧ i = .int .i64 (k : Int) ∧ (∀ (j : Nat) (x : Lf), j < k → Q[j]? = some x → x.p ≠ y) ∧ Below a6.heap.size a6 wr) (fun i _ => m - (intOf i).toNat)
    case atStart => exact ⟨0, Nat.zero_le _, rfl, fun j x hj => by omega, Below.refl _ _⟩
    case round =>
      obtain ⟨k, hkl, rfl, hall, h9⟩ := hrel
      have H9 : Hid (Below a6.heap.size a6 wr) := h9
      have HA9 : Hid (∀ (j : Nat) (x : Lf), j < k → Q[j]? = some x → x.p ≠ y) := hall
      have C9 : Hid (Below w1.heap.size w1 wr) := Below.tr' Ca6.out H9.out
      clear h9 hall
      by_cases hlt : k < m
      · rcases HQX.out with ⟨h0, _⟩ | ⟨b, o, rfl, hlb, hm⟩
        · have := HQM.out; rw [h0] at this; simp at this; omega
        obtain ⟨x, hx⟩ : ∃ x, Q[k]? = some x := ⟨Q[k]'(by have := HQM.out; omega), List.getElem?_eq_getElem _⟩
        have HX : Hid x.Ok := HQK.out x (List.mem_of_getElem? hx)
        have HXK : Hid (Q[k]? = some x) := hx
        obtain ⟨px, hpx⟩ : ∃ p, x.p = p := ⟨_, rfl⟩
        have HXP : Hid (x.p = px) := hpx
        have HPX : Hid (L32 px) := by rw [← hpx]; exact HX.out.p
        have RL0 : Hid (wr.rangeAt b (o + k * 64) (lfc x)) := range_below (hm k x hx) C9.out hlb
        have RXW : Hid (wr.rangeAt b (o + k * 64) (bv px)) := by rw [← hpx]; exact lf_p RL0.out
        have LXW : Hid (b < wr.heap.size) := Nat.lt_of_lt_of_le hlb C9.out.size
        have RYW : Hid (wr.rangeAt D 0 (bv y)) := range_below RY2.out C9.out hD2.out
        have LYW : Hid (D < wr.heap.size) := Nat.lt_of_lt_of_le hD2.out C9.out.size
        obtain ⟨q, hq⟩ : ∃ q, decide (px = y) = q := ⟨_, rfl⟩
        have HQQ : Hid (decide (px = y) = q) := hq
        have HEQ : Hid (∀ W : World, (binOp .eql 23 (.agg (bv px).toArray) (.agg (bv y).toArray)).run Tryd.prog W = .ok (.bool q) W) := fun W => by rw [← hq]; exact eql_32 HPX.out HY2.out W
        clear hm hlb hx hpx hq
        go_upto_region 14 with (fail)
        refine RU.wp_rgn' [] (tb14f b o m cp k px y q) (fun _ => 0) (gΩ wr) (by kernel_rfl) (by kernel_rfl) (show Below wr.heap.size wr _ from (Below.refl _ _).drew) ?_ ?_
        · refine ⟨?_, ?_, ?_, ?_, ?_, ?_, ?_, trivial⟩
          · refine RU.ObT.pure rfl rfl rfl (fun a V hf hp ev he hc W => ?_)
            have q7 : ev (.tmp 7) = .slice (some ⟨b, o, none⟩) m cp := (he (.tmp 7)).trans (hf 7 rfl)
            simp only [List.getElem_toArray, List.getElem_cons_succ, List.getElem_cons_zero, execOp, Option.map_some, Option.map_none]; rw [q7]
            first | (go_simp; done) | (go_simp; rfl) | rfl
          · refine RU.ObT.pure rfl rfl rfl (fun a V hf hp ev he hc W => ?_)
            have q15 : ev (.tmp 15) = .int .i64 (k : Int) := (he (.tmp 15)).trans (hf 15 rfl)
            simp only [List.getElem_toArray, List.getElem_cons_succ, List.getElem_cons_zero, execOp, Option.map_some, Option.map_none]; rw [q15]
            first | (go_simp; done) | (go_simp; rfl) | rfl
          · refine RU.ObT.pure rfl rfl rfl (fun a V hf hp ev he hc W => ?_)
            have q75 : ev (.tmp 75) = .slice (some ⟨b, o, none⟩) m cp := (he (.tmp 75)).trans (hp 0 75 rfl)
            have q76 : ev (.tmp 76) = .int .i64 (k : Int) := (he (.tmp 76)).trans (hp 1 76 rfl)
            simp only [List.getElem_toArray, List.getElem_cons_succ, List.getElem_cons_zero, execOp, Option.map_some, Option.map_none]; rw [q75, q76]
            have hk9 : (k : Int) < (m : Int) := by omega
            first | (go_simp; done) | (go_simp; rfl) | rfl
          · refine RU.ObT.pure rfl rfl rfl (fun a V hf hp ev he hc W => ?_)
            have q77 : ev (.tmp 77) = .pointer (some ⟨b, o + k * 64, none⟩) := (he (.tmp 77)).trans (hp 2 77 rfl)
            simp only [List.getElem_toArray, List.getElem_cons_succ, List.getElem_cons_zero, execOp, Option.map_some, Option.map_none]; rw [q77]
            first | (go_simp; done) | (go_simp; rfl) | rfl
          · refine RU.ObT.silent rfl (fun a W k0 V hO hf hp hk => ?_)
            have hO' : Below wr.heap.size wr W := hO
            have q78 : a.eval (.tmp 78) = .pointer (some ⟨b, o + k * 64, none⟩) := hp 3 78 rfl
            exact RU.ob_op rfl (RU.wanted_none rfl) (wp_load_mid 23 (.tmp 78) rfl (b) (o + k * 64) q78 (bv px) _ (range_below RXW.out hO' LXW.out) Tryd.underlying23 rfl (size_l32 HPX.out) ⟨rfl, hO⟩)
          · refine RU.ObT.silent rfl (fun a W k0 V hO hf hp hk => ?_)
            have hO' : Below wr.heap.size wr W := hO
            have q5 : a.eval (.tmp 5) = .pointer (some ⟨D, 0, none⟩) := hf 5 rfl
            exact RU.ob_op rfl (RU.wanted_none rfl) (wp_load_mid 23 (.tmp 5) rfl (D) (0) q5 (bv y) _ (range_below RYW.out hO' LYW.out) Tryd.underlying23 rfl (size_l32 HY2.out) ⟨rfl, hO⟩)
          · refine RU.ObT.pure rfl rfl rfl (fun a V hf hp ev he hc W => ?_)
            have q79 : ev (.tmp 79) = .agg (bv px).toArray := (he (.tmp 79)).trans (hp 4 79 rfl)
            have q80 : ev (.tmp 80) = .agg (bv y).toArray := (he (.tmp 80)).trans (hp 5 80 rfl)
            simp only [List.getElem_toArray, List.getElem_cons_succ, List.getElem_cons_zero, execOp, Option.map_some, Option.map_none]; rw [q79, q80]
            simp only [Sem.run_bind, eqg_32, HEQ.out W, Result.andThen_ok, Sem.run_pure]; rfl
        intro W1 VW1 hOW1
        have BW1 : Hid (Below wr.heap.size wr W1) := hOW1
        clear hOW1
        simp only [RU.lay, RU.val, RU.at', tb14f, Act.put]
        simp only [List.setIfInBounds_toArray, List.set_cons_succ, List.set_cons_zero]
        cases q with
        | false =>
          go_wp2_with fail
          exact ⟨⟨k + 1, by omega, by go_num, fun j z hj hz => by
            rcases Nat.lt_succ_iff_lt_or_eq.1 hj with q | rfl
            · exact HA9.out j z q hz
            · rw [HXK.out] at hz; cases hz
              rw [HXP.out]; simpa using HQQ.out, Below.tr' H9.out BW1.out⟩, by simp [intOf]; omega⟩
        | true =>
          have hxy : x.p = y := by rw [HXP.out]; simpa using HQQ.out
          obtain ⟨f1, f2, -⟩ := HFY.out x (List.mem_of_getElem? HXK.out) hxy
          obtain ⟨nx, hnx⟩ : ∃ n, ln x = n := ⟨_, rfl⟩
          rw [hnx] at f1
          have HNX : Hid nx.Ok := by rw [← hnx]; exact ln_ok HX.out
          have HLF : Hid (∀ W : World, Calls Tryd.prog 25 #[.agg (lfc x).toArray] W fun e w' => e = .returned (.agg (nc nx).toArray) ∧ Below W.heap.size W w') := fun W => by rw [← hnx]; exact rLeafNode_any x.p x.q HX.out.p HX.out.q W
          obtain ⟨H, hH⟩ : ∃ H, nx.h = H := ⟨_, rfl⟩
          have HHL : Hid (L32 H) := by rw [← hH]; exact HNX.out.h
          have HFH : Hid (∀ W : World, (Instr.field 27 (.agg (nc nx).toArray) 2).run Tryd.prog W = .ok (.agg (bv H).toArray) W) := fun W => by rw [← hH]; exact field_h HNX.out W
          have HEH : Hid (∀ W : World, (binOp .eql 23 (.agg (bv H).toArray) (.agg (bv H).toArray)).run Tryd.prog W = .ok (.bool true) W) := fun W => (eql_32 HHL.out HHL.out W).trans (by simp)
          rw [hH] at f1
          have RF1 : Hid (W1.rangeAt Fb 0 (bv H)) := by rw [← f1]; exact range_below (range_below RFb.out H9.out LFb.out) BW1.out (Nat.lt_of_lt_of_le LFb.out H9.out.size)
          have LF1 : Hid (Fb < W1.heap.size) := Nat.lt_of_lt_of_le LFb.out (Nat.le_trans H9.out.size BW1.out.size)
          have RL1 : Hid (W1.rangeAt b (o + k * 64) (lfc x)) := range_below RL0.out BW1.out LXW.out
          have LL1 : Hid (b < W1.heap.size) := Nat.lt_of_lt_of_le LXW.out BW1.out.size
          subst f2
          clear hnx hH hxy f1
          go_upto_region 15 with (fail)
          refine RU.wp_rgn' [] (tb15f b o m cp k x nx H) (fun _ => 0) (gΩ W1) (by kernel_rfl) (by kernel_rfl) (show Below W1.heap.size W1 _ from (Below.refl _ _).drew) ?_ ?_
          · refine ⟨?_, ?_, ?_, ?_, ?_, ?_, ?_, ?_, ?_, ?_, ?_, ?_, trivial⟩
            · refine RU.ObT.pure rfl rfl rfl (fun a V hf hp ev he hc W => ?_)
              have q13 : ev (.tmp 13) = .bool true := (he (.tmp 13)).trans (hf 13 rfl)
              simp only [List.getElem_toArray, List.getElem_cons_succ, List.getElem_cons_zero, execOp, Option.map_some, Option.map_none]; rw [q13]
              first | (go_simp; done) | (go_simp; rfl) | rfl
            · refine RU.ObT.pure rfl rfl rfl (fun a V hf hp ev he hc W => ?_)
              have q82 : ev (.tmp 82) = .bool true := (he (.tmp 82)).trans (hp 0 82 rfl)
              simp only [List.getElem_toArray, List.getElem_cons_succ, List.getElem_cons_zero, execOp, Option.map_some, Option.map_none]; rw [q82]
              first | (go_simp; done) | (go_simp; rfl) | rfl
            · refine RU.ObT.silent rfl (fun a W k0 V hO hf hp hk => ?_)
              have hg : a.eval (.tmp 83) = .bool true := hp 1 83 rfl
              have hO' : Below W1.heap.size W1 W := hO
              have q12 : a.eval (.tmp 12) = .pointer (some ⟨Fb, 0, none⟩) := hf 12 rfl
              exact RU.ob_op rfl (RU.wanted_some rfl rfl rfl hg) (wp_load_mid 23 (.tmp 12) rfl (Fb) (0) q12 (bv H) _ (range_below RF1.out hO' LF1.out) Tryd.underlying23 rfl (size_l32 HHL.out) ⟨rfl, hO⟩)
            · refine RU.ObT.silent rfl (fun a W k0 V hO hf hp hk => ?_)
              have hg : a.eval (.tmp 83) = .bool true := hp 1 83 rfl
              refine RU.ob_val rfl (RU.wanted_some rfl rfl rfl hg) (fun ev he hc => ?_) ⟨rfl, hO⟩
              have q7 : ev (.tmp 7) = .slice (some ⟨b, o, none⟩) m cp := (he (.tmp 7)).trans (hf 7 rfl)
              simp only [List.getElem_toArray, List.getElem_cons_succ, List.getElem_cons_zero, execOp, Option.map_some, Option.map_none]; rw [q7]
              first | (go_simp; done) | (go_simp; rfl) | rfl
            · refine RU.ObT.silent rfl (fun a W k0 V hO hf hp hk => ?_)
              have hg : a.eval (.tmp 83) = .bool true := hp 1 83 rfl
              refine RU.ob_val rfl (RU.wanted_some rfl rfl rfl hg) (fun ev he hc => ?_) ⟨rfl, hO⟩
              have q15 : ev (.tmp 15) = .int .i64 (k : Int) := (he (.tmp 15)).trans (hf 15 rfl)
              simp only [List.getElem_toArray, List.getElem_cons_succ, List.getElem_cons_zero, execOp, Option.map_some, Option.map_none]; rw [q15]
              first | (go_simp; done) | (go_simp; rfl) | rfl
            · refine RU.ObT.silent rfl (fun a W k0 V hO hf hp hk => ?_)
              have hg : a.eval (.tmp 83) = .bool true := hp 1 83 rfl
              refine RU.ob_val rfl (RU.wanted_some rfl rfl rfl hg) (fun ev he hc => ?_) ⟨rfl, hO⟩
              have q85 : ev (.tmp 85) = .slice (some ⟨b, o, none⟩) m cp := (he (.tmp 85)).trans (hp 3 85 rfl)
              have q86 : ev (.tmp 86) = .int .i64 (k : Int) := (he (.tmp 86)).trans (hp 4 86 rfl)
              simp only [List.getElem_toArray, List.getElem_cons_succ, List.getElem_cons_zero, execOp, Option.map_some, Option.map_none]; rw [q85, q86]
              have hk9 : (k : Int) < (m : Int) := by omega
              first | (go_simp; done) | (go_simp; rfl) | rfl
            · refine RU.ObT.silent rfl (fun a W k0 V hO hf hp hk => ?_)
              have hg : a.eval (.tmp 83) = .bool true := hp 1 83 rfl
              have hO' : Below W1.heap.size W1 W := hO
              have q87 : a.eval (.tmp 87) = .pointer (some ⟨b, o + k * 64, none⟩) := hp 5 87 rfl
              exact RU.ob_op rfl (RU.wanted_some rfl rfl rfl hg) (wp_load_mid 41 (.tmp 87) rfl (b) (o + k * 64) q87 (lfc x) _ (range_below RL1.out hO' LL1.out) Tryd.underlying41 rfl (size_lfc HX.out) ⟨rfl, hO⟩)
            · refine RU.ObT.silent rfl (fun a W k0 V hO hf hp hk => ?_)
              have hg : a.eval (.tmp 83) = .bool true := hp 1 83 rfl
              have hO' : Below W1.heap.size W1 W := hO
              have e88 : a.eval (.tmp 88) = .agg (lfc x).toArray := hp 6 88 rfl
              refine RU.ob_call (g := 25) (args := #[.agg (lfc x).toArray]) rfl (RU.wanted_some rfl rfl rfl hg) (fun ev he hc => ?_) ((HLF.out W).mono ?_)
              · have h88 := (he (.tmp 88)).trans e88
                have hfn := he (.func 25)
                simp only [List.getElem_toArray, List.getElem_cons_succ, List.getElem_cons_zero, execOp, Option.map_some, Option.map_none]
                simp only [resolve, invoke, Sem.run_bind, Sem.run_pure, Result.andThen_ok, List.map_toArray, List.map_cons, List.map_nil, h88, hfn, Act.eval, hc]
                rfl
              · rintro e' W9 ⟨rfl, hb2⟩
                exact ⟨_, rfl, rfl, (hO'.trans (hb2.mono hO'.size) : Below W1.heap.size W1 W9)⟩
            · refine RU.ObT.silent rfl (fun a W k0 V hO hf hp hk => ?_)
              have hg : a.eval (.tmp 83) = .bool true := hp 1 83 rfl
              refine RU.ob_val rfl (RU.wanted_some rfl rfl rfl hg) (fun ev he hc => ?_) ⟨rfl, hO⟩
              have q89 : ev (.tmp 89) = .agg (nc nx).toArray := (he (.tmp 89)).trans (hp 7 89 rfl)
              simp only [List.getElem_toArray, List.getElem_cons_succ, List.getElem_cons_zero, execOp, Option.map_some, Option.map_none]; rw [q89]
              simp only [Sem.run_bind, HFH.out W, Result.andThen_ok, Sem.run_pure]; rfl
            · refine RU.ObT.silent rfl (fun a W k0 V hO hf hp hk => ?_)
              have hg : a.eval (.tmp 83) = .bool true := hp 1 83 rfl
              refine RU.ob_val rfl (RU.wanted_some rfl rfl rfl hg) (fun ev he hc => ?_) ⟨rfl, hO⟩
              have q84 : ev (.tmp 84) = .agg (bv H).toArray := (he (.tmp 84)).trans (hp 2 84 rfl)
              have q90 : ev (.tmp 90) = .agg (bv H).toArray := (he (.tmp 90)).trans (hp 8 90 rfl)
              simp only [List.getElem_toArray, List.getElem_cons_succ, List.getElem_cons_zero, execOp, Option.map_some, Option.map_none]; rw [q84, q90]
              simp only [Sem.run_bind, eqg_32, HEH.out W, Result.andThen_ok, Sem.run_pure]; rfl
            · refine RU.ObT.pure rfl rfl rfl (fun a V hf hp ev he hc W => ?_)
              have q83 : ev (.tmp 83) = .bool true := (he (.tmp 83)).trans (hp 1 83 rfl)
              have q91 : ev (.tmp 91) = .bool true := (he (.tmp 91)).trans (hp 9 91 rfl)
              simp only [List.getElem_toArray, List.getElem_cons_succ, List.getElem_cons_zero, execOp, Option.map_some, Option.map_none]; rw [q83, q91]
              try simp only [hc]
              first | (go_simp; done) | (go_simp; rfl) | rfl
            · refine RU.ObT.pure rfl rfl rfl (fun a V hf hp ev he hc W => ?_)
              have q92 : ev (.tmp 92) = .bool true := (he (.tmp 92)).trans (hp 10 92 rfl)
              simp only [List.getElem_toArray, List.getElem_cons_succ, List.getElem_cons_zero, execOp, Option.map_some, Option.map_none]; rw [q92]
              first | (go_simp; done) | (go_simp; rfl) | rfl
          intro W2 VW2 hOW2
          have BW2 : Hid (Below W1.heap.size W1 W2) := hOW2
          clear hOW2
          simp only [RU.lay, RU.val, RU.at', tb15f, Act.put]
          simp only [List.setIfInBounds_toArray, List.set_cons_succ, List.set_cons_zero]
          go_wp2_with fail
          go_ret
          exact ⟨rfl, BW.out.trans ((Below.tr' C9.out (Below.tr' BW1.out BW2.out)).mono BW.out.size)⟩
      · have hno : ∀ x ∈ Q, x.p ≠ y := fun x hx => by
          obtain ⟨i, hi, rfl⟩ := List.getElem_of_mem hx
          exact HA9.out i _ (by have := HQM.out; omega) (List.getElem?_eq_getElem hi)
        obtain ⟨f1, f2, -⟩ := HFN.out hno
        have RFW : Hid (wr.rangeAt Fb 0 (bv z32)) := by rw [← f1]; exact range_below RFb.out H9.out LFb.out
        subst f2
        clear hno f1
        go_wp2_with (first
          | (refine ld 23 (.tmp 12) rfl rfl Fb 0 rfl (bv z32) _ (RFW.out) Tryd.underlying23 rfl (size_l32 z32_l32) ?_)
          | (refine wp_build0g 23 rfl rfl _ (build_32 wr) ?_)
          | (refine wp_bin_run .eql 23 23 (.tmp 97) (.tmp 98) rfl rfl (.agg (bv z32).toArray) (.agg (bv z32).toArray) (.bool true) rfl rfl (eqg_32 _ _ _ _ _ wr) ((eql_32 z32_l32 z32_l32 wr).trans (by simp)) ?_))
        go_ret
        exact ⟨rfl, BW.out.trans (C9.out.mono BW.out.size)⟩
end Go.Proofs.YtoldkelnjjphiaaDoor
