/- Package grow: Relink. -/
import Derived.Test.YtpojalbpekbfdaaDoorGrpA
import Derived.Test.YtpojalbpekbfdaaDoorGrnG
import Derived.Test.YtpojalbpekbfdaaDoorTrrL
namespace Go.Proofs.YtpojalbpekbfdaaDoor
open Go Go.RowKit
set_option linter.unusedSimpArgs false
set_option linter.unusedVariables false
set_option maxRecDepth 100000

theorem built_lf {p q : List Int} (hp : L32 p) (hh : L32 q) : Tryd.prog.built 46 [(0, .agg (bv p).toArray), (1, .agg (bv q).toArray)] = some (lfc ⟨p, q⟩).toArray := by
  obtain ⟨a0, a1, a2, a3, a4, a5, a6, a7, a8, a9, a10, a11, a12, a13, a14, a15, a16, a17, a18, a19, a20, a21, a22, a23, a24, a25, a26, a27, a28, a29, a30, a31, rfl⟩ := list32 hp.len
  obtain ⟨b0, b1, b2, b3, b4, b5, b6, b7, b8, b9, b10, b11, b12, b13, b14, b15, b16, b17, b18, b19, b20, b21, b22, b23, b24, b25, b26, b27, b28, b29, b30, b31, rfl⟩ := list32 hh.len
  kernel_rfl
theorem build_lf2 {p q : List Int} (hp : L32 p) (hq : L32 q) (w : World) : (Instr.build 46 #[(0, .agg (bv p).toArray), (1, .agg (bv q).toArray)]).run Tryd.prog w = .ok (.agg (lfc ⟨p, q⟩).toArray) w := run_build w _ _ _ (built_lf hp hq)
theorem wp_build2 {P : Program} {ops : Array Oper} {rest : List Oper} {o : Oper} {a : Act} {w : World} {Q : Exit → Act → World → Prop} (t : TypeId) (x0 x1 : Operand) (ho : o.op = .build t #[(0, x0), (1, x1)]) (hgd : o.guard = none) (v0 v1 : Value) (h0 : a.eval x0 = v0) (h1 : a.eval x1 = v1) (cells : Array Value)
    (hr : (Instr.build t #[(0, v0), (1, v1)]).run P w = .ok (.agg cells) w) (h : wpList P ops Q rest (a.put o.dst (.agg cells)) w) : wpList P ops Q (o :: rest) a w := by
  refine wpList_plain hgd fun K hK => ?_
  unfold Oper.wp execOp
  simp only [ho, Sem.run_bind, List.map_toArray, List.map_cons, List.map_nil, h0, h1, hr, Result.andThen_ok, Sem.run_pure]
  exact hK _ _ h
theorem wp_applp {ops : Array Oper} {rest : List Oper} {o : Oper} {a : Act} {w : World} {Q : Exit → Act → World → Prop} (hgd : o.guard = none) (s x : Operand) (ho : o.op = .call { callee := .builtin .append, args := #[s, x], argTypes := #[22, 22] }) (hT : o.type = 22)
    (B : Nat) (c d u : Value) (lc ld : List Lf) (y : Lf) (hs : a.eval s = d) (hx : a.eval x = u) (h0 : Lp2 B w c d lc ld) (hy : y.Ok) (hu : LS w u [y]) (hlen : ld.length + 1 ≤ 3000000000000)
    (h : ∀ d' w', Lp2 B w' c d' lc (ld ++ [y]) → Below B w w' → w.grownBy w' d.ownBlock → wpList Tryd.prog ops Q rest (a.put o.dst d') w') : wpList Tryd.prog ops Q (o :: rest) a w := by
  obtain ⟨d', w', hr, h1, h2, h3⟩ := h0.push hy hu hlen
  exact wp_app_run hgd s x 22 ho 22 hT d u d' w' hs hx hr (h d' w' h1 h2 h3)
theorem take_mapk {α : Type} (f : Lk → α) {ls : List Lk} {k : Nat} {x : Lk} (h : ls[k]? = some x) : (ls.take (k + 1)).map f = (ls.take k).map f ++ [f x] := by
  rw [List.take_add_one, h]; simp
/-- What Relink gives, told by the roots of both sides. -/
def rkE (e1 e2 : Int) (bf R1 af R2 : List Int) : Int := if e1 = 0 ∧ e2 = 0 then smE bf R1 af R2 else 1
theorem ro_er {ls : List Lf} {R : List Int} {er : Int} (h : RO ls R er) : er = 0 ∨ er = 1 := by
  rcases h with ⟨_, _, h⟩ | ⟨_, _, h⟩
  · exact .inl h
  · exact .inr h
theorem LO.lower {B B' : Nat} {w : World} {v : Value} {l : List Lf} (h : LO B w v l) (hle : B' ≤ B) : LO B' w v l := by
  obtain ⟨⟨h1, h2⟩, h3, h4⟩ := h
  refine ⟨⟨h1, ?_⟩, h3, Nat.le_trans hle h4⟩
  rcases h2 with q | ⟨g, cap, cur, q1, q2, q3⟩
  · exact .inl q
  · exact .inr ⟨g, cap, cur, q1, Nat.le_trans hle q2, q3⟩
theorem own_ge {B : Nat} {w : World} {v : Value} {l : List Lf} (h : LO B w v l) {E : Nat} (hE : w.heap.size ≤ E) : v.ownBlock ≠ some E := fun e => by
  have := (h.1.lt E e).2
  omega
set_option maxHeartbeats 16000000 in
theorem Relink_any (bf af : List Int) (hbf : L32 bf) (haf : L32 af) (ls : List Lk) (hk : ∀ x ∈ ls, x.Ok) (hlen : ls.length ≤ 1500000000000) (R1 : List Int) (e1 : Int) (hR1 : RO (ls.map lko) R1 e1) (hL1 : L32 R1) (R2 : List Int) (e2 : Int) (hR2 : RO (ls.map lkn) R2 e2) (hL2 : L32 R2) (v : Value) (w : World) (hv : KS w v ls) (hT : Tb w) :
    Calls Tryd.prog 22 #[.agg (bv bf).toArray, .agg (bv af).toArray, v] w fun e w' => e = .returned (.int .i64 (rkE e1 e2 bf R1 af R2)) ∧ Below w.heap.size w w' := by
  have hz := zero_32
  rw [show List.replicate 32 (0 : Int) = z32 from rfl] at hz
  obtain ⟨Z, hZ⟩ : ∃ Z, (bv z32).toArray = Z := ⟨_, rfl⟩
  have HZS : Hid (Z.size = 32) := by show Z.size = 32; rw [← hZ]; simp [bv, z32]
  rw [hZ] at hz
  have hzk := zero_lk
  obtain ⟨Zk, hZk⟩ : ∃ Z, (lkc lkz).toArray = Z := ⟨_, rfl⟩
  have HZK : Hid (Zk.size = 96) := by show Zk.size = 96; rw [← hZk, List.size_toArray]; exact lkc_length lkz_ok
  rw [hZk] at hzk
  have sa : (bv bf).toArray.size = 32 := by rw [List.size_toArray, bv_length, hbf.len]
  have sb : (bv af).toArray.size = 32 := by rw [List.size_toArray, bv_length, haf.len]
  obtain ⟨U, hU⟩ : ∃ U, (w.alloc (.cells (bv bf).toArray 31)).alloc (.cells (bv af).toArray 31) = U := ⟨_, rfl⟩
  obtain ⟨q1, q2, q5, q6⟩ := box_two hU
  have HBF : Hid (L32 bf) := hbf
  have HAF : Hid (L32 af) := haf
  have BU : Hid (Below w.heap.size w U) := q5
  obtain ⟨D, hD⟩ : ∃ D, w.heap.size = D := ⟨_, rfl⟩
  have HD : Hid (w.heap.size = D) := hD
  rw [hD] at q1 q2 q6
  have RBF : Hid (U.rangeAt D 0 (bv bf)) := q1
  have RAF : Hid (U.rangeAt (D + 1) 0 (bv af)) := q2
  have LBF : Hid (D < U.heap.size) := by show _ < _; omega
  have LAF : Hid (D + 1 < U.heap.size) := by show _ < _; omega
  have TU : Hid (Tb U) := hT.below q5
  obtain ⟨ad, cap, rfl, hc, hx⟩ := hv
  have HXX : Hid (ls = [] ∧ (ad = none → cap = 0) ∨ ∃ b o, ad = some ⟨b, o, none⟩ ∧ b < w.heap.size ∧ ∀ (i : Nat) (x : Lk), ls[i]? = some x → w.rangeAt b (o + i * 96) (lkc x)) := hx
  have HK : Hid (∀ x ∈ ls, x.Ok) := hk
  obtain ⟨len, hln⟩ : ∃ len, ls.length = len := ⟨_, rfl⟩
  have HLN : Hid (ls.length = len) := hln
  have HLE : Hid (len ≤ 1500000000000) := by rw [← hln]; exact hlen
  rw [hln]
  have HR1L : Hid (L32 R1) := hL1
  have HR2L : Hid (L32 R2) := hL2
  have HRO1 : Hid (∀ (v : Value) (W : World), LS W v (ls.map lko) → Below U.heap.size U W → Calls Tryd.prog 41 #[v] W fun e w' => e = .returned (.tuple #[.agg (bv R1).toArray, .int .i64 e1]) ∧ Below W.heap.size W w') := fun v W q1 q2 => RootOf_any _ (fun y hy => by obtain ⟨x, hx, rfl⟩ := List.mem_map.1 hy; exact lko_ok (hk x hx)) (by rw [List.length_map]; omega) R1 e1 hR1 v W q1 (TU.out.below q2)
  have HRO2 : Hid (∀ (v : Value) (W : World), LS W v (ls.map lkn) → Below U.heap.size U W → Calls Tryd.prog 41 #[v] W fun e w' => e = .returned (.tuple #[.agg (bv R2).toArray, .int .i64 e2]) ∧ Below W.heap.size W w') := fun v W q1 q2 => RootOf_any _ (fun y hy => by obtain ⟨x, hx, rfl⟩ := List.mem_map.1 hy; exact lkn_ok (hk x hx)) (by rw [List.length_map]; omega) R2 e2 hR2 v W q1 (TU.out.below q2)
  have HSM : Hid (∀ W : World, Calls Tryd.prog 31 #[.agg (bv bf).toArray, .agg (bv R1).toArray, .agg (bv af).toArray, .agg (bv R2).toArray] W fun e w' => e = .returned (.int .i64 (smE bf R1 af R2)) ∧ Below W.heap.size W w') := fun W => same_any bf R1 af R2 hbf hL1 haf hL2 W
  have hE1 := ro_er hR1
  have hE2 := ro_er hR2
  obtain ⟨w1, hmk1, mk1, mk2⟩ := make_lown U len (by have := HLE.out; omega)
  obtain ⟨w2, hmk2, mk3, mk4⟩ := make_lown w1 len (by have := HLE.out; omega)
  have hlt1 : U.heap.size < w1.heap.size := (mk1.1.lt _ rfl).2
  have MK : Hid (Lp2 U.heap.size w2 (.slice (some ⟨U.heap.size, 0, none⟩) 0 len) (.slice (some ⟨w1.heap.size, 0, none⟩) 0 len) [] []) := ⟨mk1.below mk4, mk3.lower (Nat.le_of_lt hlt1), .inr (fun e => by simp [Value.ownBlock] at e; omega)⟩
  have MB : Hid (Below U.heap.size U w2) := Below.tr' mk2 mk4
  obtain ⟨Aa, hAa⟩ : ∃ A, (bv bf).toArray = A := ⟨_, rfl⟩
  obtain ⟨Ab, hAb⟩ : ∃ A, (bv af).toArray = A := ⟨_, rfl⟩
  rw [hAa] at sa hU ⊢
  rw [hAb] at sb hU ⊢
  clear q1 q2 q5 q6 hbf haf hk hlen hZ hZk hT hAa hAb hR1 hR2 hL1 hL2 hx hc hln mk1 mk2 mk3 mk4 hlt1
  go_enter Tryd.func22, Tryd.ntmps22
  go_upto_region 1 with (fail)
  try rw [hU]
  try rw [hD]
  clear hU hD sa sb
  go_wp2_with fail
  go_loopw [7, 8, 22] (fun a c i wr => ∃ k : Nat, k ≤ len ∧ i = .int .i64 (k : Int) ∧ Lp2 U.heap.size wr a c ((ls.take k).map lko) ((ls.take k).map lkn) ∧ Below U.heap.size U wr) (fun _ _ i _ => len - (intOf i).toNat)
  case atStart => exact ⟨0, Nat.zero_le _, rfl, MK.out, MB.out⟩
  case round =>
    obtain ⟨k, hkl, rfl, hlp, h4⟩ := hrel
    have H4 : Hid (Below U.heap.size U wr) := h4
    have HLP : Hid (Lp2 U.heap.size wr u7 u8 ((ls.take k).map lko) ((ls.take k).map lkn)) := hlp
    clear h4 hlp
    by_cases hlt : k < len
    · rcases HXX.out with ⟨h0, _⟩ | ⟨b, o, rfl, hlb, hm⟩
      · have := HLN.out; rw [h0] at this; simp at this; omega
      · obtain ⟨x, hx⟩ : ∃ x, ls[k]? = some x := ⟨ls[k]'(by have := HLN.out; omega), List.getElem?_eq_getElem _⟩
        have HX : Hid x.Ok := HK.out x (List.mem_of_getElem? hx)
        have HT1 : Hid ((ls.take (k + 1)).map lko = (ls.take k).map lko ++ [lko x]) := take_mapk lko hx
        have HT2 : Hid ((ls.take (k + 1)).map lkn = (ls.take k).map lkn ++ [lkn x]) := take_mapk lkn hx
        have C4 : Hid (Below w.heap.size w wr) := Below.tr' BU.out H4.out
        have HRX : Hid (wr.rangeAt b (o + k * 96) (lkc x)) := range_below (hm k x hx) C4.out hlb
        have HL1 : Hid (((ls.take k).map lko).length = k) := by show _ = _; rw [List.length_map, List.length_take]; have := HLN.out; omega
        have HL2 : Hid (((ls.take k).map lkn).length = k) := by show _ = _; rw [List.length_map, List.length_take]; have := HLN.out; omega
        obtain ⟨La, hLa⟩ : ∃ L, (ls.take k).map lko = L := ⟨_, rfl⟩
        obtain ⟨Lb, hLb⟩ : ∃ L, (ls.take k).map lkn = L := ⟨_, rfl⟩
        rw [hLa] at HT1 HLP HL1
        rw [hLb] at HT2 HLP HL2
        obtain ⟨y1, hy1⟩ : ∃ y, lko x = y := ⟨_, rfl⟩
        obtain ⟨y2, hy2⟩ : ∃ y, lkn x = y := ⟨_, rfl⟩
        rw [hy1] at HT1
        rw [hy2] at HT2
        have HY1 : Hid y1.Ok := by rw [← hy1]; exact lko_ok HX.out
        have HY2 : Hid y2.Ok := by rw [← hy2]; exact lkn_ok HX.out
        obtain ⟨xo, xn, xq, hxo, hxn, hxq⟩ : ∃ a b c, x.o = a ∧ x.n = b ∧ x.q = c := ⟨_, _, _, rfl, rfl, rfl⟩
        have HXO : Hid (L32 xo) := by rw [← hxo]; exact HX.out.o
        have HXN : Hid (L32 xn) := by rw [← hxn]; exact HX.out.n
        have HXQ : Hid (L32 xq) := by rw [← hxq]; exact HX.out.q
        have HB1 : Hid (∀ W : World, (Instr.build 46 #[(0, .agg (bv xo).toArray), (1, .agg (bv xq).toArray)]).run Tryd.prog W = .ok (.agg (lfc y1).toArray) W) := fun W => by rw [← hy1, ← hxo, ← hxq]; exact build_lf2 HX.out.o HX.out.q W
        have HB2 : Hid (∀ W : World, (Instr.build 46 #[(0, .agg (bv xn).toArray), (1, .agg (bv xq).toArray)]).run Tryd.prog W = .ok (.agg (lfc y2).toArray) W) := fun W => by rw [← hy2, ← hxn, ← hxq]; exact build_lf2 HX.out.n HX.out.q W
        have HRG : Hid (∀ (W : World) (B O : Nat), W.rangeAt B O (lkc x) → W.rangeAt B O (bv xo) ∧ W.rangeAt B (O + 32) (bv xn) ∧ W.rangeAt B (O + 64) (bv xq)) := fun W B O q => by rw [← hxo, ← hxn, ← hxq]; exact range_lk HX.out q
        obtain ⟨X, hX⟩ : ∃ X, (lkc x).toArray = X := ⟨_, rfl⟩
        have HXA : Hid ((lkc x).toArray = X) := hX
        have hl2 := HLE.out
        clear hm hlb hx hy1 hy2 hLa hLb hxo hxn hxq hmk1 hmk2
        go_upto_region 6 with (first
          | (refine load_g rfl 49 (.tmp 24) rfl b (o + k * 96) rfl (lkc x) _ HRX.out Tryd.underlying49 rfl (size_lkc HX.out) ?_; rw [hX])
          | (refine wpList_store_mid rfl 49 (.tmp 10) (.tmp 25) rfl wr.heap.size 0 (lkc x).toArray rfl (by rw [HXA.out]; rfl) (there_new wr (by rw [List.size_toArray, lkc_length HX.out, HZK.out])) (by rw [List.size_toArray]; exact size_lkc HX.out) (lkc_one x) ?_; simp only [List.toList_toArray]))
        obtain ⟨U2, hU2⟩ : ∃ U2, (wr.alloc (.cells Zk 49)).setCells wr.heap.size 0 (lkc x) = U2 := ⟨_, rfl⟩
        rw [hU2]
        obtain ⟨r1, r2, r3⟩ := laid_row (by rw [lkc_length HX.out, HZK.out]) (by rw [lkc_length HX.out]; omega) hU2
        obtain ⟨E, hE⟩ : ∃ E, wr.heap.size = E := ⟨_, rfl⟩
        have HEW : Hid (wr.heap.size ≤ E) := by show _ ≤ _; omega
        rw [hE] at r1 r3 ⊢
        have RE : Hid (U2.rangeAt E 0 (lkc x)) := r1
        have LE : Hid (E < U2.heap.size) := r3
        have CU : Hid (Below U.heap.size U U2) := Below.tr' H4.out r2
        have PU : Hid (Lp2 U.heap.size U2 u7 u8 La Lb) := HLP.out.below r2
        have O7 : Hid (u7.ownBlock ≠ some E) := own_ge HLP.out.ra HEW.out
        clear r1 r2 r3 hU2 hX hE
        obtain ⟨s1, s2, s3⟩ := HRG.out U2 E 0 RE.out
        have S1 : Hid (U2.rangeAt E 0 (bv xo)) := s1
        have S3 : Hid (U2.rangeAt E (0 + 64) (bv xq)) := s3
        clear s1 s2 s3
        go_upto_region 7 with (first
          | (refine ld 31 (.tmp 27) rfl rfl E 0 rfl (bv xo) _ S1.out Tryd.underlying31 rfl (size_l32 HXO.out) ?_)
          | (refine ld 31 (.tmp 29) rfl rfl E (0 + 64) rfl (bv xq) _ S3.out Tryd.underlying31 rfl (size_l32 HXQ.out) ?_)
          | (refine wp_build2 46 (.tmp 28) (.tmp 30) rfl rfl (.agg (bv xo).toArray) (.agg (bv xq).toArray) rfl rfl (lfc y1).toArray (HB1.out U2) ?_)
          | (refine wpList_onel rfl (.tmp 31) rfl y1 HY1.out rfl ?_)
          | (at_builtin; refine wp_applp rfl (.tmp 26) (.tmp 32) rfl rfl U.heap.size u8 u7 (.slice (some ⟨U2.heap.size, 0, none⟩) 1 1) Lb La y1 rfl rfl (PU.out.swap.alloc _) HY1.out (ls_one U2 y1 _) (by have h1 := HL1.out; have h2 := HLE.out; omega) ?_; intro v3 w3 g1 g2 g3; have P3 : Hid (Lp2 U.heap.size w3 v3 u8 (La ++ [y1]) Lb) := g1.swap; have C3 : Hid (Below U.heap.size U w3) := (CU.out.alloc CU.out.size _).trans g2; have R3 : Hid (w3.rangeAt E 0 (lkc x)) := range_keep (rng_al RE.out LE.out _) (g3.block E (by have := LE.out; simp; omega) (fun e => O7.out e.symm)); clear g1 g2 g3))
        obtain ⟨s1, s2, s3⟩ := HRG.out w3 E 0 R3.out
        have S2 : Hid (w3.rangeAt E (0 + 32) (bv xn)) := s2
        have S4 : Hid (w3.rangeAt E (0 + 64) (bv xq)) := s3
        clear s1 s2 s3
        go_wp2_with (first
          | (refine ld 31 (.tmp 35) rfl rfl E (0 + 32) rfl (bv xn) _ S2.out Tryd.underlying31 rfl (size_l32 HXN.out) ?_)
          | (refine ld 31 (.tmp 37) rfl rfl E (0 + 64) rfl (bv xq) _ S4.out Tryd.underlying31 rfl (size_l32 HXQ.out) ?_)
          | (refine wp_build2 46 (.tmp 36) (.tmp 38) rfl rfl (.agg (bv xn).toArray) (.agg (bv xq).toArray) rfl rfl (lfc y2).toArray (HB2.out w3) ?_)
          | (refine wpList_onel rfl (.tmp 39) rfl y2 HY2.out rfl ?_)
          | (at_builtin; refine wp_applp rfl (.tmp 34) (.tmp 40) rfl rfl U.heap.size v3 u8 (.slice (some ⟨w3.heap.size, 0, none⟩) 1 1) (La ++ [y1]) Lb y2 rfl rfl (P3.out.alloc _) HY2.out (ls_one w3 y2 _) (by have h1 := HL2.out; have h2 := HLE.out; omega) ?_; intro v4 w4 g1 g2 g3; have P4 : Hid (Lp2 U.heap.size w4 v3 v4 (La ++ [y1]) (Lb ++ [y2])) := g1; have C9 : Hid (Below U.heap.size U w4) := (C3.out.alloc C3.out.size _).trans g2; clear g1 g2 g3))
        exact ⟨⟨k + 1, by omega, by go_num, by rw [HT1.out, HT2.out]; exact P4.out, C9.out⟩, by simp [intOf]; omega⟩
    · obtain rfl : k = len := by omega
      have HTA : Hid (ls.take k = ls) := by show _ = _; rw [← HLN.out, List.take_length]
      have P9 : Hid (Lp2 U.heap.size wr u7 u8 (ls.map lko) (ls.map lkn)) := by have := HLP.out; rw [HTA.out] at this; exact this
      have N1 : Hid (LS wr u7 (ls.map lko)) := P9.out.ra.ls
      have N2 : Hid (LS wr u8 (ls.map lkn)) := P9.out.rc.ls
      clear hmk1 hmk2 hzk
      go_upto_region 10 with (first
        | (go_at_call 41; refine (HRO1.out u7 wr N1.out H4.out).mono ?_; rintro e w3 ⟨rfl, g1⟩; have C3 : Hid (Below U.heap.size U w3) := Below.tr' H4.out g1; have G3 : Hid (Below wr.heap.size wr w3) := g1; clear g1)
        | (refine wpList_store_mid rfl 31 (.tmp 11) (.tmp 46) rfl w3.heap.size 0 (bv R1).toArray rfl rfl (there_new w3 (by rw [List.size_toArray, bv_length, HR1L.out.len, HZS.out])) (by rw [List.size_toArray]; exact size_l32 HR1L.out) (bv_one' _) ?_; simp only [List.toList_toArray]))
      obtain ⟨a1, ha1⟩ : ∃ a9, (w3.alloc (.cells Z 31)).setCells w3.heap.size 0 (bv R1) = a9 := ⟨_, rfl⟩
      rw [ha1]
      obtain ⟨r1, r2, r3⟩ := laid_row (by rw [bv_length, HR1L.out.len, HZS.out]) (by rw [bv_length, HR1L.out.len]; omega) ha1
      obtain ⟨b11, hb11⟩ : ∃ q, w3.heap.size = q := ⟨_, rfl⟩
      rw [hb11] at r1 r3 ⊢
      have R11 : Hid (a1.rangeAt b11 0 (bv R1)) := r1
      have G1 : Hid (Below wr.heap.size wr a1) := Below.tr' G3.out r2
      have Ca : Hid (Below U.heap.size U a1) := Below.tr' C3.out r2
      have L11 : Hid (b11 < a1.heap.size) := r3
      have N2a : Hid (LS a1 u8 (ls.map lkn)) := N2.out.below G1.out
      clear r1 r2 r3 ha1 hb11
      rcases hE1 with rfl | rfl
      · go_upto_region 13 with (first
          | (go_at_call 41; refine (HRO2.out u8 a1 N2a.out Ca.out).mono ?_; rintro e w4 ⟨rfl, g1⟩; have G4 : Hid (Below a1.heap.size a1 w4) := g1; clear g1)
          | (refine wpList_store_mid rfl 31 (.tmp 13) (.tmp 54) rfl w4.heap.size 0 (bv R2).toArray rfl rfl (there_new w4 (by rw [List.size_toArray, bv_length, HR2L.out.len, HZS.out])) (by rw [List.size_toArray]; exact size_l32 HR2L.out) (bv_one' _) ?_; simp only [List.toList_toArray]))
        obtain ⟨a4, ha4⟩ : ∃ a9, (w4.alloc (.cells Z 31)).setCells w4.heap.size 0 (bv R2) = a9 := ⟨_, rfl⟩
        rw [ha4]
        obtain ⟨r1, r2, r3⟩ := laid_row (by rw [bv_length, HR2L.out.len, HZS.out]) (by rw [bv_length, HR2L.out.len]; omega) ha4
        obtain ⟨b13, hb13⟩ : ∃ q, w4.heap.size = q := ⟨_, rfl⟩
        rw [hb13] at r1 r3 ⊢
        have R13 : Hid (a4.rangeAt b13 0 (bv R2)) := r1
        have G5 : Hid (Below a1.heap.size a1 a4) := Below.tr' G4.out r2
        have Cb : Hid (Below U.heap.size U a4) := Below.tr' Ca.out G5.out
        clear r1 r2 r3 ha4 hb13 hz
        rcases hE2 with rfl | rfl
        · have X1 : Hid (a4.rangeAt D 0 (bv bf)) := range_below RBF.out Cb.out LBF.out
          have X2 : Hid (a4.rangeAt (D + 1) 0 (bv af)) := range_below RAF.out Cb.out LAF.out
          have X3 : Hid (a4.rangeAt b11 0 (bv R1)) := range_below R11.out G5.out L11.out
          go_wp2_with (first
            | (refine ld 31 (.tmp 3) rfl rfl D 0 rfl (bv bf) _ X1.out Tryd.underlying31 rfl (size_l32 HBF.out) ?_)
            | (refine ld 31 (.tmp 11) rfl rfl b11 0 rfl (bv R1) _ X3.out Tryd.underlying31 rfl (size_l32 HR1L.out) ?_)
            | (refine ld 31 (.tmp 4) rfl rfl (D + 1) 0 rfl (bv af) _ X2.out Tryd.underlying31 rfl (size_l32 HAF.out) ?_)
            | (refine ld 31 (.tmp 13) rfl rfl b13 0 rfl (bv R2) _ R13.out Tryd.underlying31 rfl (size_l32 HR2L.out) ?_)
            | (go_at_call 31; refine (HSM.out a4).mono ?_; rintro e w9 ⟨rfl, g1⟩; have C9 : Hid (Below U.heap.size U w9) := Below.tr' Cb.out g1; clear g1))
          go_ret
          exact ⟨by unfold rkE; rw [if_pos ⟨rfl, rfl⟩]; rfl, Below.tr' BU.out C9.out⟩
        · go_wp2_with fail
          go_ret
          exact ⟨by unfold rkE; rw [if_neg (by decide)]; rfl, Below.tr' BU.out Cb.out⟩
      · clear hz
        go_wp2_with fail
        go_ret
        exact ⟨by unfold rkE; rw [if_neg (by rintro ⟨h, _⟩; exact absurd h (by decide))]; rfl, Below.tr' BU.out Ca.out⟩
end Go.Proofs.YtpojalbpekbfdaaDoor
