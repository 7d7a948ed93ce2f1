/- The reference: Root, Over. -/
import Derived.Test.YtpojalbpekbfdabDoorTrrK
import Derived.Test.YtpojalbpekbfdabDoorTroA
import Derived.Test.YtpojalbpekbfdabDoorTrlA
import Derived.Test.YtpojalbpekbfdabDoorTrdA
import Derived.Test.YtpojalbpekbfdabDoorGrnG
import Derived.Test.YtpojalbpekbfdabDoorTraB
namespace Go.Proofs.YtpojalbpekbfdabDoor
open Go Go.RowKit
set_option linter.unusedSimpArgs false
set_option linter.unusedVariables false
set_option maxRecDepth 100000

end Go.Proofs.YtpojalbpekbfdabDoor
/- RootOf of the package and of the reference. -/
namespace Go.Proofs.YtpojalbpekbfdabDoor
open Go Go.RowKit
set_option linter.unusedSimpArgs false
set_option linter.unusedVariables false
set_option maxRecDepth 100000

/-- The root of leaves. -/
def RO (ls : List Lf) (R : List Int) (er : Int) : Prop := (okl ls ∧ R = rt (so ls) ∧ er = 0) ∨ (¬ okl ls ∧ R = z32 ∧ er = 1)
theorem ro_some (ls : List Lf) : ∃ R er, RO ls R er ∧ L32 R := by
  by_cases h : okl ls
  · exact ⟨_, _, .inl ⟨h, rfl, rfl⟩, rt_l32 _⟩
  · exact ⟨_, _, .inr ⟨h, rfl, rfl⟩, z32_l32⟩
end Go.Proofs.YtpojalbpekbfdabDoor
/- Leaves turned about: copies of the call's own; the root does not hang on the order. -/
namespace Go.Proofs.YtpojalbpekbfdabDoor
open Go Go.RowKit
set_option linter.unusedSimpArgs false
set_option linter.unusedVariables false
set_option maxRecDepth 100000

theorem ro_perm {ls ms : List Lf} (hp : ms.Perm ls) (hk : ∀ x ∈ ls, x.Ok) {R : List Int} {er : Int} (h : RO ls R er) : RO ms R er := by
  have hk2 : ∀ x ∈ ms, x.Ok := fun x hx => hk x (hp.mem_iff.1 hx)
  have hm : (ms.map ln).Perm (ls.map ln) := hp.map _
  rcases h with ⟨ho, rfl, rfl⟩ | ⟨ho, rfl, rfl⟩
  · obtain ⟨h1, h2⟩ := so_spec ho
    obtain ⟨o2, e2⟩ := so_uniq hk2 (h1.trans hm.symm) h2
    exact .inl ⟨o2, by rw [e2], rfl⟩
  · exact .inr ⟨fun ⟨s, q1, q2⟩ => ho ⟨s, q1.trans hm, q2⟩, rfl, rfl⟩
theorem lit_ownl (w : World) : LO w.heap.size (w.alloc (.cells #[] 27)) (.slice (some ⟨w.heap.size, 0, none⟩) 0 0) [] := by
  have hh : (w.alloc (.cells #[] 27)).heap[w.heap.size]? = some (.cells #[] 27 (0, 0)) := by show (w.heap.push _)[w.heap.size]? = _; simp
  exact ⟨⟨rfl, .inr ⟨w.heap.size, 0, _, rfl, Nat.le_refl _, hh, Nat.le_refl _, by unfold maxLen; omega, rfl, rfl⟩⟩, (fun x hx => by cases hx), by simp⟩
set_option maxHeartbeats 1000000 in
theorem copyLeaves_own (l : List Lf) (hk : ∀ x ∈ l, x.Ok) (hlen : l.length ≤ 3000000000000) (v : Value) (w : World) (hv : LS w v l) :
    Calls Tryd.prog 5 #[v] w fun e w' => ∃ v', e = .returned v' ∧ LO w.heap.size w' v' l ∧ Below w.heap.size w w' := by
  have hl := lit_nol w
  have hb0 : Below w.heap.size w (w.alloc (.cells #[] 27)) := (Below.refl _ w).alloc (Nat.le_refl _) _
  obtain ⟨v', w', hr, h1, h2, -⟩ := app_lown (lit_ownl w) hk (hv.below hb0) (by simpa using hlen)
  have H1 : Hid (LO w.heap.size w' v' l) := h1
  have H2 : Hid (Below w.heap.size w w') := hb0.trans h2
  obtain ⟨ad, cap, rfl, -, -⟩ := hv
  obtain ⟨n, hn⟩ : ∃ n, l.length = n := ⟨_, rfl⟩
  rw [hn] at hr ⊢
  have HR : Hid ((Builtin.append_ #[22, 22] 22 #[.slice (some ⟨w.heap.size, 0, none⟩) 0 0, .slice ad n cap]).run Tryd.prog (w.alloc (.cells #[] 27)) = .ok v' w') := hr
  clear hk hlen h1 h2 hn hr hb0
  go_enter Tryd.func5, Tryd.ntmps5
  go_wp2_with (at_builtin; refine wp_app_run rfl (.tmp 3) (.tmp 4) 22 rfl 22 rfl (.slice (some ⟨w.heap.size, 0, none⟩) 0 0) (.slice ad n cap) v' w' rfl rfl HR.out ?_)
  go_ret
  exact ⟨_, rfl, H1.out, H2.out⟩
/-- The first k of a list from behind, the others as they were. -/
def trn (ls : List Lf) (k : Nat) : List Lf := ls.reverse.take k ++ ls.drop k
theorem trn_len (ls : List Lf) {k : Nat} (hk : k ≤ ls.length) : (trn ls k).length = ls.length := by simp [trn]; omega
theorem trn_step {ls : List Lf} {k : Nat} (hk : k < ls.length) {x : Lf} (hx : ls[ls.length - 1 - k]? = some x) : (trn ls k).take k ++ [x] ++ (trn ls k).drop (k + [x].length) = trn ls (k + 1) := by
  have h1 : (ls.reverse.take k).length = k := by simp; omega
  have hr : ls.reverse[k]? = some x := by rw [List.getElem?_reverse (by omega)]; exact hx
  unfold trn
  rw [List.take_append_of_le_length (by omega), List.take_take, Nat.min_self]
  rw [List.drop_append, List.drop_of_length_le (by rw [h1]; omega), h1, List.nil_append, List.drop_drop]
  obtain ⟨q1, q2⟩ := List.getElem?_eq_some_iff.1 hr
  rw [List.take_succ_eq_append_getElem q1, q2]
  congr 2
  simp
theorem trn_all (ls : List Lf) : trn ls ls.length = ls.reverse := by unfold trn; rw [List.drop_length, List.append_nil, List.take_of_length_le (by simp)]
/-- Two of a list put in each other's place. -/
theorem swap_perm {l : List Lf} {k : Nat} {a b : Lf} (ha : l[0]? = some a) (hb : l[k]? = some b) : ((l.set 0 b).set k a).Perm l := by
  obtain ⟨h1, rfl⟩ := List.getElem?_eq_some_iff.1 ha
  obtain ⟨h2, rfl⟩ := List.getElem?_eq_some_iff.1 hb
  exact List.set_set_perm h1 h2
theorem set_take {l : List Lf} {i : Nat} (hi : i < l.length) (x : Lf) : l.take i ++ [x] ++ l.drop (i + [x].length) = l.set i x := by
  rw [List.set_eq_take_append_cons_drop, if_pos hi]; simp
end Go.Proofs.YtpojalbpekbfdabDoor
/- The reference's Stays. -/
namespace Go.Proofs.YtpojalbpekbfdabDoor
open Go Go.RowKit
set_option linter.unusedSimpArgs false
set_option linter.unusedVariables false
set_option maxRecDepth 100000

/-- Both readings of what stays are one. -/
theorem sty_wo {ls ms : List Lf} (hk : ∀ x ∈ ls ++ ms, x.Ok) (h : okl (ls ++ ms)) (g : Nat) (hg : (so ls).length ≤ g) : wo (fun n => (ms.map (·.p)).any (fun y => hl n y)) false g (so ls) = sty ls ms := by
  obtain ⟨o1, o2, o3⟩ := okl_left hk h
  have hk1 : ∀ x ∈ ls, x.Ok := fun x hx => hk x (List.mem_append_left _ hx)
  have hk2 : ∀ x ∈ ms, x.Ok := fun x hx => hk x (List.mem_append_right _ hx)
  have e : (fun n : Nd => (ms.map (·.p)).any (fun y => hl n y)) = anyH (so ms) := by
    funext n
    unfold anyH
    have hp := (so_spec o2).1
    rw [List.any_map]
    have : (so ms).any (fun z => hl n z.p) = (ms.map ln).any (fun z => hl n z.p) := by
      rw [Bool.eq_iff_iff, List.any_eq_true, List.any_eq_true]
      exact ⟨fun ⟨x, q1, q2⟩ => ⟨x, hp.mem_iff.1 q1, q2⟩, fun ⟨x, q1, q2⟩ => ⟨x, hp.mem_iff.2 q1, q2⟩⟩
    rw [this, List.any_map]; rfl
  rw [e]
  exact (st_wo 256 0 (so ls) (so ms) g rfl (so_apn hk1 o1) (so_apn hk2 o2) (fun x hx => (map_ok hk1 (so_spec o1).1 x hx).2.2) (fun x _ z _ => shr_zero _ _) (so_dis o1 o2 o3) hg).symm
def RSo (ls ms : List Lf) (v' : Value) (er : Int) (w' : World) : Prop := (okl (ls ++ ms) ∧ er = 0 ∧ NS w' v' (sty ls ms)) ∨ (¬ okl (ls ++ ms) ∧ er = 1 ∧ v' = .slice none 0 0)
theorem take_p {ms : List Lf} {k : Nat} {x : Lf} (hx : ms[k]? = some x) : (ms.take (k + 1)).map (·.p) = (ms.take k).map (·.p) ++ [x.p] := by
  rw [List.take_add_one, hx]; simp
set_option maxHeartbeats 4000000 in
theorem rStays_any (ls ms : List Lf) (hk : ∀ x ∈ ls ++ ms, x.Ok) (hlen : ls.length + ms.length ≤ 1400000000000) (v u : Value) (w : World) (hv : LS w v ls) (hu : LS w u ms) :
    Calls Tryd.prog 7 #[v, u] w fun e w' => ∃ v' er, e = .returned (.tuple #[v', .int .i64 er]) ∧ RSo ls ms v' er w' ∧ Below w.heap.size w w' := by
  have hk1 : ∀ x ∈ ls, x.Ok := fun x hx => hk x (List.mem_append_left _ hx)
  have hk2 : ∀ x ∈ ms, x.Ok := fun x hx => hk x (List.mem_append_right _ hx)
  have HK : Hid (∀ x ∈ ls ++ ms, x.Ok) := hk
  have HK1 : Hid (∀ x ∈ ls, x.Ok) := hk1
  have HK2 : Hid (∀ x ∈ ms, x.Ok) := hk2
  have VW : Hid (LS w v ls) := hv
  have VU : Hid (LS w u ms) := hu
  have HLN : Hid (ls.length + ms.length ≤ 1400000000000) := hlen
  have hb0 : Below w.heap.size w (w.alloc (.cells #[] 27)) := (Below.refl _ w).alloc (Nat.le_refl _) _
  obtain ⟨v1, w1, hr1, h1, h2, -⟩ := app_lown (lit_ownl w) hk1 (hv.below hb0) (by simp; omega)
  rw [List.nil_append] at h1
  have b1 : Below w.heap.size w w1 := hb0.trans h2
  obtain ⟨v2, w2, hr2, h3, h4, -⟩ := app_lown h1 hk2 (hu.below b1) (by omega)
  have N2 : Hid (LS w2 v2 (ls ++ ms)) := h3.ls
  have B2 : Hid (Below w.heap.size w w2) := b1.trans h4
  obtain ⟨ad, cap, hv0, hc0, hx0⟩ := id hv
  obtain ⟨au, cu, hu0, hcu0, hxu⟩ := id hu
  obtain ⟨n, hn⟩ : ∃ n, ls.length = n := ⟨_, rfl⟩
  obtain ⟨m, hm⟩ : ∃ n, ms.length = n := ⟨_, rfl⟩
  have HM : Hid (ms.length = m) := hm
  rw [hn] at hv0
  rw [hm] at hu0
  subst hv0
  subst hu0
  have HXU : Hid ((ms = [] ∧ (au = none → cu = 0)) ∨ ∃ b o, au = some ⟨b, o, none⟩ ∧ b < w.heap.size ∧ ∀ (i : Nat) (x : Lf), ms[i]? = some x → w.rangeAt b (o + i * 64) (lfc x)) := hxu
  have HR1 : Hid ((Builtin.append_ #[22, 22] 22 #[.slice (some ⟨w.heap.size, 0, none⟩) 0 0, .slice ad n cap]).run Tryd.prog (w.alloc (.cells #[] 27)) = .ok v1 w1) := hr1
  have HR2 : Hid ((Builtin.append_ #[22, 22] 22 #[v1, .slice au m cu]).run Tryd.prog w1 = .ok v2 w2) := hr2
  have hm9 : m ≤ 1400000000000 := by omega
  clear hk hk1 hk2 hlen hv hu hb0 hr1 h1 h2 b1 hr2 h3 h4 hc0 hx0 hcu0 hxu hn hm
  by_cases ho : okl (ls ++ ms)
  · have HO : Hid (okl (ls ++ ms)) := ho
    obtain ⟨o1, o2, o3⟩ := okl_left HK.out ho
    have HN1 : Hid (Calls Tryd.prog 14 #[v2] w2 fun e w' => ∃ v', e = .returned (.tuple #[v', .bool true]) ∧ NS w' v' (so (ls ++ ms)) ∧ Below w2.heap.size w2 w') := rNodes_yes (ls ++ ms) HK.out (by rw [List.length_append]; have := HLN.out; omega) ho v2 w2 N2.out
    have HN2 : Hid (∀ W : World, Below w.heap.size w W → Calls Tryd.prog 14 #[.slice ad n cap] W fun e w' => ∃ v', e = .returned (.tuple #[v', .bool true]) ∧ NS w' v' (so ls) ∧ Below W.heap.size W w') := fun W q => rNodes_yes ls HK1.out (by have := HLN.out; omega) o1 _ W (VW.out.below q)
    have HWO : Hid (∀ (nv yv : Value) (W : World), NS W nv (so ls) → YS W yv (ms.map (·.p)) → Calls Tryd.prog 15 #[nv, yv, .bool false] W fun e w' => ∃ v', e = .returned v' ∧ NS w' v' (sty ls ms) ∧ Below W.heap.size W w') := fun nv yv W q1 q2 => by
      have := rWithout_any (ms.map (·.p)) (fun y hy => by obtain ⟨x, hx, rfl⟩ := List.mem_map.1 hy; exact (HK2.out x hx).p) (by rw [List.length_map]; have := HLN.out; omega) false _ (so ls) (Nat.le_refl _) (so_rsn HK1.out o1) (by rw [so_len o1]; have := HLN.out; omega) nv yv W q1 q2
      rw [sty_wo HK.out ho _ (by omega)] at this
      exact this
    clear ho o1 o2 o3
    go_enter Tryd.func7, Tryd.ntmps7
    go_upto_region 2 with (first
      | (at_builtin; refine wp_app_run rfl (.tmp 13) (.tmp 14) 22 rfl 22 rfl _ _ v1 w1 rfl rfl HR1.out ?_)
      | (at_builtin; refine wp_app_run rfl (.tmp 15) (.tmp 16) 22 rfl 22 rfl _ _ v2 w2 rfl rfl HR2.out ?_)
      | (go_at_call 14; refine HN1.out.mono ?_; rintro e w3 ⟨v3, rfl, g1, g2⟩; have B3 : Hid (Below w.heap.size w w3) := Below.tr' B2.out g2; clear g1 g2))
    go_wp2_with (go_at_call 14; refine (HN2.out w3 B3.out).mono ?_; rintro e w4 ⟨v4, rfl, g1, g2⟩; have N4 : Hid (NS w4 v4 (so ls)) := g1; have B4 : Hid (Below w.heap.size w w4) := Below.tr' B3.out g2; clear g1 g2)
    go_loopw [10, 30] (fun yv i wr => ∃ k : Nat, k ≤ m ∧ i = .int .i64 (k : Int) ∧ YO w4.heap.size wr yv ((ms.take k).map (·.p)) ∧ Below w4.heap.size w4 wr) (fun _ i _ => m - (intOf i).toNat)
    case atStart => exact ⟨0, Nat.zero_le _, rfl, YO.nil' (Nat.le_refl _), Below.refl _ _⟩
    case round =>
      obtain ⟨k, hkm, rfl, q1, q2⟩ := hrel
      have O5 : Hid (YO w4.heap.size wr u10 ((ms.take k).map (·.p))) := q1
      have G5 : Hid (Below w4.heap.size w4 wr) := q2
      clear q1 q2
      by_cases hlt : k < m
      · have HLT : Hid (k < m) := hlt
        obtain ⟨x, hx⟩ : ∃ x, ms[k]? = some x := ⟨ms[k]'(by rw [HM.out]; exact hlt), List.getElem?_eq_getElem _⟩
        have HX : Hid x.Ok := HK2.out x (List.mem_of_getElem? hx)
        rcases HXU.out with ⟨h0, _⟩ | ⟨b, o, rfl, hlb, hmm⟩
        · rw [h0] at hx; simp at hx
        · have RX : Hid (wr.rangeAt b (o + k * 64) (bv x.p)) := lf_p (range_below (hmm k x hx) (Below.tr' B4.out G5.out) hlb)
          obtain ⟨px, hpx⟩ : ∃ p, x.p = p := ⟨_, rfl⟩
          have HP : Hid (L32 px) := by rw [← hpx]; exact HX.out.p
          have HTP : Hid ((ms.take (k + 1)).map (·.p) = (ms.take k).map (·.p) ++ [px]) := by rw [← hpx]; exact take_p hx
          rw [hpx] at RX
          have HSZ : Hid (((ms.take k).map (·.p)).length + [px].length ≤ 4400000000000) := by show _ ≤ _; rw [List.length_map, List.length_take]; simp only [List.length_cons, List.length_nil]; omega
          obtain ⟨Lk, hLk⟩ : ∃ L, (ms.take k).map (·.p) = L := ⟨_, rfl⟩
          rw [hLk] at O5 HTP HSZ
          clear hmm hlb hx hpx hLk
          go_wp2_with (first
            | (refine wpList_load_mid rfl 25 (.tmp 37) rfl b (o + k * 64) rfl (bv px) _ RX.out Tryd.underlying25 rfl (size_l32 HP.out) ?_)
            | (refine wpList_oney rfl (.tmp 38) rfl px HP.out rfl ?_)
            | (at_builtin; refine wp_appy rfl (.tmp 33) (.tmp 39) rfl rfl w4.heap.size u10 (.slice (some ⟨wr.heap.size, 0, none⟩) 1 1) Lk [px] rfl rfl (O5.out.alloc _) (fun z hz => by simp at hz; subst hz; exact HP.out) (ys_one wr px _) HSZ.out ?_; intro v6 w6 g1 g2; have O6 : Hid (YO w4.heap.size w6 v6 ((ms.take (k + 1)).map (·.p))) := (HTP.out.symm ▸ g1); have G6 : Hid (Below w4.heap.size w4 w6) := (G5.out.alloc G5.out.size _).trans g2; clear g1 g2))
          exact ⟨⟨k + 1, HLT.out, by go_num, O6.out, G6.out⟩, by have := HLT.out; simp [intOf]; omega⟩
      · obtain rfl : k = m := by omega
        have eT : ms.take k = ms := by rw [← HM.out]; exact List.take_length
        have Y5 : Hid (YS wr u10 (ms.map (·.p))) := by have := O5.out.ys; rw [eT] at this; exact this
        clear eT
        go_wp2_with (go_at_call 15; refine (HWO.out v4 u10 wr (N4.out.below G5.out) Y5.out).mono ?_; rintro e w7 ⟨v7, rfl, g1, g2⟩; have N7 : Hid (NS w7 v7 (sty ls ms)) := g1; have B7 : Hid (Below w.heap.size w w7) := Below.tr' B4.out (Below.tr' G5.out g2); clear g1 g2)
        go_ret2
        exact ⟨_, _, rfl, .inl ⟨HO.out, rfl, N7.out⟩, B7.out⟩
  · have HO : Hid (¬ okl (ls ++ ms)) := ho
    have HN1 : Hid (Calls Tryd.prog 14 #[v2] w2 fun e w' => e = .returned (.tuple #[.slice none 0 0, .bool false]) ∧ Below w2.heap.size w2 w') := rNodes_no (ls ++ ms) HK.out (by rw [List.length_append]; have := HLN.out; omega) ho v2 w2 N2.out
    clear ho
    go_enter Tryd.func7, Tryd.ntmps7
    go_wp2_with (first
      | (at_builtin; refine wp_app_run rfl (.tmp 13) (.tmp 14) 22 rfl 22 rfl _ _ v1 w1 rfl rfl HR1.out ?_)
      | (at_builtin; refine wp_app_run rfl (.tmp 15) (.tmp 16) 22 rfl 22 rfl _ _ v2 w2 rfl rfl HR2.out ?_)
      | (go_at_call 14; refine HN1.out.mono ?_; rintro e w3 ⟨rfl, g2⟩; have B3 : Hid (Below w.heap.size w w3) := Below.tr' B2.out g2; clear g2))
    go_ret2
    exact ⟨_, _, rfl, .inr ⟨HO.out, rfl, rfl⟩, B3.out⟩
end Go.Proofs.YtpojalbpekbfdabDoor
/- The law's awake. -/
namespace Go.Proofs.YtpojalbpekbfdabDoor
open Go Go.RowKit
set_option linter.unusedSimpArgs false
set_option linter.unusedVariables false
set_option maxRecDepth 100000

theorem wp_build0g {P : Program} {ops : Array Oper} {rest : List Oper} {o : Oper} {a : Act} {w : World} {Q : Exit → Act → World → Prop} (t : TypeId) (ho : o.op = .build t #[]) (hw : Region.wanted o (yielded ops a.tmps) = true) (cells : Array Value)
    (hr : (Instr.build t #[]).run P w = .ok (.agg cells) w) (h : wpList P ops Q rest (a.put o.dst (.agg cells)) w) : wpList P ops Q (o :: rest) a w := by
  unfold wpList
  rw [if_pos hw]
  refine .inl ?_
  unfold Oper.wp execOp
  simp only [ho, Sem.run_bind, List.map_toArray, List.map_nil, hr, Result.andThen_ok, Sem.run_pure]
  exact h
def p200 : List Int := 200 :: List.replicate 31 0
theorem p200_l32 : L32 p200 := ⟨by simp [p200], fun z hz => by
  simp only [p200, List.mem_cons, List.mem_replicate] at hz
  omega⟩
theorem build_200 (w : World) : (Instr.build 25 #[(0, .int .u8 200)]).run Tryd.prog w = .ok (.agg (bv p200).toArray) w := by kernel_rfl
theorem build_l1 (w : World) : (Instr.build 27 #[(0, .agg (bv o32).toArray)]).run Tryd.prog w = .ok (.agg (lfc ⟨o32, z32⟩).toArray) w := by kernel_rfl
theorem build_l2 (w : World) : (Instr.build 27 #[(0, .agg (bv p200).toArray)]).run Tryd.prog w = .ok (.agg (lfc ⟨p200, z32⟩).toArray) w := by kernel_rfl
theorem so_one {x : Lf} (hx : x.Ok) : okl [x] ∧ so [x] = [ln x] := so_uniq (fun y hy => by simp at hy; subst hy; exact hx) (List.Perm.refl _) (by simp [apt, ln_gd hx])
/-- One leaf stays where another is added. -/
theorem sty_one {x z : Lf} (hx : x.Ok) (hz : z.Ok) (h : x.p ≠ z.p) : okl ([x] ++ [z]) ∧ sty [x] [z] = [ln x] := by
  have hk : ∀ y ∈ [x] ++ [z], y.Ok := fun y hy => by simp at hy; rcases hy with rfl | rfl <;> assumption
  have ho : okl ([x] ++ [z]) := okl_of_ne hk (by simp [h])
  refine ⟨ho, ?_⟩
  rw [← sty_wo hk ho 1 (by rw [(so_one hx).2]; simp), (so_one hx).2]
  have hh : hl (ln x) z.p = false := by
    cases e : hl (ln x) z.p with
    | false => rfl
    | true => exact absurd (shr_eq hx.p hz.p (hl_beg (k := 256) (Nat.le_refl _) (by show ((256 : Nat) : Int) ≤ 256; omega) e)) h
  simp [wo, ovl_one, hh]
theorem rt_nil_ne : z32 ≠ rt [] := fun e => by
  have h := hs_zero.1
  have e2 : rt [] = hs [0] := by unfold rt; rw [if_pos rfl]
  rw [← e2, ← e] at h
  revert h; decide
theorem ck_nil {er : Int} (h : CKo z32 z32 [] [] er) : er = 3 := by
  refine cko_uniq (fun x hx => by cases hx) (fun x hx => by cases hx) h (.inr (.inr ⟨rfl, [], List.Perm.refl _, rfl, ?_⟩))
  unfold smE
  rw [if_neg (fun q => rt_nil_ne q.1)]
set_option maxHeartbeats 4000000 in
theorem awake_any (w : World) (hT : Tb w) : Calls Tryd.prog 4 #[] w fun e w' => e = .returned (.bool true) ∧ Below w.heap.size w w' := by
  have HT : Hid (Tb w) := hT
  have HB0 : Hid (∀ W : World, (Instr.build 25 #[]).run Tryd.prog W = .ok (.agg (bv z32).toArray) W) := build_32
  obtain ⟨x, hx⟩ : ∃ x : Lf, (⟨o32, z32⟩ : Lf) = x := ⟨_, rfl⟩
  obtain ⟨z, hz⟩ : ∃ x : Lf, (⟨p200, z32⟩ : Lf) = x := ⟨_, rfl⟩
  obtain ⟨O, hO⟩ : ∃ x, o32 = x := ⟨_, rfl⟩
  obtain ⟨P, hP⟩ : ∃ x, p200 = x := ⟨_, rfl⟩
  have HX : Hid x.Ok := by rw [← hx]; exact ⟨o32_l32, z32_l32⟩
  have HZ : Hid z.Ok := by rw [← hz]; exact ⟨p200_l32, z32_l32⟩
  have HNE : Hid (x.p ≠ z.p) := by rw [← hx, ← hz]; show o32 ≠ p200; decide
  have HBO : Hid (∀ W : World, (Instr.build 25 #[(0, .int .u8 1)]).run Tryd.prog W = .ok (.agg (bv O).toArray) W) := fun W => by rw [← hO]; exact build_o32 W
  have HBP : Hid (∀ W : World, (Instr.build 25 #[(0, .int .u8 200)]).run Tryd.prog W = .ok (.agg (bv P).toArray) W) := fun W => by rw [← hP]; exact build_200 W
  have HBX : Hid (∀ W : World, (Instr.build 27 #[(0, .agg (bv O).toArray)]).run Tryd.prog W = .ok (.agg (lfc x).toArray) W) := fun W => by rw [← hO, ← hx]; exact build_l1 W
  have HBZ : Hid (∀ W : World, (Instr.build 27 #[(0, .agg (bv P).toArray)]).run Tryd.prog W = .ok (.agg (lfc z).toArray) W) := fun W => by rw [← hP, ← hz]; exact build_l2 W
  have b1 : Below w.heap.size w (w.alloc (.cells (lfc x).toArray 27)) := (Below.refl _ w).alloc (Nat.le_refl _) _
  have n1 : LS (w.alloc (.cells (lfc x).toArray 27)) (.slice (some ⟨w.heap.size, 0, none⟩) 1 1) [x] := ls_one w x _
  obtain ⟨W1, hW1⟩ : ∃ W, w.alloc (.cells (lfc x).toArray 27) = W := ⟨_, rfl⟩
  rw [hW1] at b1 n1
  have b2 : Below W1.heap.size W1 (W1.alloc (.cells (lfc z).toArray 27)) := (Below.refl _ W1).alloc (Nat.le_refl _) _
  have n2 : LS (W1.alloc (.cells (lfc z).toArray 27)) (.slice (some ⟨W1.heap.size, 0, none⟩) 1 1) [z] := ls_one W1 z _
  obtain ⟨W2, hW2⟩ : ∃ W, W1.alloc (.cells (lfc z).toArray 27) = W := ⟨_, rfl⟩
  rw [hW2] at b2 n2
  obtain ⟨D, hD⟩ : ∃ D, w.heap.size = D := ⟨_, rfl⟩
  obtain ⟨E, hE⟩ : ∃ E, W1.heap.size = E := ⟨_, rfl⟩
  rw [hD] at n1
  rw [hE] at n2
  have BW2 : Hid (Below w.heap.size w W2) := Below.tr' b1 b2
  have HSY : Hid (Calls Tryd.prog 6 #[.slice (some ⟨D, 0, none⟩) 1 1, .slice (some ⟨E, 0, none⟩) 1 1] W2 fun e w' => ∃ v', e = .returned (.tuple #[v', .int .i64 0]) ∧ NS w' v' [ln x] ∧ Below W2.heap.size W2 w') := by
    refine (Stays_any [x] [z] (fun y hy => by simp at hy; rcases hy with rfl | rfl; exact HX.out; exact HZ.out) (by simp) _ _ W2 (n1.below b2) n2 (hT.below BW2.out)).mono fun e w' ⟨v', er, q1, q2, q3⟩ => ?_
    obtain ⟨s1, s2⟩ := sty_one HX.out HZ.out HNE.out
    rcases q2 with ⟨_, rfl, q⟩ | ⟨q, _⟩
    · rw [s2] at q; exact ⟨v', q1, q.ns, q3⟩
    · exact absurd s1 q
  have HCK : Hid (∀ W : World, Below w.heap.size w W → Calls Tryd.prog 8 #[.agg (bv z32).toArray, .agg (bv z32).toArray, .slice none 0 0, .slice none 0 0] W fun e w' => e = .returned (.int .i64 3) ∧ Below W.heap.size W w') := fun W q => by
    refine (Check_any z32 z32 z32_l32 z32_l32 [] (fun y hy => by cases hy) [] (fun y hy => by cases hy) (by simp) (.slice none 0 0) (.slice none 0 0) W ⟨none, 0, rfl, Nat.le_refl _, .inl ⟨rfl, fun _ => rfl⟩⟩ ⟨none, 0, rfl, Nat.le_refl _, .inl ⟨rfl, fun _ => rfl⟩⟩ (HT.out.below q)).mono fun e w' ⟨er, q1, q2, q3⟩ => ?_
    rw [ck_nil q2] at q1
    exact ⟨q1, q3⟩
  obtain ⟨Zz, hZz⟩ : ∃ z, z32 = z := ⟨_, rfl⟩
  rw [hZz] at HB0 HCK
  clear hT hx hz hO hP b1 n1 b2 n2 hZz
  go_enter Tryd.func4, Tryd.ntmps4
  go_upto_region 2 with (first
    | (refine wp_build1 25 (.const (.int .u8 1)) rfl rfl (.int .u8 1) rfl _ (HBO.out w) ?_)
    | (refine wp_build1 27 (.tmp 4) rfl rfl (.agg (bv O).toArray) rfl _ (HBX.out w) ?_)
    | (refine wpList_onel rfl (.tmp 5) rfl x HX.out rfl ?_))
  try rw [hW1]
  try rw [hD]
  go_upto_region 3 with (first
    | (refine wp_build1 25 (.const (.int .u8 200)) rfl rfl (.int .u8 200) rfl _ (HBP.out W1) ?_)
    | (refine wp_build1 27 (.tmp 9) rfl rfl (.agg (bv P).toArray) rfl _ (HBZ.out W1) ?_)
    | (refine wpList_onel rfl (.tmp 10) rfl z HZ.out rfl ?_; rw [hW2, hE])
    | (go_at_call 6; refine HSY.out.mono ?_; rintro e w3 ⟨v3, rfl, g1, g2⟩; obtain ⟨a3, c3, e3, -, -⟩ := g1; rw [show [ln x].length = 1 from rfl] at e3; subst e3; have B3 : Hid (Below w.heap.size w w3) := Below.tr' BW2.out g2; clear g2))
  clear hW1 hW2 hD hE
  go_wp2_with (first
    | (refine wp_build0g 25 rfl rfl _ (HB0.out w3) ?_)
    | (go_at_call 8; refine (HCK.out w3 B3.out).mono ?_; rintro e w4 ⟨rfl, g1⟩; have B4 : Hid (Below w.heap.size w w4) := Below.tr' B3.out g1; clear g1))
  go_ret
  exact ⟨rfl, B4.out⟩
end Go.Proofs.YtpojalbpekbfdabDoor
/- The walk of GrowStays. -/
namespace Go.Proofs.YtpojalbpekbfdabDoor
open Go Go.RowKit
set_option linter.unusedSimpArgs false
set_option linter.unusedVariables false
set_option maxRecDepth 100000

theorem sty_fit {ls ms : List Lf} (hk : ∀ x ∈ ls ++ ms, x.Ok) (h : okl (ls ++ ms)) : (∀ x ∈ sty ls ms, x.Ok) ∧ (sty ls ms).length ≤ ls.length := by
  have hk1 : ∀ x ∈ ls, x.Ok := fun x hx => hk x (List.mem_append_left _ hx)
  obtain ⟨o1, o2, o3⟩ := okl_left hk h
  have := wo_fit (hd := fun n => (ms.map (·.p)).any (fun y => hl n y)) (own := false) (so ls).length (so ls) (so_rsn hk1 o1)
  rw [sty_wo hk h _ (Nat.le_refl _), so_len o1] at this
  exact this
/-- What both Stays give. -/
theorem stays_both (ls ms : List Lf) (hk : ∀ x ∈ ls ++ ms, x.Ok) (hlen : ls.length + ms.length ≤ 1400000000000) :
    ∃ (L : List Nd) (E : Int), (∀ x ∈ L, x.Ok) ∧ L.length ≤ ls.length ∧
      (∀ (v u : Value) (W : World), LS W v ls → LS W u ms → Calls Tryd.prog 7 #[v, u] W fun e w' => ∃ v', e = .returned (.tuple #[v', .int .i64 E]) ∧ NS w' v' L ∧ Below W.heap.size W w') ∧
      (∀ (v u : Value) (W : World), LS W v ls → LS W u ms → Tb W → Calls Tryd.prog 6 #[v, u] W fun e w' => ∃ v', e = .returned (.tuple #[v', .int .i64 E]) ∧ NO W.heap.size w' v' L ∧ Below W.heap.size W w') := by
  by_cases ho : okl (ls ++ ms)
  · obtain ⟨f1, f2⟩ := sty_fit hk ho
    refine ⟨sty ls ms, 0, f1, f2, fun v u W h1 h2 => ?_, fun v u W h1 h2 h3 => ?_⟩
    · refine (rStays_any ls ms hk hlen v u W h1 h2).mono fun e w' ⟨v', er, q1, q2, q3⟩ => ?_
      rcases q2 with ⟨_, rfl, q⟩ | ⟨q, _⟩
      · exact ⟨v', q1, q, q3⟩
      · exact absurd ho q
    · refine (Stays_any ls ms hk hlen v u W h1 h2 h3).mono fun e w' ⟨v', er, q1, q2, q3⟩ => ?_
      rcases q2 with ⟨_, rfl, q⟩ | ⟨q, _⟩
      · exact ⟨v', q1, q, q3⟩
      · exact absurd ho q
  · refine ⟨[], 1, (fun x hx => by cases hx), by simp, fun v u W h1 h2 => ?_, fun v u W h1 h2 h3 => ?_⟩
    · refine (rStays_any ls ms hk hlen v u W h1 h2).mono fun e w' ⟨v', er, q1, q2, q3⟩ => ?_
      rcases q2 with ⟨q, _⟩ | ⟨_, rfl, rfl⟩
      · exact absurd q ho
      · exact ⟨_, q1, ⟨none, 0, rfl, Nat.le_refl _, .inl ⟨rfl, fun _ => rfl⟩⟩, q3⟩
    · refine (Stays_any ls ms hk hlen v u W h1 h2 h3).mono fun e w' ⟨v', er, q1, q2, q3⟩ => ?_
      rcases q2 with ⟨q, _⟩ | ⟨_, rfl, rfl⟩
      · exact absurd q ho
      · exact ⟨_, q1, NO.nil' q3.size, q3⟩
end Go.Proofs.YtpojalbpekbfdabDoor
