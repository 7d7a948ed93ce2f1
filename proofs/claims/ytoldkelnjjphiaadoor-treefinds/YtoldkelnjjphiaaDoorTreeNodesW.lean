/- The walk of TreeNodes. -/
import Derived.Test.YtoldkelnjjphiaaDoorTrcC
import Derived.Test.YtoldkelnjjphiaaDoorTrrL
import Derived.Test.YtoldkelnjjphiaaDoorTrrI
namespace Go.Proofs.YtoldkelnjjphiaaDoor
open Go Go.RowKit
set_option linter.unusedSimpArgs false
set_option linter.unusedVariables false
set_option maxRecDepth 100000

theorem Below.tr {a b c : World} (h1 : Below a.heap.size a b) (h2 : Below b.heap.size b c) : Below a.heap.size a c := h1.trans (h2.mono h1.size)
def tn6f (x : Nd) (y : List Int) (b o len cap k : Nat) (g h : Bool) : Nat → Value
  | 0 => .slice (some ⟨b, o, none⟩) len cap
  | 1 => .int .i64 (k : Int)
  | 2 => .pointer (some ⟨b, o + k * 65, none⟩)
  | 3 => .agg (nc x).toArray
  | 4 => .bool g
  | 5 => .slice (some ⟨b, o, none⟩) len cap
  | 6 => .int .i64 (k : Int)
  | 7 => .pointer (some ⟨b, o + k * 65, none⟩)
  | 8 => .agg (nc x).toArray
  | 9 => .bool g
  | 10 => .bool false
  | 11 => .bool false
  | 12 => .slice (some ⟨b, o, none⟩) len cap
  | 13 => .int .i64 (k : Int)
  | 14 => .pointer (some ⟨b, o + k * 65, none⟩)
  | 15 => .agg (nc x).toArray
  | 16 => .agg (bv y).toArray
  | 17 => .bool h
  | 18 => .slice (some ⟨b, o, none⟩) len cap
  | 19 => .int .i64 (k : Int)
  | 20 => .pointer (some ⟨b, o + k * 65, none⟩)
  | 21 => .agg (nc x).toArray
  | 22 => .agg (bv y).toArray
  | 23 => .bool h
  | 24 => .bool false
  | 25 => .bool false
  | _ => undef
set_option maxHeartbeats 8000000 in
theorem nodes_any (l : List Nd) (hk : ∀ x ∈ l, x.Ok) (hlen : l.length ≤ 3000000000000) (y : List Int) (hy : L32 y) (v : Value) (w : World) (hv : NS w v l) (hT : Tb w) :
    Calls Tryd.prog 3 #[v, .agg (bv y).toArray] w fun e w' => e = .returned (.bool true) ∧ Below w.heap.size w w' := by
  have ra := range_alloc w (bv y) 23 (0, 0)
  have hl2 : l.length ≤ 140737488355328 := by omega
  have HY : Hid (L32 y) := hy
  have HK : Hid (∀ x ∈ l, x.Ok) := hk
  obtain ⟨A, hA⟩ : ∃ A, (bv y).toArray = A := ⟨_, rfl⟩
  have sA : A.size = 32 := by rw [← hA]; simp [bv_length, hy.len]
  rw [hA] at ra ⊢
  obtain ⟨U, hU⟩ : ∃ U, w.alloc (.cells A 23) = U := ⟨_, rfl⟩
  have sU : U.heap.size = w.heap.size + 1 := by rw [← hU]; simp
  have bU : Below w.heap.size w U := by rw [← hU]; exact (Below.refl _ w).alloc (Nat.le_refl _) _
  rw [hU] at ra
  have NU : Hid (NS U v l) := hv.below bU
  have TU : Hid (Tb U) := hT.below bU
  have BU : Hid (Below w.heap.size w U) := bU
  obtain ⟨D, hD⟩ : ∃ D, w.heap.size = D := ⟨_, rfl⟩
  rw [hD] at ra sU
  have RA : Hid (U.rangeAt D 0 (bv y)) := ra
  have SU : Hid (U.heap.size = D + 1) := sU
  obtain ⟨X, hX⟩ : ∃ X, (if ovE l = true then ovl l else ndz) = X := ⟨_, rfl⟩
  obtain ⟨e1, he1⟩ : ∃ e1 : Int, (if ovE l = true then 0 else 1) = e1 := ⟨_, rfl⟩
  obtain ⟨Y, hY⟩ : ∃ Y, (if apt l = true then rt l else z32) = Y := ⟨_, rfl⟩
  obtain ⟨e2, he2⟩ : ∃ e2 : Int, (if apt l = true then 0 else 1) = e2 := ⟨_, rfl⟩
  obtain ⟨r, hr⟩ : ∃ r, apt l = r := ⟨_, rfl⟩
  have HYL : Hid (L32 Y) := by rw [← hY]; split; exact rt_l32 l; exact z32_l32
  have HCN : Hid (∀ W : World, Below U.heap.size U W → Calls Tryd.prog 15 #[v] W fun e w' => ∃ v', e = .returned v' ∧ NS w' v' l ∧ Below W.heap.size W w') := fun W q => copyNodes_any l hk hlen v W (NU.out.below q)
  have HOV : Hid (∀ (v' : Value) (W : World), NS W v' l → Below U.heap.size U W → Calls Tryd.prog 14 #[v'] W fun e w' => e = .returned (.tuple #[.agg (nc X).toArray, .int .i64 e1]) ∧ Below W.heap.size W w') := fun v' W q1 q2 => by
    have := Over_any l hk hl2 v' W q1 (TU.out.below q2); rw [hX, he1] at this; exact this
  have HRO : Hid (∀ W : World, Below U.heap.size U W → Calls Tryd.prog 16 #[v] W fun e w' => e = .returned (.tuple #[.agg (nc X).toArray, .int .i64 e1]) ∧ Below W.heap.size W w') := fun W q => by
    have := rOver_any l hk hl2 v W (NU.out.below q); rw [hX, he1] at this; exact this
  have HRT : Hid (∀ (v' : Value) (W : World), NS W v' l → Below U.heap.size U W → Calls Tryd.prog 17 #[v'] W fun e w' => e = .returned (.tuple #[.agg (bv Y).toArray, .int .i64 e2]) ∧ Below W.heap.size W w') := fun v' W q1 q2 => by
    have := Root_any l hk hl2 v' W q1 (TU.out.below q2); rw [hY, he2] at this; exact this
  have HRR : Hid (∀ W : World, Below U.heap.size U W → Calls Tryd.prog 18 #[v] W fun e w' => e = .returned (.tuple #[.agg (bv Y).toArray, .int .i64 e2]) ∧ Below W.heap.size W w') := fun W q => by
    have := rRoot_any l hk hl2 v W (NU.out.below q); rw [hY, he2] at this; exact this
  have HAP : Hid (∀ (v' : Value) (W : World), NS W v' l → Calls Tryd.prog 19 #[v'] W fun e w' => e = .returned (.bool r) ∧ Below W.heap.size W w') := fun v' W q1 => by
    have := Apart_any l hk v' W q1 hl2; rw [hr] at this; exact this
  have HRA : Hid (∀ W : World, Below U.heap.size U W → Calls Tryd.prog 20 #[v] W fun e w' => e = .returned (.bool r) ∧ Below W.heap.size W w') := fun W q => by
    have := rApart_any l hk v W (NU.out.below q) hl2; rw [hr] at this; exact this
  have HXO : Hid X.Ok := by
    rw [← hX]
    split
    · next h => unfold ovE at h; rw [Bool.and_eq_true] at h; exact (ov_ok (apt_rsn hk h.2) (by simpa using h.1) _ (Nat.le_refl _)).1
    · exact ndz_ok
  have HAW : Hid (Calls Tryd.prog 9 #[] U fun e w' => e = .returned (.bool true) ∧ Below U.heap.size U w') := awake_any U TU.out
  have hzn := zero_nd
  obtain ⟨Zn, hZn⟩ : ∃ Z, (nc ndz).toArray = Z := ⟨_, rfl⟩
  have HZN : Hid (Zn.size = 65) := by rw [← hZn]; exact nc_size ndz_ok
  rw [hZn] at hzn
  have hz3 := zero_32
  rw [show List.replicate 32 (0 : Int) = z32 from rfl] at hz3
  obtain ⟨Z3, hZ3⟩ : ∃ Z, (bv z32).toArray = Z := ⟨_, rfl⟩
  have HZ3 : Hid (Z3.size = 32) := by show Z3.size = 32; rw [← hZ3]; simp [bv, z32]
  rw [hZ3] at hz3
  have HND : Hid (NS U v l) := NU.out
  obtain ⟨ad, cap, rfl, hcp, -⟩ := hv
  obtain ⟨len, hln⟩ : ∃ len, l.length = len := ⟨_, rfl⟩
  have HLN : Hid (l.length = len) := hln
  rw [hln] at hcp hl2 HCN HRO HRR HRA HND ⊢
  clear ra hA sU bU hT hk hy hX he1 hY he2 hr hZn hZ3 hlen hln NU
  go_enter Tryd.func3, Tryd.ntmps3
  go_upto_region 1 with (fail)
  try rw [hU]
  try rw [hD]
  clear hU hD
  go_wp2_with (go_at_call 9; refine HAW.out.mono ?_; rintro e w1 ⟨rfl, g1⟩; have B1 : Hid (Below U.heap.size U w1) := g1; clear g1)
  go_loopw [18] (fun i wr => ∃ k : Nat, k ≤ len ∧ i = .int .i64 (k : Int) ∧ Below U.heap.size U wr) (fun i _ => len - (intOf i).toNat)
  case atStart => exact ⟨0, Nat.zero_le _, rfl, B1.out⟩
  case round =>
    obtain ⟨k, hkl, rfl, h4⟩ := hrel
    have H4 : Hid (Below U.heap.size U wr) := h4
    clear h4
    by_cases hlt : k < len
    · obtain ⟨ad', cap', he, -, h0⟩ := HND.out
      rcases h0 with ⟨h0, _⟩ | ⟨b, o, had, hlb, hm⟩
      · have := HLN.out; rw [h0] at this; simp at this; omega
      · simp only [Value.slice.injEq] at he
        obtain ⟨rfl, -, -⟩ := he
        subst had
        obtain ⟨x, hx⟩ : ∃ x, l[k]? = some x := ⟨l[k]'(by have := HLN.out; omega), List.getElem?_eq_getElem _⟩
        have HX : Hid x.Ok := HK.out x (List.mem_of_getElem? hx)
        have RX : Hid (wr.rangeAt b (o + k * 65) (nc x)) := range_below (hm k x hx) H4.out hlb
        have HLB : Hid (b < wr.heap.size) := Nat.lt_of_lt_of_le hlb H4.out.size
        have RY : Hid (wr.rangeAt D 0 (bv y)) := range_below RA.out H4.out (by have := SU.out; omega)
        have HLD : Hid (D < wr.heap.size) := Nat.lt_of_lt_of_le (by have := SU.out; omega) H4.out.size
        obtain ⟨g, hg⟩ : ∃ g, gd x = g := ⟨_, rfl⟩
        obtain ⟨h, hh⟩ : ∃ h, hl x y = h := ⟨_, rfl⟩
        have HG1 : Hid (∀ W : World, Calls Tryd.prog 10 #[.agg (nc x).toArray] W fun e w' => e = .returned (.bool g) ∧ Below W.heap.size W w') := fun W => by rw [← hg]; exact good_any x HX.out W
        have HG2 : Hid (∀ W : World, Calls Tryd.prog 11 #[.agg (nc x).toArray] W fun e w' => e = .returned (.bool g) ∧ Below W.heap.size W w') := fun W => by rw [← hg]; exact rGood_any x HX.out W
        have HH1 : Hid (∀ W : World, Calls Tryd.prog 12 #[.agg (nc x).toArray, .agg (bv y).toArray] W fun e w' => e = .returned (.bool h) ∧ Below W.heap.size W w') := fun W => by rw [← hh]; exact holds_any x HX.out y HY.out W
        have HH2 : Hid (∀ W : World, Calls Tryd.prog 13 #[.agg (nc x).toArray, .agg (bv y).toArray] W fun e w' => e = .returned (.bool h) ∧ Below W.heap.size W w') := fun W => by rw [← hh]; exact rHolds_any x HX.out y HY.out W
        clear hm hlb hx hg hh
        go_upto_region 6 with (fail)
        refine RU.wp_rgn' [] (tn6f x y b o len cap k g h) (fun _ => 0) (gΩ wr) (by kernel_rfl) (by kernel_rfl) (show Below wr.heap.size wr _ from (Below.refl _ _).drew) ?_ ?_
        · refine ⟨?_, ?_, ?_, ?_, ?_, ?_, ?_, ?_, ?_, ?_, ?_, ?_, ?_, ?_, ?_, ?_, ?_, ?_, ?_, ?_, ?_, ?_, ?_, ?_, ?_, ?_, trivial⟩
          · refine RU.ObT.pure rfl rfl rfl (fun a V hf hp ev he hc W => ?_)
            have q0 : ev (.tmp 0) = .slice (some ⟨b, o, none⟩) len cap := (he (.tmp 0)).trans (hf 0 rfl)
            simp only [List.getElem_toArray, List.getElem_cons_succ, List.getElem_cons_zero, execOp, Option.map_some, Option.map_none]; rw [q0]
            first | (go_simp; done) | (go_simp; rfl) | rfl
          · refine RU.ObT.pure rfl rfl rfl (fun a V hf hp ev he hc W => ?_)
            have q5 : ev (.tmp 5) = .int .i64 (k : Int) := (he (.tmp 5)).trans (hf 5 rfl)
            simp only [List.getElem_toArray, List.getElem_cons_succ, List.getElem_cons_zero, execOp, Option.map_some, Option.map_none]; rw [q5]
            first | (go_simp; done) | (go_simp; rfl) | rfl
          · refine RU.ObT.pure rfl rfl rfl (fun a V hf hp ev he hc W => ?_)
            have q21 : ev (.tmp 21) = .slice (some ⟨b, o, none⟩) len cap := (he (.tmp 21)).trans (hp 0 21 rfl)
            have q22 : ev (.tmp 22) = .int .i64 (k : Int) := (he (.tmp 22)).trans (hp 1 22 rfl)
            simp only [List.getElem_toArray, List.getElem_cons_succ, List.getElem_cons_zero, execOp, Option.map_some, Option.map_none]; rw [q21, q22]
            have hk9 : (k : Int) < (len : Int) := by omega
            first | (go_simp; done) | (go_simp; rfl) | rfl
          · refine RU.ObT.silent rfl (fun a W k0 V hO hf hp hk => ?_)
            have hO' : Below wr.heap.size wr W := hO
            have q23 : a.eval (.tmp 23) = .pointer (some ⟨b, o + k * 65, none⟩) := hp 2 23 rfl
            exact RU.ob_op rfl (RU.wanted_none rfl) (wp_load_mid 27 (.tmp 23) rfl (b) (o + k * 65) q23 (nc x) _ (range_below RX.out hO' HLB.out) Tryd.underlying27 rfl (size_nc HX.out) ⟨rfl, hO⟩)
          · refine RU.ObT.silent rfl (fun a W k0 V hO hf hp hk => ?_)
            have hO' : Below wr.heap.size wr W := hO
            have e24 : a.eval (.tmp 24) = .agg (nc x).toArray := hp 3 24 rfl
            refine RU.ob_call (g := 10) (args := #[.agg (nc x).toArray]) rfl (RU.wanted_none rfl) (fun ev he hc => ?_) ((HG1.out W).mono ?_)
            · have h24 := (he (.tmp 24)).trans e24
              have hfn := he (.func 10)
              simp only [List.getElem_toArray, List.getElem_cons_succ, List.getElem_cons_zero, execOp, Option.map_some, Option.map_none]
              simp only [resolve, invoke, Sem.run_bind, Sem.run_pure, Result.andThen_ok, List.map_toArray, List.map_cons, List.map_nil, h24, hfn, Act.eval, hc]
              rfl
            · rintro e' W2 ⟨rfl, hb2⟩
              exact ⟨_, rfl, rfl, (hO'.trans (hb2.mono hO'.size) : Below wr.heap.size wr W2)⟩
          · refine RU.ObT.pure rfl rfl rfl (fun a V hf hp ev he hc W => ?_)
            have q0 : ev (.tmp 0) = .slice (some ⟨b, o, none⟩) len cap := (he (.tmp 0)).trans (hf 0 rfl)
            simp only [List.getElem_toArray, List.getElem_cons_succ, List.getElem_cons_zero, execOp, Option.map_some, Option.map_none]; rw [q0]
            first | (go_simp; done) | (go_simp; rfl) | rfl
          · refine RU.ObT.pure rfl rfl rfl (fun a V hf hp ev he hc W => ?_)
            have q5 : ev (.tmp 5) = .int .i64 (k : Int) := (he (.tmp 5)).trans (hf 5 rfl)
            simp only [List.getElem_toArray, List.getElem_cons_succ, List.getElem_cons_zero, execOp, Option.map_some, Option.map_none]; rw [q5]
            first | (go_simp; done) | (go_simp; rfl) | rfl
          · refine RU.ObT.pure rfl rfl rfl (fun a V hf hp ev he hc W => ?_)
            have q26 : ev (.tmp 26) = .slice (some ⟨b, o, none⟩) len cap := (he (.tmp 26)).trans (hp 5 26 rfl)
            have q27 : ev (.tmp 27) = .int .i64 (k : Int) := (he (.tmp 27)).trans (hp 6 27 rfl)
            simp only [List.getElem_toArray, List.getElem_cons_succ, List.getElem_cons_zero, execOp, Option.map_some, Option.map_none]; rw [q26, q27]
            have hk9 : (k : Int) < (len : Int) := by omega
            first | (go_simp; done) | (go_simp; rfl) | rfl
          · refine RU.ObT.silent rfl (fun a W k0 V hO hf hp hk => ?_)
            have hO' : Below wr.heap.size wr W := hO
            have q28 : a.eval (.tmp 28) = .pointer (some ⟨b, o + k * 65, none⟩) := hp 7 28 rfl
            exact RU.ob_op rfl (RU.wanted_none rfl) (wp_load_mid 27 (.tmp 28) rfl (b) (o + k * 65) q28 (nc x) _ (range_below RX.out hO' HLB.out) Tryd.underlying27 rfl (size_nc HX.out) ⟨rfl, hO⟩)
          · refine RU.ObT.silent rfl (fun a W k0 V hO hf hp hk => ?_)
            have hO' : Below wr.heap.size wr W := hO
            have e29 : a.eval (.tmp 29) = .agg (nc x).toArray := hp 8 29 rfl
            refine RU.ob_call (g := 11) (args := #[.agg (nc x).toArray]) rfl (RU.wanted_none rfl) (fun ev he hc => ?_) ((HG2.out W).mono ?_)
            · have h29 := (he (.tmp 29)).trans e29
              have hfn := he (.func 11)
              simp only [List.getElem_toArray, List.getElem_cons_succ, List.getElem_cons_zero, execOp, Option.map_some, Option.map_none]
              simp only [resolve, invoke, Sem.run_bind, Sem.run_pure, Result.andThen_ok, List.map_toArray, List.map_cons, List.map_nil, h29, hfn, Act.eval, hc]
              rfl
            · rintro e' W2 ⟨rfl, hb2⟩
              exact ⟨_, rfl, rfl, (hO'.trans (hb2.mono hO'.size) : Below wr.heap.size wr W2)⟩
          · refine RU.ObT.pure rfl rfl rfl (fun a V hf hp ev he hc W => ?_)
            have q25 : ev (.tmp 25) = .bool g := (he (.tmp 25)).trans (hp 4 25 rfl)
            have q30 : ev (.tmp 30) = .bool g := (he (.tmp 30)).trans (hp 9 30 rfl)
            simp only [List.getElem_toArray, List.getElem_cons_succ, List.getElem_cons_zero, execOp, Option.map_some, Option.map_none]; rw [q25, q30]
            cases g <;> first | (go_simp; done) | (go_simp; rfl) | rfl
          · refine RU.ObT.pure rfl rfl rfl (fun a V hf hp ev he hc W => ?_)
            have q31 : ev (.tmp 31) = .bool false := (he (.tmp 31)).trans (hp 10 31 rfl)
            simp only [List.getElem_toArray, List.getElem_cons_succ, List.getElem_cons_zero, execOp, Option.map_some, Option.map_none]; rw [q31]
            first | (go_simp; done) | (go_simp; rfl) | rfl
          · refine RU.ObT.silent rfl (fun a W k0 V hO hf hp hk => ?_)
            have hg : a.eval (.tmp 32) = .bool false := hp 11 32 rfl
            refine RU.ob_val rfl (RU.wanted_some rfl rfl rfl hg) (fun ev he hc => ?_) ⟨rfl, hO⟩
            have q0 : ev (.tmp 0) = .slice (some ⟨b, o, none⟩) len cap := (he (.tmp 0)).trans (hf 0 rfl)
            simp only [List.getElem_toArray, List.getElem_cons_succ, List.getElem_cons_zero, execOp, Option.map_some, Option.map_none]; rw [q0]
            first | (go_simp; done) | (go_simp; rfl) | rfl
          · refine RU.ObT.silent rfl (fun a W k0 V hO hf hp hk => ?_)
            have hg : a.eval (.tmp 32) = .bool false := hp 11 32 rfl
            refine RU.ob_val rfl (RU.wanted_some rfl rfl rfl hg) (fun ev he hc => ?_) ⟨rfl, hO⟩
            have q5 : ev (.tmp 5) = .int .i64 (k : Int) := (he (.tmp 5)).trans (hf 5 rfl)
            simp only [List.getElem_toArray, List.getElem_cons_succ, List.getElem_cons_zero, execOp, Option.map_some, Option.map_none]; rw [q5]
            first | (go_simp; done) | (go_simp; rfl) | rfl
          · refine RU.ObT.silent rfl (fun a W k0 V hO hf hp hk => ?_)
            have hg : a.eval (.tmp 32) = .bool false := hp 11 32 rfl
            refine RU.ob_val rfl (RU.wanted_some rfl rfl rfl hg) (fun ev he hc => ?_) ⟨rfl, hO⟩
            have q33 : ev (.tmp 33) = .slice (some ⟨b, o, none⟩) len cap := (he (.tmp 33)).trans (hp 12 33 rfl)
            have q34 : ev (.tmp 34) = .int .i64 (k : Int) := (he (.tmp 34)).trans (hp 13 34 rfl)
            simp only [List.getElem_toArray, List.getElem_cons_succ, List.getElem_cons_zero, execOp, Option.map_some, Option.map_none]; rw [q33, q34]
            have hk9 : (k : Int) < (len : Int) := by omega
            first | (go_simp; done) | (go_simp; rfl) | rfl
          · refine RU.ObT.silent rfl (fun a W k0 V hO hf hp hk => ?_)
            have hg : a.eval (.tmp 32) = .bool false := hp 11 32 rfl
            have hO' : Below wr.heap.size wr W := hO
            have q35 : a.eval (.tmp 35) = .pointer (some ⟨b, o + k * 65, none⟩) := hp 14 35 rfl
            exact RU.ob_op rfl (RU.wanted_some rfl rfl rfl hg) (wp_load_mid 27 (.tmp 35) rfl (b) (o + k * 65) q35 (nc x) _ (range_below RX.out hO' HLB.out) Tryd.underlying27 rfl (size_nc HX.out) ⟨rfl, hO⟩)
          · refine RU.ObT.silent rfl (fun a W k0 V hO hf hp hk => ?_)
            have hg : a.eval (.tmp 32) = .bool false := hp 11 32 rfl
            have hO' : Below wr.heap.size wr W := hO
            have q3 : a.eval (.tmp 3) = .pointer (some ⟨D, 0, none⟩) := hf 3 rfl
            exact RU.ob_op rfl (RU.wanted_some rfl rfl rfl hg) (wp_load_mid 23 (.tmp 3) rfl (D) (0) q3 (bv y) _ (range_below RY.out hO' HLD.out) Tryd.underlying23 rfl (size_l32 HY.out) ⟨rfl, hO⟩)
          · refine RU.ObT.silent rfl (fun a W k0 V hO hf hp hk => ?_)
            have hg : a.eval (.tmp 32) = .bool false := hp 11 32 rfl
            have hO' : Below wr.heap.size wr W := hO
            have e36 : a.eval (.tmp 36) = .agg (nc x).toArray := hp 15 36 rfl
            have e37 : a.eval (.tmp 37) = .agg (bv y).toArray := hp 16 37 rfl
            refine RU.ob_call (g := 12) (args := #[.agg (nc x).toArray, .agg (bv y).toArray]) rfl (RU.wanted_some rfl rfl rfl hg) (fun ev he hc => ?_) ((HH1.out W).mono ?_)
            · have h36 := (he (.tmp 36)).trans e36
              have h37 := (he (.tmp 37)).trans e37
              have hfn := he (.func 12)
              simp only [List.getElem_toArray, List.getElem_cons_succ, List.getElem_cons_zero, execOp, Option.map_some, Option.map_none]
              simp only [resolve, invoke, Sem.run_bind, Sem.run_pure, Result.andThen_ok, List.map_toArray, List.map_cons, List.map_nil, h36, h37, hfn, Act.eval, hc]
              rfl
            · rintro e' W2 ⟨rfl, hb2⟩
              exact ⟨_, rfl, rfl, (hO'.trans (hb2.mono hO'.size) : Below wr.heap.size wr W2)⟩
          · refine RU.ObT.silent rfl (fun a W k0 V hO hf hp hk => ?_)
            have hg : a.eval (.tmp 32) = .bool false := hp 11 32 rfl
            refine RU.ob_val rfl (RU.wanted_some rfl rfl rfl hg) (fun ev he hc => ?_) ⟨rfl, hO⟩
            have q0 : ev (.tmp 0) = .slice (some ⟨b, o, none⟩) len cap := (he (.tmp 0)).trans (hf 0 rfl)
            simp only [List.getElem_toArray, List.getElem_cons_succ, List.getElem_cons_zero, execOp, Option.map_some, Option.map_none]; rw [q0]
            first | (go_simp; done) | (go_simp; rfl) | rfl
          · refine RU.ObT.silent rfl (fun a W k0 V hO hf hp hk => ?_)
            have hg : a.eval (.tmp 32) = .bool false := hp 11 32 rfl
            refine RU.ob_val rfl (RU.wanted_some rfl rfl rfl hg) (fun ev he hc => ?_) ⟨rfl, hO⟩
            have q5 : ev (.tmp 5) = .int .i64 (k : Int) := (he (.tmp 5)).trans (hf 5 rfl)
            simp only [List.getElem_toArray, List.getElem_cons_succ, List.getElem_cons_zero, execOp, Option.map_some, Option.map_none]; rw [q5]
            first | (go_simp; done) | (go_simp; rfl) | rfl
          · refine RU.ObT.silent rfl (fun a W k0 V hO hf hp hk => ?_)
            have hg : a.eval (.tmp 32) = .bool false := hp 11 32 rfl
            refine RU.ob_val rfl (RU.wanted_some rfl rfl rfl hg) (fun ev he hc => ?_) ⟨rfl, hO⟩
            have q39 : ev (.tmp 39) = .slice (some ⟨b, o, none⟩) len cap := (he (.tmp 39)).trans (hp 18 39 rfl)
            have q40 : ev (.tmp 40) = .int .i64 (k : Int) := (he (.tmp 40)).trans (hp 19 40 rfl)
            simp only [List.getElem_toArray, List.getElem_cons_succ, List.getElem_cons_zero, execOp, Option.map_some, Option.map_none]; rw [q39, q40]
            have hk9 : (k : Int) < (len : Int) := by omega
            first | (go_simp; done) | (go_simp; rfl) | rfl
          · refine RU.ObT.silent rfl (fun a W k0 V hO hf hp hk => ?_)
            have hg : a.eval (.tmp 32) = .bool false := hp 11 32 rfl
            have hO' : Below wr.heap.size wr W := hO
            have q41 : a.eval (.tmp 41) = .pointer (some ⟨b, o + k * 65, none⟩) := hp 20 41 rfl
            exact RU.ob_op rfl (RU.wanted_some rfl rfl rfl hg) (wp_load_mid 27 (.tmp 41) rfl (b) (o + k * 65) q41 (nc x) _ (range_below RX.out hO' HLB.out) Tryd.underlying27 rfl (size_nc HX.out) ⟨rfl, hO⟩)
          · refine RU.ObT.silent rfl (fun a W k0 V hO hf hp hk => ?_)
            have hg : a.eval (.tmp 32) = .bool false := hp 11 32 rfl
            have hO' : Below wr.heap.size wr W := hO
            have q3 : a.eval (.tmp 3) = .pointer (some ⟨D, 0, none⟩) := hf 3 rfl
            exact RU.ob_op rfl (RU.wanted_some rfl rfl rfl hg) (wp_load_mid 23 (.tmp 3) rfl (D) (0) q3 (bv y) _ (range_below RY.out hO' HLD.out) Tryd.underlying23 rfl (size_l32 HY.out) ⟨rfl, hO⟩)
          · refine RU.ObT.silent rfl (fun a W k0 V hO hf hp hk => ?_)
            have hg : a.eval (.tmp 32) = .bool false := hp 11 32 rfl
            have hO' : Below wr.heap.size wr W := hO
            have e42 : a.eval (.tmp 42) = .agg (nc x).toArray := hp 21 42 rfl
            have e43 : a.eval (.tmp 43) = .agg (bv y).toArray := hp 22 43 rfl
            refine RU.ob_call (g := 13) (args := #[.agg (nc x).toArray, .agg (bv y).toArray]) rfl (RU.wanted_some rfl rfl rfl hg) (fun ev he hc => ?_) ((HH2.out W).mono ?_)
            · have h42 := (he (.tmp 42)).trans e42
              have h43 := (he (.tmp 43)).trans e43
              have hfn := he (.func 13)
              simp only [List.getElem_toArray, List.getElem_cons_succ, List.getElem_cons_zero, execOp, Option.map_some, Option.map_none]
              simp only [resolve, invoke, Sem.run_bind, Sem.run_pure, Result.andThen_ok, List.map_toArray, List.map_cons, List.map_nil, h42, h43, hfn, Act.eval, hc]
              rfl
            · rintro e' W2 ⟨rfl, hb2⟩
              exact ⟨_, rfl, rfl, (hO'.trans (hb2.mono hO'.size) : Below wr.heap.size wr W2)⟩
          · refine RU.ObT.silent rfl (fun a W k0 V hO hf hp hk => ?_)
            have hg : a.eval (.tmp 32) = .bool false := hp 11 32 rfl
            refine RU.ob_val rfl (RU.wanted_some rfl rfl rfl hg) (fun ev he hc => ?_) ⟨rfl, hO⟩
            have q38 : ev (.tmp 38) = .bool h := (he (.tmp 38)).trans (hp 17 38 rfl)
            have q44 : ev (.tmp 44) = .bool h := (he (.tmp 44)).trans (hp 23 44 rfl)
            simp only [List.getElem_toArray, List.getElem_cons_succ, List.getElem_cons_zero, execOp, Option.map_some, Option.map_none]; rw [q38, q44]
            cases h <;> first | (go_simp; done) | (go_simp; rfl) | rfl
          · refine RU.ObT.pure rfl rfl rfl (fun a V hf hp ev he hc W => ?_)
            have q32 : ev (.tmp 32) = .bool false := (he (.tmp 32)).trans (hp 11 32 rfl)
            have q45 : ev (.tmp 45) = .bool false := (he (.tmp 45)).trans (hp 24 45 rfl)
            simp only [List.getElem_toArray, List.getElem_cons_succ, List.getElem_cons_zero, execOp, Option.map_some, Option.map_none]; rw [q32, q45]
            try simp only [hc]
            first | (go_simp; done) | (go_simp; rfl) | rfl
        intro W1 VW1 hOW1
        have BW1 : Hid (Below wr.heap.size wr W1) := hOW1
        clear hOW1
        simp only [RU.lay, RU.val, RU.at', tn6f, Act.put]
        simp only [List.setIfInBounds_toArray, List.set_cons_succ, List.set_cons_zero]
        go_wp2_with fail
        exact ⟨⟨k + 1, by omega, by go_num, H4.out.trans (BW1.out.mono H4.out.size)⟩, by simp [intOf]; omega⟩
    · obtain rfl : k = len := by omega
      go_upto_region 10 with (first
        | (refine wpList_store_mid rfl 27 (.tmp 6) (.tmp 52) rfl a2.heap.size 0 (nc X).toArray rfl rfl (there_new a2 (by rw [nc_size HXO.out, HZN.out])) (by rw [List.size_toArray]; exact size_nc HXO.out) (nc_one _) ?_; simp only [List.toList_toArray])
        | (go_at_call 14; refine (HOV.out v1 a1 N1.out C1.out).mono ?_; rintro e a2 ⟨rfl, g1⟩; have G2 : Hid (Below a1.heap.size a1 a2) := g1; have C2 : Hid (Below U.heap.size U a2) := Below.tr C1.out g1; clear g1)
        | (go_at_call 15; refine (HCN.out wr H4.out).mono ?_; rintro e a1 ⟨v1, rfl, g1, g2⟩; have N1 : Hid (NS a1 v1 l) := g1; have G1 : Hid (Below wr.heap.size wr a1) := g2; have C1 : Hid (Below U.heap.size U a1) := Below.tr H4.out g2; clear g1 g2))
      obtain ⟨a3, ha3⟩ : ∃ a3, (a2.alloc (.cells Zn 27)).setCells a2.heap.size 0 (nc X) = a3 := ⟨_, rfl⟩
      rw [ha3]
      obtain ⟨r1, r2, r3⟩ := laid_row (by rw [nc_length HXO.out, HZN.out]) (by rw [nc_length HXO.out]; omega) ha3
      have R6 : Hid (a3.rangeAt a2.heap.size 0 (nc X)) := r1
      have G3 : Hid (Below a2.heap.size a2 a3) := r2
      have C3 : Hid (Below U.heap.size U a3) := Below.tr C2.out r2
      have Z6 : Hid (a2.heap.size < a3.heap.size) := r3
      clear r1 r2 r3 ha3
      go_upto_region 11 with (first
        | (refine wpList_store_mid rfl 27 (.tmp 8) (.tmp 57) rfl a4.heap.size 0 (nc X).toArray rfl rfl (there_new a4 (by rw [nc_size HXO.out, HZN.out])) (by rw [List.size_toArray]; exact size_nc HXO.out) (nc_one _) ?_; simp only [List.toList_toArray])
        | (go_at_call 16; refine (HRO.out a3 C3.out).mono ?_; rintro e a4 ⟨rfl, g1⟩; have G4 : Hid (Below a3.heap.size a3 a4) := g1; have C4 : Hid (Below U.heap.size U a4) := Below.tr C3.out g1; clear g1))
      obtain ⟨a5, ha5⟩ : ∃ a5, (a4.alloc (.cells Zn 27)).setCells a4.heap.size 0 (nc X) = a5 := ⟨_, rfl⟩
      rw [ha5]
      obtain ⟨r1, r2, r3⟩ := laid_row (by rw [nc_length HXO.out, HZN.out]) (by rw [nc_length HXO.out]; omega) ha5
      have R8 : Hid (a5.rangeAt a4.heap.size 0 (nc X)) := r1
      have G5 : Hid (Below a4.heap.size a4 a5) := r2
      have C5 : Hid (Below U.heap.size U a5) := Below.tr C4.out r2
      have Z8 : Hid (a4.heap.size < a5.heap.size) := r3
      clear r1 r2 r3 ha5
      go_upto_region 12 with (first
        | (refine wpList_store_mid rfl 23 (.tmp 10) (.tmp 63) rfl a7.heap.size 0 (bv Y).toArray rfl rfl (there_new a7 (by rw [List.size_toArray, bv_length, HYL.out.len, HZ3.out])) (by rw [List.size_toArray]; exact size_l32 HYL.out) (bv_one' _) ?_; simp only [List.toList_toArray])
        | (go_at_call 17; refine (HRT.out v6 a6 N6.out C6.out).mono ?_; rintro e a7 ⟨rfl, g1⟩; have G7 : Hid (Below a6.heap.size a6 a7) := g1; have C7 : Hid (Below U.heap.size U a7) := Below.tr C6.out g1; clear g1)
        | (go_at_call 15; refine (HCN.out a5 C5.out).mono ?_; rintro e a6 ⟨v6, rfl, g1, g2⟩; have N6 : Hid (NS a6 v6 l) := g1; have G6 : Hid (Below a5.heap.size a5 a6) := g2; have C6 : Hid (Below U.heap.size U a6) := Below.tr C5.out g2; clear g1 g2))
      obtain ⟨a8, ha8⟩ : ∃ a8, (a7.alloc (.cells Z3 23)).setCells a7.heap.size 0 (bv Y) = a8 := ⟨_, rfl⟩
      rw [ha8]
      obtain ⟨r1, r2, r3⟩ := laid_row (by rw [bv_length, HYL.out.len, HZ3.out]) (by rw [bv_length, HYL.out.len]; omega) ha8
      have R10 : Hid (a8.rangeAt a7.heap.size 0 (bv Y)) := r1
      have G8 : Hid (Below a7.heap.size a7 a8) := r2
      have C8 : Hid (Below U.heap.size U a8) := Below.tr C7.out r2
      have Z10 : Hid (a7.heap.size < a8.heap.size) := r3
      clear r1 r2 r3 ha8
      go_upto_region 13 with (first
        | (refine wpList_store_mid rfl 23 (.tmp 12) (.tmp 68) rfl a9.heap.size 0 (bv Y).toArray rfl rfl (there_new a9 (by rw [List.size_toArray, bv_length, HYL.out.len, HZ3.out])) (by rw [List.size_toArray]; exact size_l32 HYL.out) (bv_one' _) ?_; simp only [List.toList_toArray])
        | (go_at_call 18; refine (HRR.out a8 C8.out).mono ?_; rintro e a9 ⟨rfl, g1⟩; have G9 : Hid (Below a8.heap.size a8 a9) := g1; have C9 : Hid (Below U.heap.size U a9) := Below.tr C8.out g1; clear g1))
      obtain ⟨a10, ha10⟩ : ∃ a10, (a9.alloc (.cells Z3 23)).setCells a9.heap.size 0 (bv Y) = a10 := ⟨_, rfl⟩
      rw [ha10]
      obtain ⟨r1, r2, r3⟩ := laid_row (by rw [bv_length, HYL.out.len, HZ3.out]) (by rw [bv_length, HYL.out.len]; omega) ha10
      have R12 : Hid (a10.rangeAt a9.heap.size 0 (bv Y)) := r1
      have G10 : Hid (Below a9.heap.size a9 a10) := r2
      have C10 : Hid (Below U.heap.size U a10) := Below.tr C9.out r2
      have Z12 : Hid (a9.heap.size < a10.heap.size) := r3
      clear r1 r2 r3 ha10
      clear hzn hz3
      go_wp2_with (first
        | (refine ld 27 (.tmp 6) rfl rfl a2.heap.size 0 rfl (nc X) _ (range_below R6.out (Below.tr (Below.tr (Below.tr (Below.tr (Below.tr (Below.tr (Below.tr (Below.tr (Below.tr (G4.out) G5.out) G6.out) G7.out) G8.out) G9.out) G10.out) G11.out) G12.out) G13.out) Z6.out) Tryd.underlying27 rfl (size_nc HXO.out) ?_)
        | (refine ld 27 (.tmp 8) rfl rfl a4.heap.size 0 rfl (nc X) _ (range_below R8.out (Below.tr (Below.tr (Below.tr (Below.tr (Below.tr (Below.tr (Below.tr (G6.out) G7.out) G8.out) G9.out) G10.out) G11.out) G12.out) G13.out) Z8.out) Tryd.underlying27 rfl (size_nc HXO.out) ?_)
        | (refine wp_eq_run 27 27 (.tmp 77) (.tmp 78) rfl rfl (.agg (nc X).toArray) (.agg (nc X).toArray) (.bool true) rfl rfl (eqg_nd _ _ _ _ _ a13) (eql_nd HXO.out a13) ?_)
        | (refine ld 23 (.tmp 10) rfl rfl a7.heap.size 0 rfl (bv Y) _ (range_below R10.out (Below.tr (Below.tr (Below.tr (Below.tr (G9.out) G10.out) G11.out) G12.out) G13.out) Z10.out) Tryd.underlying23 rfl (size_l32 HYL.out) ?_)
        | (refine ld 23 (.tmp 12) rfl rfl a9.heap.size 0 rfl (bv Y) _ (range_below R12.out (Below.tr (Below.tr (G11.out) G12.out) G13.out) Z12.out) Tryd.underlying23 rfl (size_l32 HYL.out) ?_)
        | (refine wp_eq_run 23 23 (.tmp 87) (.tmp 88) rfl rfl (.agg (bv Y).toArray) (.agg (bv Y).toArray) (.bool true) rfl rfl (eqg_32 _ _ _ _ _ a13) ((eql_32 HYL.out HYL.out a13).trans (by simp)) ?_)
        | (go_at_call 20; refine (HRA.out a12 C12.out).mono ?_; rintro e a13 ⟨rfl, g1⟩; have G13 : Hid (Below a12.heap.size a12 a13) := g1; have C13 : Hid (Below U.heap.size U a13) := Below.tr C12.out g1; clear g1)
        | (go_at_call 19; refine (HAP.out v11 a11 N11.out).mono ?_; rintro e a12 ⟨rfl, g1⟩; have G12 : Hid (Below a11.heap.size a11 a12) := g1; have C12 : Hid (Below U.heap.size U a12) := Below.tr C11.out g1; clear g1)
        | (go_at_call 15; refine (HCN.out a10 C10.out).mono ?_; rintro e a11 ⟨v11, rfl, g1, g2⟩; have N11 : Hid (NS a11 v11 l) := g1; have G11 : Hid (Below a10.heap.size a10 a11) := g2; have C11 : Hid (Below U.heap.size U a11) := Below.tr C10.out g2; clear g1 g2))
      go_ret
      exact ⟨rfl, Below.tr BU.out C13.out⟩
end Go.Proofs.YtoldkelnjjphiaaDoor
