/- SHA-512: mix512. -/
import Derived.Test.YtdegfgncdphepaaDoorShfC
import Derived.Test.YtdegfgncdphepaaDoorShfB
namespace Go.Proofs.YtdegfgncdphepaaDoor.Shf
open Go Go.RowKit
set_option linter.unusedSimpArgs false
set_option linter.unusedVariables false
def K5 : List Int := [4794697086780616226, 8158064640168781261, 13096744586834688815, 16840607885511220156, 4131703408338449720, 6480981068601479193, 10538285296894168987, 12329834152419229976, 15566598209576043074, 1334009975649890238, 2608012711638119052, 6128411473006802146, 8268148722764581231, 9286055187155687089, 11230858885718282805, 13951009754708518548, 16472876342353939154, 17275323862435702243, 1135362057144423861, 2597628984639134821, 3308224258029322869, 5365058923640841347, 6679025012923562964, 8573033837759648693, 10970295158949994411, 12119686244451234320, 12683024718118986047, 13788192230050041572, 14330467153632333762, 15395433587784984357, 489312712824947311, 1452737877330783856, 2861767655752347644, 3322285676063803686, 5560940570517711597, 5996557281743188959, 7280758554555802590, 8532644243296465576, 9350256976987008742, 10552545826968843579, 11727347734174303076, 12113106623233404929, 14000437183269869457, 14369950271660146224, 15101387698204529176, 15463397548674623760, 17586052441742319658, 1182934255886127544, 1847814050463011016, 2177327727835720531, 2830643537854262169, 3796741975233480872, 4115178125766777443, 5681478168544905931, 6601373596472566643, 7507060721942968483, 8399075790359081724, 8693463985226723168, 9568029438360202098, 10144078919501101548, 10430055236837252648, 11840083180663258601, 13761210420658862357, 14299343276471374635, 14566680578165727644, 15097957966210449927, 16922976911328602910, 17689382322260857208, 500013540394364858, 748580250866718886, 1242879168328830382, 1977374033974150939, 2944078676154940804, 3659926193048069267, 4368137639120453308, 4836135668995329356, 5532061633213252278, 6448918945643986474, 6902733635092675308, 7801388544844847127]
def H5 : List Int := [7640891576956012808, 13503953896175478587, 4354685564936845355, 11912009170470909681, 5840696475078001361, 11170449401992604703, 2270897969802886507, 6620516959819538809]
/-- The variables' memory, and one with letters for it. -/
def Mg (sq kc : List Value) : Mem := ((List.replicate (Nat.max 0 3 + 1) none).set 0 (some ⟨sq, 63⟩)).set 3 (some ⟨kc, 81⟩)
def K512 : List Value := K5.map (Value.int .u64)
def H512 : List Value := H5.map (Value.int .u64)
def M5 : Mem := Mg H512 K512
def gl5 : List Nat := [0, 3]
theorem M5_flat : flatM M5 = true := by kernel_rfl
theorem M5_in : insideG M5 gl5 = true := by kernel_rfl
theorem M5_cov : coversG M5 gl5 = true := by kernel_rfl
def ng : Nat := Nat.max 0 3 + 1
theorem M5_len : M5.length = ng := by kernel_rfl
structure S8 where
  (a b c d e f g h : Int)
def rowS (s : S8) : List Value := [.int .u64 s.a, .int .u64 s.b, .int .u64 s.c, .int .u64 s.d, .int .u64 s.e, .int .u64 s.f, .int .u64 s.g, .int .u64 s.h]
def aggS (s : S8) : Value := .agg (rowS s).toArray
def s8of (qs : List Value) : S8 :=
  match qs with
  | [.agg xs] => ⟨intAt xs 0, intAt xs 1, intAt xs 2, intAt xs 3, intAt xs 4, intAt xs 5, intAt xs 6, intAt xs 7⟩
  | _ => ⟨0, 0, 0, 0, 0, 0, 0, 0⟩
def and64 (x y : Int) : Int := bits .and .u64 x y
def not64 (x : Int) : Int := bits .xor .u64 18446744073709551615 x
def tOne (s : S8) (k w : Int) : Int := add64 (add64 (add64 (add64 s.h (up1 s.e)) (xor64 (and64 s.e s.f) (and64 (not64 s.e) s.g))) k) w
def tTwo (s : S8) : Int := add64 (up0 s.a) (xor64 (xor64 (and64 s.a s.b) (and64 s.a s.c)) (and64 s.b s.c))
def rnd (s : S8) (k w : Int) : S8 := ⟨add64 (tOne s k w) (tTwo s), s.a, s.b, s.c, add64 s.d (tOne s k w), s.e, s.f, s.g⟩
def addS (s t : S8) : S8 := ⟨add64 s.a t.a, add64 s.b t.b, add64 s.c t.c, add64 s.d t.d, add64 s.e t.e, add64 s.f t.f, add64 s.g t.g, add64 s.h t.h⟩
def rs (s : S8) (x : Nat → Int) : Nat → S8
  | 0 => s
  | t + 1 => rnd (rs s x t) (K5.getD t 0) (x t)
def mixS (s : S8) (x : Nat → Int) : S8 := addS s (rs s x 80)
def H5c (S : List Value → Nat → Nat → Int) : Cx := (H4.read 52 (gRd [] T80 (fun l o _ _ => V80 (S l o)))).glo gl5
theorem H5c_ok : (H5c Wd).Ok Tryd.prog := Cx.glo_ok (gSch_ok H4_ok) (by intro g hg; cases hg)
def N5 (S : List Value → Nat → Nat → Int) : Cx := (H5c S).terms
theorem N5_ok : (N5 Wd).Ok Tryd.prog := Cx.terms_ok H5c_ok
def N5t (S : List Value → Nat → Nat → Int) (d : List (Nat × Bool)) : Cx := (N5 S).tell d
theorem N5t_ok (d : List (Nat × Bool)) : (N5t Wd d).Ok Tryd.prog := Cx.tell_ok N5_ok d
theorem N5_gl : (N5 Wd).gl = gl5 := by kernel_rfl
theorem N5t_gl (d : List (Nat × Bool)) : (N5t Wd d).gl = gl5 := by kernel_rfl
def ldT (s : S8) : List Prop := (List.range 8).flatMap fun (i : Nat) => [(0 : Int) ≤ (i : Int) ∧ (i : Int) < ((8 : Nat) : Int), (rowS s)[i]? = some (.int .u64 (intL (rowS s) i))]
/-- R0 to R3, R4, the loop, the rest. -/
def mxP (c : Code) : List Code := [cL c, cL (cR c), cL (cR (cR c)), cL (cR (cR (cR c)))]
def mxQ (c : Code) : List Code := [cL (cL (cR (cR (cR (cR c)))))]
def mxB (c : Code) : Code := cL (cL (cR (cL (cR (cR (cR (cR c)))))))
def mxE (c : Code) : Code := cR (cR (cR (cR (cR c))))
theorem mx_code : bodyOf Tryd.f33 = seqs (mxP (bodyOf Tryd.f33)) (.seq (seqs (mxQ (bodyOf Tryd.f33)) (.block 0 (.loop (mxB (bodyOf Tryd.f33))))) (mxE (bodyOf Tryd.f33))) := by kernel_rfl
def mx0 (fn : Func) (sq kc l : List Value) (ty : BT) (o n k : Nat) (s : S8) : Act × Mem := (sinit fn [aggS s, slv ng o n k], Mg sq kc ++ [some ⟨l, ty⟩])
def mxS (P : Program) (S : List Value → Nat → Nat → Int) (fn : Func) (sq kc l : List Value) (ty : BT) (o n k : Nat) (s : S8) : Act × Mem := runL P (N5 S) 40 (mxP (bodyOf fn)) (mx0 fn sq kc l ty o n k s)
theorem mx_pre (S : List Value → Nat → Nat → Int) (sq kc l : List Value) (ty : BT) (o n k : Nat) (s : S8) : sexecL Tryd.prog (N5 S) 40 (mxP (bodyOf Tryd.f33)) [] (mx0 Tryd.f33 sq kc l ty o n k s) = some ([l.all flatR = true, T80 l o n k []] ++ ldT s, mxS Tryd.prog S Tryd.f33 sq kc l ty o n k s) := by kernel_rfl
/-- The loop's head. -/
def mxF : List Nat := [0, 1, 3] ++ (List.range 21).map (· + 14) ++ (List.range 83).map (· + 36)
def z8 : List Value := List.replicate 8 (.int .u64 0)
def mxhd (sq kc l : List Value) (ty : BT) (s : S8) (ws : List Value) (i : Int) (t : S8) : Act × Mem :=
  (⟨#[poison, poison, ptr (ng + 1), poison, ptr (ng + 2), ptr (ng + 3), .int .u64 t.a, .int .u64 t.b, .int .u64 t.c, .int .u64 t.d, .int .u64 t.e, .int .u64 t.f, .int .u64 t.g, .int .u64 t.h] ++ Array.replicate 21 poison ++ #[.int .i64 i] ++ Array.replicate 83 poison, []⟩,
   Mg sq kc ++ [some ⟨l, ty⟩, some ⟨rowS s, 63⟩, some ⟨z8, 63⟩, some ⟨ws, 81⟩])
def mxK (s : Act × Mem) : Act × Mem := (forgetL s.1 mxF, s.2)
def mxS1 (P : Program) (S : List Value → Nat → Nat → Int) (fn : Func) (sq kc l : List Value) (ty : BT) (o n k : Nat) (s : S8) : Act × Mem := runL P (N5 S) 40 (mxQ (bodyOf fn)) (mxS P S fn sq kc l ty o n k s)
theorem mx_pre1 (S : List Value → Nat → Nat → Int) (sq kc l : List Value) (ty : BT) (o n k : Nat) (s : S8) : sexecL Tryd.prog (N5 S) 40 (mxQ (bodyOf Tryd.f33)) [] (mxS Tryd.prog S Tryd.f33 sq kc l ty o n k s) = some ([], mxS1 Tryd.prog S Tryd.f33 sq kc l ty o n k s) := by kernel_rfl
theorem mx_h0 (S : List Value → Nat → Nat → Int) (sq kc l : List Value) (ty : BT) (o n k : Nat) (s : S8) : mxK (mxS1 Tryd.prog S Tryd.f33 sq kc l ty o n k s) = mxhd sq kc l ty s (row80 (S l o)) 0 s := by kernel_rfl
def mxT (kc ws : List Value) (i : Int) : List Prop := [decide (i < 80) = true, 0 ≤ i ∧ i < ((80 : Nat) : Int), kc[at0 i]? = some (.int .u64 (intL kc (at0 i))), 0 ≤ i ∧ i < ((80 : Nat) : Int), ws[at0 i]? = some (.int .u64 (intL ws (at0 i)))]
theorem mx_round (S : List Value → Nat → Nat → Int) (sq kc l : List Value) (ty : BT) (s : S8) (ws : List Value) (i : Int) (t : S8) : proj mxK (sexec Tryd.prog (N5t S [(36, true)]) 40 (mxB (bodyOf Tryd.f33)) [] (mxhd sq kc l ty s ws i t)) =
    some (mxT kc ws i, mxhd sq kc l ty s ws (IntKind.i64.wrap (i + 1)) (rnd t (intL kc (at0 i)) (intL ws (at0 i)))) := by kernel_rfl
def mxX (P : Program) (S : List Value → Nat → Nat → Int) (fn : Func) (sq kc l : List Value) (ty : BT) (s : S8) (ws : List Value) (t : S8) : Act × Mem := runS P (N5 S) 40 (mxB (bodyOf fn)) (mxhd sq kc l ty s ws 80 t)
theorem mx_exit (S : List Value → Nat → Nat → Int) (sq kc l : List Value) (ty : BT) (s : S8) (ws : List Value) (t : S8) : sexec Tryd.prog (N5 S) 40 (mxB (bodyOf Tryd.f33)) [] (mxhd sq kc l ty s ws 80 t) = some ([], .exit 0, mxX Tryd.prog S Tryd.f33 sq kc l ty s ws t) := by kernel_rfl
def mxZ (P : Program) (S : List Value → Nat → Nat → Int) (fn : Func) (sq kc l : List Value) (ty : BT) (s : S8) (ws : List Value) (t : S8) : Act × Mem := runS P (N5 S) 60 (mxE (bodyOf fn)) (mxX P S fn sq kc l ty s ws t)
theorem mx_end (S : List Value → Nat → Nat → Int) (sq kc l : List Value) (ty : BT) (s : S8) (ws : List Value) (t : S8) : sexec Tryd.prog (N5 S) 60 (mxE (bodyOf Tryd.f33)) [] (mxX Tryd.prog S Tryd.f33 sq kc l ty s ws t) = some (ldT s, .ret, mxZ Tryd.prog S Tryd.f33 sq kc l ty s ws t) := by kernel_rfl
theorem mx_res (S : List Value → Nat → Nat → Int) (sq kc l : List Value) (ty : BT) (s : S8) (ws : List Value) (t : S8) : sres Tryd.prog Tryd.f33 (mxZ Tryd.prog S Tryd.f33 sq kc l ty s ws t) = some (aggS (addS s t)) := by kernel_rfl
theorem mx_def (S : List Value → Nat → Nat → Int) (sq kc l : List Value) (ty : BT) (s : S8) (ws : List Value) (t : S8) : (mxZ Tryd.prog S Tryd.f33 sq kc l ty s ws t).1.defers = [] := by kernel_rfl
theorem mx_mem (S : List Value → Nat → Nat → Int) (sq kc l : List Value) (ty : BT) (s : S8) (ws : List Value) (t : S8) : (mxZ Tryd.prog S Tryd.f33 sq kc l ty s ws t).2 = (Mg sq kc ++ [some ⟨l, ty⟩]) ++ (mxZ Tryd.prog S Tryd.f33 sq kc l ty s ws t).2.drop (ng + 1) := by kernel_rfl
theorem ldT_ok (s : S8) : ∀ p ∈ ldT s, p := by
  intro p hp
  unfold ldT at hp
  obtain ⟨i, hi, hp⟩ := List.mem_flatMap.1 hp
  rw [List.mem_range] at hi
  simp only [List.mem_cons, List.not_mem_nil, or_false] at hp
  rcases hp with rfl | rfl
  · omega
  · have : i = 0 ∨ i = 1 ∨ i = 2 ∨ i = 3 ∨ i = 4 ∨ i = 5 ∨ i = 6 ∨ i = 7 := by omega
    rcases this with rfl | rfl | rfl | rfl | rfl | rfl | rfl | rfl <;> rfl
theorem K512_at {t : Nat} (h : t < 80) : K512[t]? = some (.int .u64 (intL K512 t)) ∧ intL K512 t = K5.getD t 0 := by
  have hl : K5.length = 80 := by kernel_rfl
  have e : K512[t]? = some (.int .u64 (K5.getD t 0)) := by
    unfold K512
    rw [List.getElem?_map, List.getElem?_eq_getElem (by omega)]
    simp [hl, h]
  have e2 : intL K512 t = K5.getD t 0 := by unfold intL; rw [e]
  exact ⟨by rw [e2]; exact e, e2⟩
theorem row80_at (x : Nat → Int) {t : Nat} (h : t < 80) : (row80 x)[t]? = some (.int .u64 (intL (row80 x) t)) ∧ intL (row80 x) t = x t := by
  have e : (row80 x)[t]? = some (.int .u64 (x t)) := by
    unfold row80
    rw [List.getElem?_map, List.getElem?_range h]; rfl
  have e2 : intL (row80 x) t = x t := by unfold intL; rw [e]
  exact ⟨by rw [e2]; exact e, e2⟩
def mxQf (P : Program) (fn : Func) (l : List Value) (ty : BT) (o : Nat) (s : S8) : Exit → Act × Mem → Prop := fun e z => (e = .normal ∨ e = .ret) ∧ z.1.defers = [] ∧ ∃ v x, sres P fn z = some v ∧ (flat v = true ∨ v = undef) ∧ z.2 = (M5 ++ [some ⟨l, ty⟩]) ++ x ∧ v = aggS (mixS s (Wd l o))
theorem mx_r (l : List Value) (ty : BT) (s : S8) (x : Nat → Int) (t : Nat) (ht : t < 80) (Q : Exit → Act × Mem → Prop) : SW Tryd.prog gl5 (mxB (bodyOf Tryd.f33)) (mxhd H512 K512 l ty s (row80 x) (t : Int) (rs s x t)) (thenS (fun z => (forgetL z.1 mxF, z.2) = mxhd H512 K512 l ty s (row80 x) ((t + 1 : Nat) : Int) (rs s x (t + 1))) Q) := by
  obtain ⟨k1, k2⟩ := K512_at ht
  obtain ⟨r1, r2⟩ := row80_at x ht
  obtain ⟨z, hs, he⟩ := proj_some (mx_round Wd H512 K512 l ty s (row80 x) (t : Int) (rs s x t))
  refine SW.runG (N5t_ok _) mixed (N5t_gl _) 40 hs ?_ (thenS_norm ?_)
  · intro p hp
    unfold mxT at hp
    rw [at0_nat] at hp
    simp only [List.mem_cons, List.not_mem_nil, or_false] at hp
    rcases hp with rfl | rfl | rfl | rfl | rfl
    · simp; omega
    · omega
    · exact k1
    · omega
    · exact r1
  · rw [at0_nat, wrap_i64 (by omega) (by omega), show ((t : Nat) : Int) + 1 = ((t + 1 : Nat) : Int) by omega, k2, r2] at he
    exact he
theorem mx_one (l : List Value) (ty : BT) (o n k : Nat) (s : S8) (hl : l.all flatR = true) (hk : 128 ≤ k) (hb : ByAt l o 128) : SW Tryd.prog gl5 (bodyOf Tryd.f33) (mx0 Tryd.f33 H512 K512 l ty o n k s) (mxQf Tryd.prog Tryd.f33 l ty o s) := by
  rw [mx_code]
  refine SW.preG N5_ok mixed N5_gl rfl (mx_pre Wd H512 K512 l ty o n k s) ?_ (SW.seq ?_)
  · intro p hp
    rcases List.mem_append.1 hp with hp | hp
    · simp only [List.mem_cons, List.not_mem_nil, or_false] at hp
      rcases hp with rfl | rfl
      · exact hl
      · exact ⟨rfl, hk, hb⟩
    · exact ldT_ok s p hp
  refine SW.preG N5_ok mixed N5_gl rfl (mx_pre1 Wd H512 K512 l ty o n k s) (by simp) (SW.block ?_)
  refine SW.loopK rfl mxF (fun t => mxhd H512 K512 l ty s (row80 (Wd l o)) (t : Int) (rs s (Wd l o) t)) 0 80 (mx_h0 Wd H512 K512 l ty o n k s) (by decide) (fun t _ ht => mx_r l ty s (Wd l o) t ht _) ?_
  refine SW.runG N5_ok mixed N5_gl 40 (mx_exit Wd H512 K512 l ty s _ _) (by simp) (thenS_exit (blockS_exit (thenS_norm ?_)))
  exact SW.runG N5_ok mixed N5_gl 60 (mx_end Wd H512 K512 l ty s _ _) (ldT_ok s) ⟨.inr rfl, mx_def Wd H512 K512 l ty s _ _, _, _, mx_res Wd H512 K512 l ty s _ _, .inl rfl, mx_mem Wd H512 K512 l ty s _ _, rfl⟩
def Tmx (l : List Value) (o n k : Nat) (qs : List Value) : Prop := qs = [aggS (s8of qs)] ∧ 128 ≤ k ∧ ByAt l o 128
def Vmx (M : S8 → List Value → Nat → S8) (l : List Value) (o n : Nat) (qs : List Value) : Value := aggS (M (s8of qs) l o)
def mixL (s : S8) (l : List Value) (o : Nat) : S8 := mixS s (Wd l o)
theorem gMix_ok {X : Cx} (hX : X.Ok Tryd.prog) (hc : coversG M5 X.gl = true) : (X.read 33 (gRd M5 Tmx (Vmx mixL))).Ok Tryd.prog := by
  refine gRd_ok (gl := gl5) hX M5_flat hc M5_in Tryd.func33 (by kernel_rfl) (show _ = some (bodyOf Tryd.f33) from (by kernel_rfl)) ?_
  rintro l ty o n k qs hl hq ⟨hqs, hk, hb⟩
  refine ⟨rfl, ?_⟩
  rw [hqs]
  exact mx_one l ty o n k (s8of qs) hl hk hb
end Go.Proofs.YtdegfgncdphepaaDoor.Shf
/- Contracts of functions that write behind one slice. -/
namespace Go.Proofs.YtdegfgncdphepaaDoor
open Go Go.RowKit
set_option linter.unusedSimpArgs false
set_option linter.unusedVariables false
variable {r : Ren} {w : World} {m : Mem} {P : Program} {X : Cx}
def oneR0 (c : Nat) : Ren := fun k => if k = 0 then some c else none
/-- The contract: the first argument is a slice, the others are flat; the slice's block is written. -/
def gW1 (T : List Value → Nat → Nat → Nat → List Value → Prop) (U : List Value → Nat → List Value → List Value) (args : List Value) (m : Mem) : Option (List Prop × Value × Mem) :=
  match args with
  | .slice (some ⟨b, o, none⟩) n k :: qs => if qs.all flat then
      match getB m b with
      | some B => if B.ty.fz = (0, 0) then some ([B.cells.all flat1 = true, T B.cells o n k qs], .tuple #[], m.set b (some ⟨U B.cells o qs, B.ty⟩)) else none
      | none => none
    else none
  | _ => none
theorem gW1_ok (hX : X.Ok P) {f : FuncId} {fn : Func} {c : Code} (hf : P.funcs[f]? = some fn) (hname : (fn.name == "runtime.NumGoroutine") = false) (hb : fn.body = some c)
    {T : List Value → Nat → Nat → Nat → List Value → Prop} {U : List Value → Nat → List Value → List Value}
    (h : ∀ l (ty : TypeId) o n k qs, l.all flat1 = true → qs.all flat = true → T l o n k qs → (U l o qs).all flat1 = true ∧
      SW P [] c (sinit fn (.slice (some ⟨0, o, none⟩) n k :: qs), [some ⟨l, ⟨ty, (0, 0)⟩⟩]) fun e s => (e = .normal ∨ e = .ret) ∧ s.1.defers = [] ∧ ∃ v x, sres P fn s = some v ∧ (flat v = true ∨ v = undef) ∧ s.2 = [some ⟨U l o qs, ⟨ty, (0, 0)⟩⟩] ++ x ∧ v = .tuple #[]) :
    (X.write f (gW1 T U)).Ok P := by
  refine Cx.write_ok hX (fun args m ps v m' hg hp r w args' hr hgl ha => ?_)
  unfold gW1 at hg
  split at hg
  · rename_i b o n k qs
    split at hg
    · rename_i hall
      cases hB : getB m b with
      | none => simp [hB] at hg
      | some B =>
        simp only [hB] at hg
        split at hg
        case isFalse => simp at hg
        rename_i hz
        simp only [Option.some.injEq, Prod.mk.injEq] at hg
        obtain ⟨rfl, rfl, rfl⟩ := hg
        have hfl := hp _ (List.mem_cons_self)
        have hT := hp _ (List.mem_cons_of_mem _ (List.mem_singleton.2 rfl))
        obtain ⟨h1, h2⟩ := h B.cells B.ty.id o n k qs hfl hall hT
        have hty : (⟨B.ty.id, (0, 0)⟩ : BT) = B.ty := by rw [← hz]
        rw [hty] at h2
        obtain ⟨c0, cs, p1, p2, p3⟩ := hr.cells b B hB
        obtain ⟨v1, q1, e1, e2, rfl⟩ := trL_cons ha
        rw [tr_of_slice p1] at e1
        rw [trL_flat hall] at e2
        cases e1; cases e2
        have hR := hr.one hB p1 p2 hfl
        have ha1 : trL (tr (oneR0 c0)) (.slice (some ⟨0, o, none⟩) n k :: qs) = some (.slice (some ⟨c0, o, none⟩) n k :: qs) := trL_mk (tr_of_slice (by simp [oneR0])) (trL_flat hall)
        refine call_enter hf hname hb ((calls_of_SWm (m' := [some ⟨U B.cells o qs, B.ty⟩]) hf hb ?_ ?_ h2 hR (fun _ h => absurd h List.not_mem_nil) ha1).mono ?_)
        · intro k' B' hk
          have := getB_lt hk
          simp at this; subst this
          simp [getB] at hk; subst hk
          exact ⟨⟨B, rfl⟩, h1⟩
        · intro k' B' hk
          have := getB_lt hk
          simp at this; subst this
          exact ⟨_, rfl⟩
        · rintro e w' ⟨u, rfl, rfl, hr1, hfr⟩
          refine ⟨_, rfl, rfl, ?_, ?_⟩
          · have hlt := getB_lt hB
            refine ⟨fun b2 B2 hB2 => ?_, fun b2 c2 hc2 => ?_, hr.inj⟩
            · rw [getB_set] at hB2
              split at hB2
              · rename_i e
                obtain ⟨rfl, _⟩ := e
                cases hB2
                obtain ⟨c2, cs2, z1, z2, z3⟩ := hr1.cells 0 ⟨U B.cells o qs, B.ty⟩ rfl
                simp at z1; subst z1
                rw [trL_all (tr1_flat _) h1] at z2
                cases z2
                exact ⟨c0, _, p1, trL_all (tr1_flat r) h1, z3⟩
              · rename_i e
                obtain ⟨c2, cs2, z1, z2, z3⟩ := hr.cells b2 B2 hB2
                refine ⟨c2, cs2, z1, z2, ?_⟩
                rw [hfr.block c2 (hr.lt z1) (fun k' hk' => ?_)]
                · exact z3
                · split at hk'
                  · cases hk'
                    exact e ⟨hr.inj b2 b c0 z1 p1, hlt⟩
                  · cases hk'
            · rw [getB_set]
              by_cases e : b2 = b
              · rw [if_pos ⟨e, hlt⟩]; exact ⟨_, rfl⟩
              · rw [if_neg (fun x => e x.1)]; exact hr.full b2 c2 hc2
          · refine ⟨hfr.os, hfr.tape, hfr.output, hfr.size, fun k' hk' hn => hfr.block k' hk' (fun b2 hb2 => ?_)⟩
            split at hb2
            · cases hb2; exact hn b p1
            · cases hb2
    · simp at hg
  · simp at hg
theorem putL_len (l xs : List Value) (o : Nat) (h : o + xs.length ≤ l.length) : (putL l o xs).length = l.length := by
  unfold putL; simp; omega
theorem putL_putL (l xs ys : List Value) (o : Nat) (h : o + xs.length + ys.length ≤ l.length) : putL (putL l o xs) (o + xs.length) ys = putL l o (xs ++ ys) := by
  unfold putL
  have e1 : (l.take o ++ (xs ++ l.drop (o + xs.length))).take (o + xs.length) = l.take o ++ xs := by
    rw [← List.append_assoc, List.take_left' (by simp; omega)]
  have e2 : (l.take o ++ (xs ++ l.drop (o + xs.length))).drop (o + xs.length + ys.length) = l.drop (o + (xs ++ ys).length) := by
    rw [← List.drop_drop, ← List.append_assoc, List.drop_left' (by simp; omega), List.drop_drop]
    congr 1; simp; omega
  rw [e1, e2]; simp
theorem putL_all (l xs : List Value) (o : Nat) (p : Value → Bool) (hl : l.all p = true) (hx : xs.all p = true) : (putL l o xs).all p = true := by
  unfold putL
  simp only [List.all_append, Bool.and_eq_true]
  refine ⟨?_, hx, ?_⟩
  · exact List.all_eq_true.2 fun v hv => List.all_eq_true.1 hl v (List.mem_of_mem_take hv)
  · exact List.all_eq_true.2 fun v hv => List.all_eq_true.1 hl v (List.mem_of_mem_drop hv)
theorem putL_get_in (l xs : List Value) (o j : Nat) (h : o + xs.length ≤ l.length) (hj : j < xs.length) : (putL l o xs)[o + j]? = xs[j]? := by
  unfold putL
  rw [List.getElem?_append_right (by simp; omega)]
  simp only [List.length_take]
  rw [show o + j - min o l.length = j by omega, List.getElem?_append_left hj]
theorem putL_get_out (l xs : List Value) (o i : Nat) (h : o + xs.length ≤ l.length) (hi : i < o ∨ o + xs.length ≤ i) : (putL l o xs)[i]? = l[i]? := by
  unfold putL
  rcases hi with hi | hi
  · rw [List.getElem?_append_left (by simp; omega), List.getElem?_take, if_pos hi]
  · rw [List.getElem?_append_right (by simp; omega), List.getElem?_append_right (by simp; omega)]
    simp only [List.length_take, List.getElem?_drop]
    congr 1; omega
end Go.Proofs.YtdegfgncdphepaaDoor
