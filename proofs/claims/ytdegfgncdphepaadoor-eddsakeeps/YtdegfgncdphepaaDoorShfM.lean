/- SHA-512: Mul64, of a number and of 8. -/
import Derived.Test.YtdegfgncdphepaaDoorShfE
import Derived.Lib.Mul64
namespace Go.Proofs.YtdegfgncdphepaaDoor.Shf
open Go Go.RowKit
set_option linter.unusedSimpArgs false
set_option linter.unusedVariables false
theorem maskN (a : Nat) (ha : a < 18446744073709551616) : bits .and .u64 (a : Int) 4294967295 = ((a % 4294967296 : Nat) : Int) := by
  have h := bits_and_u64_nat a 4294967295 ha (by omega)
  have e : a &&& 4294967295 = a % 4294967296 := Nat.and_two_pow_sub_one_eq_mod a 32
  rw [e] at h
  exact h
def mHi (x : Int) : Int := IntKind.u64.wrap (IntKind.u64.wrap (IntKind.u64.wrap (Int.fdiv x (2 ^ 32) * 0) + Int.fdiv (IntKind.u64.wrap (IntKind.u64.wrap (Int.fdiv x (2 ^ 32) * 8) + Int.fdiv (IntKind.u64.wrap (bits .and .u64 x 4294967295 * 8)) (2 ^ 32))) (2 ^ 32)) + Int.fdiv (IntKind.u64.wrap (bits .and .u64 (IntKind.u64.wrap (IntKind.u64.wrap (Int.fdiv x (2 ^ 32) * 8) + Int.fdiv (IntKind.u64.wrap (bits .and .u64 x 4294967295 * 8)) (2 ^ 32))) 4294967295 + IntKind.u64.wrap (bits .and .u64 x 4294967295 * 0))) (2 ^ 32))
theorem mul_run (x : Int) : sfun Tryd.prog Cx.none 60 Tryd.f34 (bodyOf Tryd.f34) [.int .u64 x, .int .u64 8] = some ([], .tuple #[.int .u64 (mHi x), .int .u64 (IntKind.u64.wrap (x * 8))]) := by kernel_rfl
theorem mHi_eq (n : Nat) (h : n < 1152921504606846976) : mHi (n : Int) = 0 ∧ IntKind.u64.wrap ((n : Int) * 8) = ((8 * n : Nat) : Int) := by
  have e1 : Int.fdiv (n : Int) (2 ^ 32) = ((n / 4294967296 : Nat) : Int) := by rw [Int.fdiv_eq_ediv_of_nonneg _ (by decide)]; omega
  have w : ∀ k : Nat, k < 18446744073709551616 → IntKind.u64.wrap (k : Int) = (k : Int) := fun k hk => by rw [IntKind.wrap_u64]; omega
  have d : ∀ k : Nat, Int.fdiv (k : Int) (2 ^ 32) = ((k / 4294967296 : Nat) : Int) := fun k => by rw [Int.fdiv_eq_ediv_of_nonneg _ (by decide)]; omega
  constructor
  · unfold mHi
    rw [e1, maskN n (by omega)]
    have a1 : ((n % 4294967296 : Nat) : Int) * 8 = ((n % 4294967296 * 8 : Nat) : Int) := by omega
    have a2 : ((n / 4294967296 : Nat) : Int) * 8 = ((n / 4294967296 * 8 : Nat) : Int) := by omega
    rw [Int.mul_zero, Int.mul_zero, a1, a2, w _ (by omega), w _ (by omega), d]
    have a3 : ((n / 4294967296 * 8 : Nat) : Int) + ((n % 4294967296 * 8 / 4294967296 : Nat) : Int) = ((n / 4294967296 * 8 + n % 4294967296 * 8 / 4294967296 : Nat) : Int) := by omega
    rw [a3, w _ (by omega), maskN _ (by omega), d, show (0 : Int) = ((0 : Nat) : Int) from rfl, w 0 (by omega)]
    have a4 : (((n / 4294967296 * 8 + n % 4294967296 * 8 / 4294967296) % 4294967296 : Nat) : Int) + ((0 : Nat) : Int) = (((n / 4294967296 * 8 + n % 4294967296 * 8 / 4294967296) % 4294967296 : Nat) : Int) := by omega
    rw [a4, w _ (by omega), d]
    have a5 : (n / 4294967296 * 8 + n % 4294967296 * 8 / 4294967296) / 4294967296 = 0 := by omega
    have a6 : (n / 4294967296 * 8 + n % 4294967296 * 8 / 4294967296) % 4294967296 / 4294967296 = 0 := by omega
    rw [a5, a6]
    rfl
  · rw [IntKind.wrap_u64]; omega
def gMul8 (args : List Value) : Option (List Prop × Value) :=
  match args with
  | [.int .u64 x, .int .u64 8] => some ([0 ≤ x ∧ x < 1152921504606846976], .tuple #[.int .u64 0, .int .u64 (8 * x)])
  | _ => none
theorem gMul8_ok {X : Cx} (hX : X.Ok Tryd.prog) : (X.pure 34 gMul8).Ok Tryd.prog := by
  refine gBody_ok hX Tryd.func34 (by kernel_rfl) (by kernel_rfl) fun args ps v ha hg hp => ?_
  unfold gMul8 at hg
  split at hg
  · rename_i x
    simp only [Option.some.injEq, Prod.mk.injEq] at hg
    obtain ⟨rfl, rfl⟩ := hg
    obtain ⟨x0, x1⟩ := hp _ (List.mem_singleton.2 rfl)
    obtain ⟨n, rfl⟩ := Int.eq_ofNat_of_zero_le x0
    obtain ⟨e1, e2⟩ := mHi_eq n (by omega)
    refine ⟨.inl rfl, fun w => ?_⟩
    have run := mul_run (n : Int)
    rw [e1, e2] at run
    have e3 : (8 : Int) * (n : Int) = ((8 * n : Nat) : Int) := by omega
    rw [e3]
    exact sfun_calls Cx.none_ok mixed Tryd.func34 (by kernel_rfl) run (by simp) ha (.inl rfl) w
  · simp at hg
end Go.Proofs.YtdegfgncdphepaaDoor.Shf
/- SHA-512: Sum512. -/
namespace Go.Proofs.YtdegfgncdphepaaDoor.Shf
open Go Go.RowKit
set_option linter.unusedSimpArgs false
set_option linter.unusedVariables false
def G6 (M : S8 → List Value → Nat → S8) : Cx := (((((Cx.none.glo gl5).read 33 (gRd M5 Tmx (Vmx M))).write 35 (gW1 Tp64 Up64)).pure 36 gByt).pure 34 gMul8)
theorem G6_ok : (G6 mixL).Ok Tryd.prog := gMul8_ok (gByt_ok (gP64_ok (gMix_ok (Cx.glo_ok Cx.none_ok (by intro g hg; cases hg)) (by kernel_rfl))))
def N6 (M : S8 → List Value → Nat → S8) (d : List (Nat × Bool)) : Cx := (G6 M).terms.tell d
theorem N6_ok (d : List (Nat × Bool)) : (N6 mixL d).Ok Tryd.prog := Cx.tell_ok (Cx.terms_ok G6_ok) d
theorem N6_gl (d : List (Nat × Bool)) : (N6 mixL d).gl = gl5 := by kernel_rfl
def smP (c : Code) : List Code := [cL c, cL (cR c), cL (cR (cR c))]
def smB (c : Code) : Code := cL (cL (cL (cR (cR (cR c)))))
def smR (c : Code) : Code := cR (cR (cR (cR c)))
def smC (c : Code) : List Code := [cL (smR c), cL (cR (smR c)), cL (cR (cR (smR c)))]
def smE (c : Code) : Code := cR (cR (cR (smR c)))
theorem sm_code : bodyOf Tryd.f16 = seqs (smP (bodyOf Tryd.f16)) (.seq (.block 0 (.loop (smB (bodyOf Tryd.f16)))) (seqs (smC (bodyOf Tryd.f16)) (smE (bodyOf Tryd.f16)))) := by kernel_rfl
def smF : List Nat := [1] ++ (List.range 53).map (· + 5)
def smhd (l : List Value) (ty : BT) (o n k : Nat) (s : S8) (o' n' k' : Nat) : Act × Mem :=
  (⟨#[slv ng o n k, poison, ptr (ng + 1), ptr (ng + 2), slv ng o' n' k'] ++ Array.replicate 53 poison, []⟩, M5 ++ [some ⟨l, ty⟩, some ⟨z64, 25⟩, some ⟨rowS s, 63⟩])
def smK (s : Act × Mem) : Act × Mem := (forgetL s.1 smF, s.2)
def s0H : S8 := ⟨intL H512 0, intL H512 1, intL H512 2, intL H512 3, intL H512 4, intL H512 5, intL H512 6, intL H512 7⟩
def smS (P : Program) (M : S8 → List Value → Nat → S8) (fn : Func) (l : List Value) (ty : BT) (o n k : Nat) : Act × Mem := runL P (N6 M []) 40 (smP (bodyOf fn)) (sinit fn [slv ng o n k], M5 ++ [some ⟨l, ty⟩])
theorem sm_pre (M : S8 → List Value → Nat → S8) (l : List Value) (ty : BT) (o n k : Nat) : sexecL Tryd.prog (N6 M []) 40 (smP (bodyOf Tryd.f16)) [] (sinit Tryd.f16 [slv ng o n k], M5 ++ [some ⟨l, ty⟩]) = some ([], smS Tryd.prog M Tryd.f16 l ty o n k) := by kernel_rfl
theorem sm_h0 (M : S8 → List Value → Nat → S8) (l : List Value) (ty : BT) (o n k : Nat) : smK (smS Tryd.prog M Tryd.f16 l ty o n k) = smhd l ty o n k s0H o n k := by kernel_rfl
def smT (l : List Value) (s : S8) (o' n' k' : Nat) : List Prop := [decide ((n' : Int) ≥ 128) = true, (0 : Int) ≤ 128 ∧ (128 : Int) ≤ ((k' + 128 : Nat) : Int), l.all flatR = true, Tmx l o' 128 (k' + 128) [aggS s], (0 : Int) ≤ 128 ∧ (128 : Int) ≤ (n' : Int)]
def nxO (o' k' : Nat) : Nat := if k' + 128 = 128 then o' else o' + 128 * 1
theorem sm_round (M : S8 → List Value → Nat → S8) (l : List Value) (ty : BT) (o n k : Nat) (s : S8) (o' n' k' : Nat) : proj smK (sexec Tryd.prog (N6 M [(14, true)]) 40 (smB (bodyOf Tryd.f16)) [] (smhd l ty o n k s o' n' (k' + 128))) =
    some (smT l s o' n' k', smhd l ty o n k (M s l o') (nxO o' k') (n' - 128) (k' + 128 - 128)) := by kernel_rfl
def smX (P : Program) (M : S8 → List Value → Nat → S8) (fn : Func) (l : List Value) (ty : BT) (o n k : Nat) (s : S8) (o' n' k' : Nat) : Act × Mem := runS P (N6 M [(14, false)]) 40 (smB (bodyOf fn)) (smhd l ty o n k s o' n' k')
theorem sm_exit (M : S8 → List Value → Nat → S8) (l : List Value) (ty : BT) (o n k : Nat) (s : S8) (o' n' k' : Nat) : sexec Tryd.prog (N6 M [(14, false)]) 40 (smB (bodyOf Tryd.f16)) [] (smhd l ty o n k s o' n' k') = some ([decide ((n' : Int) ≥ 128) = false], .exit 0, smX Tryd.prog M Tryd.f16 l ty o n k s o' n' k') := by kernel_rfl
def z256 : List Value := List.replicate 256 (.int .u8 0)
def cpy (l : List Value) (o' n' : Nat) : List Value := setL z256 0 ((l.drop o').take (Nat.min n' 256))
def held (n' : Nat) : Int := ((Nat.min n' 256 : Nat) : Int)
def smU (P : Program) (M : S8 → List Value → Nat → S8) (fn : Func) (l : List Value) (ty : BT) (o n k : Nat) (s : S8) (o' n' k' : Nat) : Act × Mem := runL P (N6 M [(999999, true)]) 40 (smC (bodyOf fn)) (smX P M fn l ty o n k s o' n' k')
def smUT (l : List Value) (o' n' : Nat) : List Prop := [0 + Nat.min n' 256 ≤ z256.length ∧ o' + Nat.min n' 256 ≤ l.length, 0 ≤ held n' ∧ held n' < ((256 : Nat) : Int), 1 = 1 ∧ at0 (held n') + 1 ≤ (cpy l o' n').length]
theorem sm_mid (M : S8 → List Value → Nat → S8) (l : List Value) (ty : BT) (o n k : Nat) (s : S8) (o' n' k' : Nat) : sexecL Tryd.prog (N6 M [(999999, true)]) 40 (smC (bodyOf Tryd.f16)) [] (smX Tryd.prog M Tryd.f16 l ty o n k s o' n' k') = some (smUT l o' n', smU Tryd.prog M Tryd.f16 l ty o n k s o' n' k') := by kernel_rfl
def suF : List Nat := [1, 4] ++ (List.range 51).map (· + 7)
def suhd (l : List Value) (ty : BT) (o n k : Nat) (s : S8) (q : List Value) (h : Int) : Act × Mem :=
  (⟨#[slv ng o n k, poison, ptr (ng + 1), ptr (ng + 2), poison, ptr (ng + 3), .int .i64 h] ++ Array.replicate 51 poison, []⟩, M5 ++ [some ⟨l, ty⟩, some ⟨z64, 25⟩, some ⟨rowS s, 63⟩, some ⟨q, 65⟩])
def suK (s : Act × Mem) : Act × Mem := (forgetL s.1 suF, s.2)
theorem sm_h2 (M : S8 → List Value → Nat → S8) (l : List Value) (ty : BT) (o n k : Nat) (s : S8) (o' n' k' : Nat) : suK (smU Tryd.prog M Tryd.f16 l ty o n k s o' n' k') = suhd l ty o n k s (putL (cpy l o' n') (at0 (held n')) [.int .u8 128]) (held n') := by kernel_rfl
def bdT (lo hi cap : Nat) : List Prop := [(0 : Int) ≤ (hi : Int) ∧ (hi : Int) ≤ (cap : Int), (0 : Int) ≤ (lo : Int) ∧ (lo : Int) ≤ (hi : Int)]
def ln (n : Nat) : Int := IntKind.u64.wrap (n : Int)
def qA (q : List Value) (e : Nat) : List Value := putL q (e - 16) (by64 0)
def qB (q : List Value) (e n : Nat) : List Value := putL (qA q e) (e - 8) (by64 (8 * ln n))
def suT (q : List Value) (e n : Nat) (s : S8) : List Prop := [0 ≤ ln n ∧ ln n < 1152921504606846976] ++ bdT (e - 16) (e - 8) 256 ++ [q.all flat1 = true, Tp64 q (e - 16) 8 (256 - (e - 16)) [.int .u64 0]] ++ bdT (e - 8) e 256 ++ [(qA q e).all flat1 = true, Tp64 (qA q e) (e - 8) 8 (256 - (e - 8)) [.int .u64 (8 * ln n)]] ++ [(0 : Int) ≤ 128 ∧ (128 : Int) ≤ ((256 : Nat) : Int), (qB q e n).all flatR = true, Tmx (qB q e n) 0 128 256 [aggS s]]
def suZ (P : Program) (M : S8 → List Value → Nat → S8) (b : Bool) (fn : Func) (l : List Value) (ty : BT) (o n k : Nat) (s : S8) (q : List Value) (h : Int) : Act × Mem := runS P (N6 M [(27, b)]) 60 (smE (bodyOf fn)) (suhd l ty o n k s q h)
def oneS (s : S8) : Prop := [aggS s] = [aggS (s8of [aggS s])]
theorem su_f (M : S8 → List Value → Nat → S8) (l : List Value) (ty : BT) (o n k : Nat) (s : S8) (q : List Value) (h : Int) : sexec Tryd.prog (N6 M [(27, false)]) 60 (smE (bodyOf Tryd.f16)) [] (suhd l ty o n k s q h) = some ([decide (h ≥ 112) = false] ++ suT q 128 n s ++ [oneS (M s (qB q 128 n) 0)], .ret, suZ Tryd.prog M false Tryd.f16 l ty o n k s q h) := by kernel_rfl
theorem su_t (M : S8 → List Value → Nat → S8) (l : List Value) (ty : BT) (o n k : Nat) (s : S8) (q : List Value) (h : Int) : sexec Tryd.prog (N6 M [(27, true)]) 60 (smE (bodyOf Tryd.f16)) [] (suhd l ty o n k s q h) = some ([decide (h ≥ 112) = true] ++ suT q 256 n s ++ [(0 : Int) ≤ 128 ∧ (128 : Int) ≤ ((256 : Nat) : Int), (qB q 256 n).all flatR = true, Tmx (qB q 256 n) 128 128 (256 - 128) [aggS (M s (qB q 256 n) 0)], oneS (M (M s (qB q 256 n) 0) (qB q 256 n) 128)], .ret, suZ Tryd.prog M true Tryd.f16 l ty o n k s q h) := by kernel_rfl
theorem su_fr (M : S8 → List Value → Nat → S8) (l : List Value) (ty : BT) (o n k : Nat) (s : S8) (q : List Value) (h : Int) : sres Tryd.prog Tryd.f16 (suZ Tryd.prog M false Tryd.f16 l ty o n k s q h) = some (.agg (out64 (M s (qB q 128 n) 0)).toArray) := by kernel_rfl
theorem su_tr (M : S8 → List Value → Nat → S8) (l : List Value) (ty : BT) (o n k : Nat) (s : S8) (q : List Value) (h : Int) : sres Tryd.prog Tryd.f16 (suZ Tryd.prog M true Tryd.f16 l ty o n k s q h) = some (.agg (out64 (M (M s (qB q 256 n) 0) (qB q 256 n) 128)).toArray) := by kernel_rfl
theorem su_fd (M : S8 → List Value → Nat → S8) (l : List Value) (ty : BT) (o n k : Nat) (s : S8) (q : List Value) (h : Int) : (suZ Tryd.prog M false Tryd.f16 l ty o n k s q h).1.defers = [] := by kernel_rfl
theorem su_td (M : S8 → List Value → Nat → S8) (l : List Value) (ty : BT) (o n k : Nat) (s : S8) (q : List Value) (h : Int) : (suZ Tryd.prog M true Tryd.f16 l ty o n k s q h).1.defers = [] := by kernel_rfl
theorem su_fm (M : S8 → List Value → Nat → S8) (l : List Value) (ty : BT) (o n k : Nat) (s : S8) (q : List Value) (h : Int) : (suZ Tryd.prog M false Tryd.f16 l ty o n k s q h).2 = (M5 ++ [some ⟨l, ty⟩]) ++ (suZ Tryd.prog M false Tryd.f16 l ty o n k s q h).2.drop (ng + 1) := by kernel_rfl
theorem su_tm (M : S8 → List Value → Nat → S8) (l : List Value) (ty : BT) (o n k : Nat) (s : S8) (q : List Value) (h : Int) : (suZ Tryd.prog M true Tryd.f16 l ty o n k s q h).2 = (M5 ++ [some ⟨l, ty⟩]) ++ (suZ Tryd.prog M true Tryd.f16 l ty o n k s q h).2.drop (ng + 1) := by kernel_rfl
end Go.Proofs.YtdegfgncdphepaaDoor.Shf
