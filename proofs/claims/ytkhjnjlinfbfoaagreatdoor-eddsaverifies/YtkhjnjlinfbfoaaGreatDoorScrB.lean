/- The scalar reference: MulAdd, Reduce, Canonical. -/
import Derived.Test.YtkhjnjlinfbfoaaGreatDoorScrA
set_option linter.unusedSimpArgs false
set_option linter.unusedVariables false
namespace Go.Proofs.YtkhjnjlinfbfoaaGreatDoor.Sc
open Go Go.RowKit
open Go Go.RowKit
def BO (n:Nat):Prop:=bl n=blm 32 (bsum (bl n))
theorem bsum_bl {n:Nat} (h:n<RN):bsum (bl n)=n:=by
 have:=bsum_blm 32 n
 rw [←rn_pow,Nat.mod_eq_of_lt h] at this
 exact this
theorem BO_ok {n:Nat} (h:n<RN):BO n:=by unfold BO;rw [bsum_bl h];rfl
theorem rcan_run (n:Nat):sfun Tryz.prog Z2 60 Tryz.f16 (bodyOf Tryz.f16) [bv n]=some ([BO n,IsN (nv (bsum (bl n)))∧IsN (nv LN)],.bool (decide (num (nv (bsum (bl n)))<num (nv LN)))):=by kernel_rfl
theorem rCanonical_any (n:Nat) (h:n<RN) (w:World):Calls Tryz.prog 16 #[bv n] w fun e w'=>e = .returned (.bool (decide (n<LN)))∧Below w.heap.size w w':=by
 have run:=rcan_run n
 rw [bsum_bl h,num_nv' h,num_nv' (n:=LN) (by decide)] at run
 refine sfun_calls Z2_ok mixed Tryz.func16 (by kernel_rfl) run ?_ (by simp [flat_bv]) (.inl rfl) w
 intro p hp
 simp only [List.mem_cons,List.not_mem_nil,or_false] at hp
 rcases hp with rfl | rfl
 ·exact BO_ok h
 ·exact ⟨isN_nv _,isN_nv _⟩
theorem rred_run (n:Nat):sfun Tryz.prog Z2 60 Tryz.f55 (bodyOf Tryz.f55) [bv64 n]=some ([64≤1000∧blm 64 n=blm 64 (bsum (blm 64 n)),IsN (nv (bsum (blm 64 n) % LN))],bv (num (nv (bsum (blm 64 n) % LN)))):=by kernel_rfl
theorem rReduce_any (n:Nat) (h:n<RN*RN) (w:World):Calls Tryz.prog 55 #[bv64 n] w fun e w'=>e = .returned (bv (n % LN))∧Below w.heap.size w w':=by
 have run:=rred_run n
 have e:bsum (blm 64 n)=n:=by rw [bsum_blm,←rn_pow2,Nat.mod_eq_of_lt h]
 rw [e,num_nv' (ltL _)] at run
 refine sfun_calls Z2_ok mixed Tryz.func55 (by kernel_rfl) run ?_ (by simp [flat_bv64]) (.inl (flat_bv _)) w
 intro p hp
 simp only [List.mem_cons,List.not_mem_nil,or_false] at hp
 rcases hp with rfl | rfl
 ·simp
 ·exact isN_nv _
def fin (o c:Nat):Nat:=(num (nv o)+num (nv (bsum (bl c) % LN))) % LN
end Go.Proofs.YtkhjnjlinfbfoaaGreatDoor.Sc
