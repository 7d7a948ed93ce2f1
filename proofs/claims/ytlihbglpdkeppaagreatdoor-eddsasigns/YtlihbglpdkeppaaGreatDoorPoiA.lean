/- Package field's calls as contracts of the small memory, over numbers; points as values. -/
import Derived.Test.YtlihbglpdkeppaaGreatDoorFieI
import Derived.Test.YtlihbglpdkeppaaGreatDoorMemE
set_option linter.unusedSimpArgs false
set_option linter.unusedVariables false
namespace Go.Proofs.YtlihbglpdkeppaaGreatDoor
open Go Go.RowKit
def bsum:List Value→Nat
 | []=>0
 | .int _ x :: l=>x.toNat+256*bsum l
 | _ :: l=>256*bsum l
def bnum:Value→Nat
 | .agg cs=>bsum cs.toList
 | _=>0
def IsB (A:Value):Prop:=A=bv (bnum A)
theorem bsum_range (n:Nat) : ∀ (m o:Nat),bsum ((List.range' o m).map fun i=>Value.int .u8 (by8 n i))=n/256 ^ o % 256 ^ m
 | 0,o=>by simp [bsum,Nat.mod_one]
 | m+1,o=>by
  rw [List.range'_succ,List.map_cons,bsum,bsum_range n m (o+1)]
  simp only [by8,Int.toNat_natCast]
  rw [Nat.pow_succ 256 o,←Nat.div_div_eq_div_mul,Nat.pow_succ 256 m,Nat.mul_comm (256 ^ m) 256,Nat.mod_mul]
theorem rn_pow:RN=256 ^ 32:=by decide
theorem bsum_bl (n:Nat):bsum (bl n)=n % RN:=by
 rw [rn_pow];unfold bl;rw [List.range_eq_range',bsum_range,Nat.pow_zero,Nat.div_one]
theorem by8_mod (n m i:Nat) (h:i<m):by8 (n % 256 ^ m) i=by8 n i:=by
 unfold by8
 congr 1
 have:256 ^ m=256 ^ i*(256*256 ^ (m - i - 1)):=by rw [←Nat.pow_succ',←Nat.pow_add];congr 1;omega
 rw [this,Nat.mod_mul_right_div_self,Nat.mod_mul_right_mod]
theorem bl_mod (n:Nat):bl (n % RN)=bl n:=by
 rw [rn_pow];unfold bl
 exact List.map_congr_left fun i hi=>by rw [by8_mod n 32 i (by simpa using hi)]
theorem bnum_bv (n:Nat):bnum (bv n)=n % RN:=bsum_bl n
theorem bv_mod (n:Nat):bv (n % RN)=bv n:=by unfold bv br;rw [bl_mod]
theorem isB_bv (n:Nat):IsB (bv n):=by unfold IsB;rw [bnum_bv,bv_mod]
theorem bnum_lt {A:Value} (h:IsB A):bnum A<RN:=by
 have:bnum A=bnum A % RN:=by
  have e:=congrArg bnum h
  rw [bnum_bv] at e;exact e
 rw [this];exact Nat.mod_lt _ (by decide)
theorem bnum_bv' {n:Nat} (h:n<RN):bnum (bv n)=n:=by rw [bnum_bv,Nat.mod_eq_of_lt h]
theorem flat_bl (n:Nat):(bl n).all flat1=true:=by simp [bl,flat1]
theorem flat_bv (n:Nat):flat (bv n)=true:=by
 show ((bl n).toArray.toList.all flat1)=true
 rw [List.toList_toArray];exact flat_bl n
def fad (a b:Nat):Nat:=(a+b) % pp
def fsb (a b:Nat):Nat:=(a+(pp - b % pp)) % pp
def fml (a b:Nat):Nat:=a*b % pp
def fiv (a:Nat):Nat:=a ^ (pp - 2) % pp
theorem fad_lt (a b:Nat):fad a b<pp:=Nat.mod_lt _ (by decide)
theorem fsb_lt (a b:Nat):fsb a b<pp:=Nat.mod_lt _ (by decide)
theorem fml_lt (a b:Nat):fml a b<pp:=Nat.mod_lt _ (by decide)
theorem fiv_lt (a:Nat):fiv a<pp:=Nat.mod_lt _ (by decide)
theorem lt_RN {a:Nat} (h:a<pp):a<RN:=Nat.lt_trans h pp_lt
def AD (A B:Value):Value:=bv (fad (bnum A) (bnum B))
def SB (A B:Value):Value:=bv (fsb (bnum A) (bnum B))
def ML (A B:Value):Value:=bv (fml (bnum A) (bnum B))
def IV (A:Value):Value:=bv (fiv (bnum A))
def gAdF:List Value→Option (List Prop × Value)
 | [A,B]=>some ([IsB A∧IsB B],AD A B)
 | _=>none
def gSbF:List Value→Option (List Prop × Value)
 | [A,B]=>some ([IsB A∧IsB B],SB A B)
 | _=>none
def gMlF:List Value→Option (List Prop × Value)
 | [A,B]=>some ([IsB A∧IsB B],ML A B)
 | _=>none
def gIvF:List Value→Option (List Prop × Value)
 | [A]=>some ([IsB A],IV A)
 | _=>none
def gCaF:List Value→Option (List Prop × Value)
 | [A]=>some ([IsB A],.bool (decide (bnum A<pp)))
 | _=>none
structure P4 where
 x:Nat
 y:Nat
 z:Nat
 t:Nat
def pcs (p:P4):List Value:=bl p.x ++ (bl p.y ++ (bl p.z ++ bl p.t))
def pv (p:P4):Value := .agg (pcs p).toArray
def p4:Value→P4
 | .agg cs=>⟨bsum (cs.toList.take 32),bsum ((cs.toList.drop 32).take 32),bsum ((cs.toList.drop 64).take 32),bsum ((cs.toList.drop 96).take 32)⟩
 | _=>⟨0,0,0,0⟩
structure P4.ok (p:P4):Prop where
 x:p.x<RN
 y:p.y<RN
 z:p.z<RN
 t:p.t<RN
theorem take_bl (n:Nat) (l:List Value):(bl n ++ l).take 32=bl n:=List.take_left' (bl_length n)
theorem drop_bl (n:Nat) (l:List Value):(bl n ++ l).drop 32=l:=List.drop_left' (bl_length n)
theorem p4_pv {p:P4} (h:p.ok):p4 (pv p)=p:=by
 obtain ⟨x,y,z,t⟩:=p
 obtain ⟨h1,h2,h3,h4⟩:=h
 simp only at h1 h2 h3 h4
 have e:p4 (pv ⟨x,y,z,t⟩)=⟨bsum ((pcs ⟨x,y,z,t⟩).take 32),bsum (((pcs ⟨x,y,z,t⟩).drop 32).take 32),bsum (((pcs ⟨x,y,z,t⟩).drop 64).take 32),bsum (((pcs ⟨x,y,z,t⟩).drop 96).take 32)⟩:=rfl
 rw [e]
 unfold pcs
 simp only
 have d64 : ∀ l:List Value,l.drop 64=(l.drop 32).drop 32:=fun l=>by rw [List.drop_drop]
 have d96 : ∀ l:List Value,l.drop 96=((l.drop 32).drop 32).drop 32:=fun l=>by rw [List.drop_drop,List.drop_drop]
 rw [d64,d96,take_bl,drop_bl,take_bl,drop_bl,take_bl,drop_bl,List.take_of_length_le (by rw [bl_length];omega)]
 rw [bsum_bl,bsum_bl,bsum_bl,bsum_bl,Nat.mod_eq_of_lt h1,Nat.mod_eq_of_lt h2,Nat.mod_eq_of_lt h3,Nat.mod_eq_of_lt h4]
def IsP (A:Value):Prop:=A=pv (p4 A)∧(p4 A).ok
theorem isP_pv {p:P4} (h:p.ok):IsP (pv p):=by unfold IsP;rw [p4_pv h];exact ⟨rfl,h⟩
theorem flat_pv (p:P4):flat (pv p)=true:=by
 show ((pcs p).toArray.toList.all flat1)=true
 rw [List.toList_toArray]
 unfold pcs
 simp only [List.all_append,flat_bl,Bool.and_self]
abbrev DN':Nat:=37095705934669439343138083508754565189542113879843219016388785533085940283555
abbrev GX:Nat:=15112221349535400772501151409588531511454012693041857206046113283949847762202
abbrev GY:Nat:=46316835694926478169428394003475163141307993866256225615783033603165251855960
def np:Nat:=Nat.max (Nat.max 2 1) (Nat.max 5 4)+1
def M0:Mem:=(((List.replicate np none).set 2 (some ⟨bl GY,22⟩)).set 5 (some ⟨bl DN',22⟩)).set 4 (some ⟨bl 1,22⟩)
theorem M0_flat:flatM M0=true:=by kernel_rfl
def gl4:List Nat:=[2,5,4]
def M1:Mem:=M0.set 1 (some ⟨bl GX,22⟩)
theorem M1_flat:flatM M1=true:=by kernel_rfl
def gl5:List Nat:=[2,5,1,4]
def F0:Cx:=((((((Cx.none.glo gl4).pure 113 gAdF).pure 112 gSbF).pure 77 gMlF).pure 76 gIvF).pure 116 gCaF)
end Go.Proofs.YtlihbglpdkeppaaGreatDoor
