import Derived.Test.YtajehiidpecknaaGreatDoorFeA
set_option linter.all false
namespace Go.Proofs.YtajehiidpecknaaGreatDoor.Fe
open Go Go.RowKit Sc
set_option maxRecDepth 100000
def adN (a b:Nat):Nat:=ik ((a+b) % RN) ((a+b)/RN)
theorem GD (a b:Nat):sfun Tryz.prog F6 60 Tryz.f139 (ag Tryz.f139) [nv a,nv b]=some ([IsN (nv a)∧IsN (nv b),IsN (nv ((num (nv a)+num (nv b)) % RN))∧0≤(((num (nv a)+num (nv b))/RN:Nat):Int)∧(((num (nv a)+num (nv b))/RN:Nat):Int)≤100],nv (ik (num (nv ((num (nv a)+num (nv b)) % RN))) (((num (nv a)+num (nv b))/RN:Nat):Int).toNat)):=by kernel_rfl
theorem Bq {a b:Nat} (ha:a<RN) (hb:b<RN):(a+b)/RN≤1:=by
 have:(a+b)/RN<2:=Nat.div_lt_of_lt_mul (by omega)
 omega
theorem Hm (a b:Nat) (ha:a<RN) (hb:b<RN) (w:World):Calls Tryz.prog 139 #[nv a,nv b] w fun e w'=>e = .returned (nv (adN a b))∧Below w.heap.size w w':=by
 have run:=GD a b
 have h1:=Bq ha hb
 rw [ak ha,ak hb,ak (Nat.mod_lt _ (by decide)),Int.toNat_natCast] at run
 exact aq js mixed Tryz.func139 (by kernel_rfl) run (fun p hp=>by
  simp only [List.mem_cons,List.not_mem_nil,or_false] at hp
  rcases hp with rfl | rfl
  ·exact ⟨aI _,aI _⟩
  ·exact ⟨aI _,Int.natCast_nonneg _,by omega⟩) rfl (.inl rfl) w
theorem Kn (a b:Nat):adN a b<RN:=tP _ _
theorem FU {a b:Nat} (ha:a<RN) (hb:b<RN):adN a b % PN=(a+b) % PN:=by
 have h1:=Bq ha hb
 unfold adN
 rw [qN _ _ (Nat.mod_lt _ (by decide)) (by omega),Nat.mul_comm,Nat.mod_add_div]
abbrev w1 (x:Int):Value := .agg #[.int .u64 x,.int .u64 0,.int .u64 0,.int .u64 0]
def dfN (a b:Nat):Nat:=(a+RN - b) % RN
def bw (a b:Nat):Nat:=if a<b then 1 else 0
def sbN (a b:Nat):Nat:=dfN (dfN (dfN a b) (38*bw a b)) (38*bw (dfN a b) (38*bw a b))
def sD (A B:Value):Value:=nv ((num A+RN - num B) % RN)
def sB (A B:Value):Value:=w1 (IntKind.u64.wrap ((if num A<num B then 1 else 0)*38))
theorem Gm (a b:Nat):sfun Tryz.prog F6 60 Tryz.f138 (ag Tryz.f138) [nv a,nv b]=some ([IsN (nv a)∧IsN (nv b),IsN (sD (nv a) (nv b))∧IsN (sB (nv a) (nv b)),IsN (sD (sD (nv a) (nv b)) (sB (nv a) (nv b)))∧IsN (sB (sD (nv a) (nv b)) (sB (nv a) (nv b)))],sD (sD (sD (nv a) (nv b)) (sB (nv a) (nv b))) (sB (sD (nv a) (nv b)) (sB (nv a) (nv b)))):=by kernel_rfl
theorem ln (a b:Nat):dfN a b<RN:=Nat.mod_lt _ (by decide)
theorem E9 (a b:Nat):38*bw a b≤38:=by unfold bw;split <;> omega
theorem B8 {a b:Nat} (ha:a<RN) (hb:b<RN):sD (nv a) (nv b)=nv (dfN a b):=by unfold sD dfN;rw [ak ha,ak hb]
theorem Jc {a b:Nat} (ha:a<RN) (hb:b<RN):sB (nv a) (nv b)=nv (38*bw a b):=by
 unfold sB
 rw [ak ha,ak hb,←zn (38*bw a b) (by have:=E9 a b;omega)]
 unfold bw
 split <;> rfl
theorem zt (a b:Nat) (ha:a<RN) (hb:b<RN) (w:World):Calls Tryz.prog 138 #[nv a,nv b] w fun e w'=>e = .returned (nv (sbN a b))∧Below w.heap.size w w':=by
 have run:=Gm a b
 have l38 : ∀ x y,38*bw x y<RN:=fun x y=>Nat.lt_of_le_of_lt (E9 x y) (by decide)
 have l1:=ln a b
 have l2:=l38 a b
 rw [B8 ha hb,Jc ha hb,B8 l1 l2,Jc l1 l2,B8 (ln _ _) (l38 _ _)] at run
 exact aq js mixed Tryz.func138 (by kernel_rfl) run (fun p hp=>by
  simp only [List.mem_cons,List.not_mem_nil,or_false] at hp
  rcases hp with rfl | rfl | rfl <;> exact ⟨aI _,aI _⟩) rfl (.inl rfl) w
theorem EJ (a b:Nat):sbN a b<RN:=ln _ _
theorem xG {a b:Nat} (ha:a<RN) (hb:b<RN):bw a b≤1∧dfN a b+b=a+bw a b*RN:=by
 unfold dfN bw
 simp only [RN] at *
 split <;> omega
theorem ze {a b:Nat} (ha:a<RN) (hb:b<RN):sbN a b % PN=(a+(PN - b % PN)) % PN:=by
 have l38 : ∀ x y,38*bw x y<RN:=fun x y=>Nat.lt_of_le_of_lt (E9 x y) (by decide)
 obtain ⟨u1,e1⟩:=xG ha hb
 have l1:=ln a b
 obtain ⟨u2,e2⟩:=xG l1 (l38 a b)
 have l2:=ln (dfN a b) (38*bw a b)
 obtain ⟨u3,e3⟩:=xG l2 (l38 (dfN a b) (38*bw a b))
 have l3:=ln (dfN (dfN a b) (38*bw a b)) (38*bw (dfN a b) (38*bw a b))
 unfold sbN
 generalize bw a b=c at *
 generalize dfN a b=x at *
 generalize bw x (38*c)=d at *
 generalize dfN x (38*c)=y at *
 generalize bw y (38*d)=f at *
 generalize dfN y (38*d)=z at *
 simp only [RN,PN] at *
 rcases (by omega:c=0∨c=1) with rfl | rfl <;> rcases (by omega:d=0∨d=1) with rfl | rfl <;> omega
def sA (n:Nat):Value := .agg #[.int .u64 (lw n 0),.int .u64 (lw n 1),.int .u64 (lw n 2),.int .u64 (bits .andNot .u64 (lw n 3) 9223372036854775808)]
def sH (n:Nat):Value:=w1 (IntKind.u64.wrap (19*Int.fdiv (lw n 3) (2 ^ 63)))
def sC (n:Nat):Nat:=(num (sA n)+num (sH n)) % RN
def sX (n:Nat):Nat:=(num (nv (sC n))+num (w1 19)) % RN
def sO (n:Nat) (t:Bool):List Prop:=[IsN (sA n)∧IsN (sH n),IsN (nv (sC n))∧IsN (w1 19),(Int.fdiv (lw (sX n) 3) (2 ^ 63) == 1)=t]
theorem EW (n:Nat):sfun Tryz.prog (F6.tell [(30,true)]) 60 Tryz.f136 (ag Tryz.f136) [nv n]=some (sO n true,sA (sX n)):=by kernel_rfl
theorem Dt (n:Nat):sfun Tryz.prog (F6.tell [(30,false)]) 60 Tryz.f136 (ag Tryz.f136) [nv n]=some (sO n false,nv (sC n)):=by kernel_rfl
theorem Ew (x:Nat) (hn:x<18446744073709551616):bits .andNot .u64 (x:Int) 9223372036854775808=((x % 9223372036854775808:Nat):Int):=by
 show IntKind.u64.wrap ((BitVec.ofInt 64 (x:Int) &&& ~~~ BitVec.ofInt 64 9223372036854775808).toNat:Int)=_
 rw [BitVec.toNat_and,show (~~~ BitVec.ofInt 64 9223372036854775808).toNat=2 ^ 63 - 1 from by decide,Nat.and_two_pow_sub_one_eq_mod,BitVec.ofInt_natCast,BitVec.toNat_ofNat,IntKind.wrap_u64]
 omega
abbrev TT:Nat:=57896044618658097711785492504343953926634992332820282019728792003956564819968
theorem M4 (n:Nat) (h:n<RN):lw n 3=((n/6277101735386680763835789423207666416102355444464034512896:Nat):Int):=by
 rw [lw3];simp only [RN] at h;omega
theorem DJ (n:Nat) (h:n<RN):sA n=nv (n % TT):=by
 have hs:=aQ n
 rw [YK h] at hs
 unfold sA
 obtain ⟨x,hx,hl⟩:=lwN n 3
 rw [hx,Ew x hl]
 rw [hx] at hs
 have e3:=M4 n h
 rw [hx] at e3
 refine gy (ah _ _) (ah _ _) (ah _ _) ⟨by omega,by omega⟩ ?_
 have w0:=ah n 0;have w1:=ah n 1;have w2:=ah n 2
 unfold Word at *
 simp only [RN,TT] at *
 omega
theorem yc (n:Nat) (h:n<RN):Int.fdiv (lw n 3) (2 ^ 63)=((n/TT:Nat):Int):=by
 rw [M4 n h,eB,YL]
theorem Jl (n:Nat) (h:n<RN):sH n=nv (19*(n/TT)):=by
 have:n/TT<2:=Nat.div_lt_of_lt_mul (by simp only [RN,TT] at *;omega)
 unfold sH
 rw [yc n h,←zn (19*(n/TT)) (by omega)]
 unfold w1
 rw [show IntKind.u64.wrap (19*((n/TT:Nat):Int))=((19*(n/TT):Nat):Int) by rw [IntKind.wrap_u64];omega]
theorem oZ (n:Nat) (h:n<RN) (w:World):Calls Tryz.prog 136 #[nv n] w fun e w'=>e = .returned (nv (n % PN))∧Below w.heap.size w w':=by
 have e19:w1 19=nv 19:=rfl
 have eC:sC n=n % TT+19*(n/TT):=by
  unfold sC
  rw [DJ n h,Jl n h,jI,jI]
  simp only [RN,TT] at *
  omega
 have lC:sC n<RN:=Nat.mod_lt _ (by decide)
 have eX:sX n=sC n+19:=by
  unfold sX
  rw [e19,ak lC,ak (by decide)]
  rw [eC]
  simp only [RN,TT] at *
  omega
 have lX:sX n<RN:=Nat.mod_lt _ (by decide)
 have ob : ∀ t,(Int.fdiv (lw (sX n) 3) (2 ^ 63) == 1)=t → ∀ p ∈ sO n t,p:=fun t ht p hp=>by
  simp only [sO,List.mem_cons,List.not_mem_nil,or_false] at hp
  rcases hp with rfl | rfl | rfl
  ·rw [DJ n h,Jl n h];exact ⟨aI _,aI _⟩
  ·rw [e19];exact ⟨aI _,aI _⟩
  ·exact ht
 by_cases hc:sX n/TT=1
 ·have hr:=EW n
  rw [DJ _ lX] at hr
  have k:=aq (Cx.tell_ok js _) mixed Tryz.func136 (by kernel_rfl) hr (ob true (by rw [yc _ lX,hc];rfl)) rfl (.inl rfl) w
  rw [show sX n % TT=n % PN by
   rw [eX,eC] at hc ⊢
   simp only [RN,PN,TT] at *
   omega] at k
  exact k
 ·have k:=aq (Cx.tell_ok js _) mixed Tryz.func136 (by kernel_rfl) (Dt n) (ob false (by rw [yc _ lX,beq_eq_false_iff_ne];omega)) rfl (.inl rfl) w
  rw [show sC n=n % PN by
   rw [eX,eC] at hc
   rw [eC]
   simp only [RN,PN,TT] at *
   omega] at k
  exact k
end Go.Proofs.YtajehiidpecknaaGreatDoor.Fe
namespace Go.Proofs.YtajehiidpecknaaGreatDoor.Fe
open Go Go.RowKit Sc
set_option maxRecDepth 100000
def gOn:List Value→Option (List Prop × Value)
 | [A]=>some ([IsN A],rQ A)
 | _=>none
theorem KR {X:Cx} (hX:X.Ok Tryz.prog):(X.pure 142 gOn).Ok Tryz.prog:=by
 refine aA hX Tryz.func142 (by kernel_rfl) (by kernel_rfl) fun args ps v ha hg hp => ?_
 unfold gOn at hg
 split at hg
 ·rename_i A
  simp only [qG,qH] at hg
  obtain ⟨rfl,rfl⟩:=hg
  have hA:=hp _ (YJ.2 rfl)
  refine ⟨.inl rfl,fun w => ?_⟩
  have h:=vm (num A) (aX hA) w
  rw [← (show A=nv (num A) from hA)] at h
  exact h
 ·simp at hg
def F7:Cx:=F6.pure 142 gOn
theorem vw:F7.Ok Tryz.prog:=KR js
def Pw (n e:Nat) (A:Value):Prop := ∃ x,A=nv x∧x<RN∧x % PN=n ^ e % PN
theorem Pw.isN {n e:Nat} {A:Value} (h:Pw n e A):IsN A:=by obtain ⟨x,rfl,-,-⟩:=h;exact aI _
theorem Pw.mul {n a b c:Nat} {A B:Value} (hA:Pw n a A) (hB:Pw n b B) (hc:a+b=c):Pw n c (vM A B):=by
 obtain ⟨x,rfl,hx,ex⟩:=hA
 obtain ⟨y,rfl,hy,ey⟩:=hB
 subst hc
 refine ⟨mulN x y,by unfold vM;rw [ak hx,ak hy],m9 _ _,?_⟩
 rw [ka _ _ hx hy,Nat.mul_mod,ex,ey,←Nat.mul_mod,←Nat.pow_add]
theorem Pw.sq {n a c:Nat} {A:Value} (hA:Pw n a A) (t:Nat) (hc:a*2 ^ t=c):Pw n c (vS A (t:Int)):=by
 obtain ⟨x,rfl,hx,ex⟩:=hA
 subst hc
 refine ⟨sqN x t,by unfold vS;rw [ak hx,Int.toNat_natCast],jV x hx t,?_⟩
 rw [mC x hx,Nat.pow_mod,ex,←Nat.pow_mod,←Nat.pow_mul]
theorem LO {n:Nat} (h:n<RN):Pw n 1 (nv n):=⟨n,rfl,h,by rw [Nat.pow_one]⟩
theorem K3 {n:Nat} (h:n<RN):Pw n (2 ^ 250 - 1) (rQ (nv n)):=Ce n h
def i11 (A:Value):Value:=vM (vM (vS A 3) (vS A 1)) A
theorem Hq (n:Nat):sfun Tryz.prog F7 200 Tryz.f127 (ag Tryz.f127) [nv n]=some ([tS (nv n) 1,tS (nv n) 3,tM (vS (nv n) 3) (vS (nv n) 1),tM (vM (vS (nv n) 3) (vS (nv n) 1)) (nv n),IsN (nv n),tS (rQ (nv n)) 5,tM (vS (rQ (nv n)) 5) (i11 (nv n))],vM (vS (rQ (nv n)) 5) (i11 (nv n))):=by kernel_rfl
theorem Gv (n:Nat) (h:n<RN) (w:World):Calls Tryz.prog 127 #[nv n] w fun e w' => ∃ s,s<RN∧e = .returned (nv s)∧s % PN=n ^ (PN - 2) % PN∧Below w.heap.size w w':=by
 have p1:=LO h
 have q1:Pw n 2 (vS (nv n) 1):=p1.sq 1 rfl
 have q3:Pw n 8 (vS (nv n) 3):=p1.sq 3 rfl
 have q9:=q3.mul q1 rfl
 have q11:Pw n 11 (i11 (nv n)):=q9.mul p1 rfl
 have r:=K3 h
 have r5:Pw n ((2 ^ 250 - 1)*2 ^ 5) (vS (rQ (nv n)) 5):=r.sq 5 rfl
 obtain ⟨s,e1,e2,e3⟩:=r5.mul q11 (show (2 ^ 250 - 1)*2 ^ 5+11=PN - 2 by decide)
 refine (aq vw mixed Tryz.func127 (by kernel_rfl) (Hq n) (fun p hp => ?_) rfl (.inl rfl) w).mono fun e w' ⟨h1,h2⟩=>⟨s,e2,by rw [h1,e1],e3,h2⟩
 simp only [List.mem_cons,List.not_mem_nil,or_false] at hp
 rcases hp with rfl | rfl | rfl | rfl | rfl | rfl | rfl
 ·exact ⟨p1.isN,by omega,by omega⟩
 ·exact ⟨p1.isN,by omega,by omega⟩
 ·exact ⟨q3.isN,q1.isN⟩
 ·exact ⟨q9.isN,p1.isN⟩
 ·exact p1.isN
 ·exact ⟨r.isN,by omega,by omega⟩
 ·exact ⟨r5.isN,q11.isN⟩
end Go.Proofs.YtajehiidpecknaaGreatDoor.Fe
namespace Go.Proofs.YtajehiidpecknaaGreatDoor.Fe
open Go Go.RowKit Sc
set_option maxRecDepth 100000
def gSet:List Value→Option (List Prop × Value)
 | [A]=>some ([IsN A],nv (num A % PN))
 | _=>none
theorem I6 {X:Cx} (hX:X.Ok Tryz.prog):(X.pure 136 gSet).Ok Tryz.prog:=by
 refine aA hX Tryz.func136 (by kernel_rfl) (by kernel_rfl) fun args ps v ha hg hp => ?_
 unfold gSet at hg
 split at hg
 ·rename_i A
  simp only [qG,qH] at hg
  obtain ⟨rfl,rfl⟩:=hg
  have hA:=hp _ (YJ.2 rfl)
  refine ⟨.inl rfl,fun w => ?_⟩
  have h:=oZ (num A) (aX hA) w
  rw [← (show A=nv (num A) from hA)] at h
  exact h
 ·simp at hg
def gSub2:List Value→Option (List Prop × Value)
 | [A,B]=>some ([IsN A∧IsN B],nv (sbN (num A) (num B)))
 | _=>none
theorem DL {X:Cx} (hX:X.Ok Tryz.prog):(X.pure 138 gSub2).Ok Tryz.prog:=by
 refine aA hX Tryz.func138 (by kernel_rfl) (by kernel_rfl) fun args ps v ha hg hp => ?_
 unfold gSub2 at hg
 split at hg
 ·rename_i A B
  simp only [qG,qH] at hg
  obtain ⟨rfl,rfl⟩:=hg
  obtain ⟨hA,hB⟩:=hp _ (YJ.2 rfl)
  refine ⟨.inl rfl,fun w => ?_⟩
  have h:=zt (num A) (num B) (aX hA) (aX hB) w
  rw [← (show A=nv (num A) from hA),← (show B=nv (num B) from hB)] at h
  exact h
 ·simp at hg
def F8:Cx:=(F6.pure 136 gSet).pure 138 gSub2
theorem iQ:F8.Ok Tryz.prog:=DL (I6 js)
def eM (n:Nat):Nat:=num (nv n) % PN
def zz:Value := .agg #[.int .u64 0,.int .u64 0,.int .u64 0,.int .u64 0]
theorem Fc (n:Nat):sfun Tryz.prog (F8.tell [(8,true)]) 60 Tryz.f137 (ag Tryz.f137) [nv n]=some ([IsN (nv n),(bits .and .u64 (lw (eM n) 0) 1 == 1)=true,IsN zz∧IsN (nv (eM n))],nv (sbN (num zz) (num (nv (eM n))))):=by kernel_rfl
theorem Fi (n:Nat):sfun Tryz.prog (F8.tell [(8,false)]) 60 Tryz.f137 (ag Tryz.f137) [nv n]=some ([IsN (nv n),(bits .and .u64 (lw (eM n) 0) 1 == 1)=false],nv (eM n)):=by kernel_rfl
theorem LD (m:Nat):bits .and .u64 (lw m 0) 1=((m % 2:Nat):Int):=by
 have h:=bits_and_u64_nat (m/18446744073709551616 ^ 0 % 18446744073709551616) 1 (Nat.mod_lt _ (by decide)) (by decide)
 rw [Nat.and_one_is_mod,Nat.pow_zero,Nat.div_one] at h
 rw [lw,Nat.pow_zero,Nat.div_one]
 refine Eq.trans h ?_
 omega
theorem Cs (n:Nat) (h:n<RN) (w:World):Calls Tryz.prog 137 #[nv n] w fun e w' => ∃ s,s<RN∧e = .returned (nv s)∧s % PN=(if n % PN % 2=1 then PN - n % PN else n % PN) % PN∧Below w.heap.size w w':=by
 have e1:eM n=n % PN:=by unfold eM;rw [ak h]
 have hl:n % PN<RN:=Nat.lt_trans (Nat.mod_lt _ (by decide)) (by decide)
 have e2:num zz=0:=ak (n:=0) (by decide)
 have a1:=LD (eM n)
 by_cases ho:n % PN % 2=1
 ·have k:=aq (Cx.tell_ok iQ _) mixed Tryz.func137 (by kernel_rfl) (Fc n) (fun p hp=>by
   simp only [List.mem_cons,List.not_mem_nil,or_false] at hp
   rcases hp with rfl | rfl | rfl
   ·exact aI _
   ·rw [a1,e1,ho];rfl
   ·exact ⟨aI 0,aI _⟩) rfl (.inl rfl) w
  rw [e1,e2,ak hl] at k
  refine k.mono fun e w' ⟨h1,h2⟩=>⟨_,EJ _ _,h1,?_,h2⟩
  rw [ze (by decide) hl,if_pos ho,Nat.zero_add,Nat.mod_mod]
 ·have ho2:n % PN % 2=0:=by omega
  have k:=aq (Cx.tell_ok iQ _) mixed Tryz.func137 (by kernel_rfl) (Fi n) (fun p hp=>by
   simp only [List.mem_cons,List.not_mem_nil,or_false] at hp
   rcases hp with rfl | rfl
   ·exact aI _
   ·rw [a1,e1,ho2];rfl) rfl (.inl rfl) w
  rw [e1] at k
  refine k.mono fun e w' ⟨h1,h2⟩=>⟨_,hl,h1,?_,h2⟩
  rw [if_neg ho]
end Go.Proofs.YtajehiidpecknaaGreatDoor.Fe
