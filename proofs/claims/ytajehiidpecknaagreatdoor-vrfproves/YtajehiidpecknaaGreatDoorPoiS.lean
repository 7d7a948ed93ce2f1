/- The field's reference as contracts of the small memory: just what each call answers. -/
import Derived.Test.YtajehiidpecknaaGreatDoorFieRL
import Derived.Test.YtajehiidpecknaaGreatDoorPoiG
set_option linter.all false
namespace Go.Proofs.YtajehiidpecknaaGreatDoor
open Go Go.RowKit
def kM:List Value→Nat
 | []=>0
 | .int _ x :: l=>x.toNat+18446744073709551616*kM l
 | _ :: l=>18446744073709551616*kM l
def aY:Value→Nat
 | .agg cs=>kM cs.toList
 | _=>0
theorem gS {n:Nat} (h:n<RN):kM (nl n)=n:=by
 have e:kM (nl n)=(lw n 0).toNat+18446744073709551616*((lw n 1).toNat+18446744073709551616*((lw n 2).toNat+18446744073709551616*((lw n 3).toNat+18446744073709551616*0))):=rfl
 rw [e]
 unfold lw
 simp only [Int.toNat_natCast]
 have e2:n/18446744073709551616 ^ 2=n/18446744073709551616/18446744073709551616:=by rw [Nat.div_div_eq_div_mul]
 have e3:n/18446744073709551616 ^ 3=n/18446744073709551616/18446744073709551616/18446744073709551616:=by rw [Nat.div_div_eq_div_mul,Nat.div_div_eq_div_mul]
 rw [e2,e3,Nat.pow_zero,Nat.div_one,Nat.pow_one]
 simp only [RN] at h
 omega
theorem bm {n:Nat} (h:n<RN):aY (nv n)=n:=gS h
def IsW (A:Value):Prop:=A=nv (aY A)∧aY A<RN
theorem iu {n:Nat} (h:n<RN):IsW (nv n):=by unfold IsW;rw [bm h];exact ⟨rfl,h⟩
theorem gy (n:Nat):flat (nv n)=true:=rfl
def rfa (a b:Nat):Nat:=fX (a+b)
def rfs (a b:Nat):Nat:=fX (a+(pp - b % pp))
def rfm (a b:Nat):Nat:=fX (fh (a*b))
def rfi (a:Nat):Nat:=pX a (pp - 2) 256
theorem p7 {T:Nat} (h:T/RN<18446744073709551616):fX T<RN:=by
 unfold fX
 have:=Nat.mod_lt T (show 0<RN by decide)
 simp only [RN] at *
 split <;> omega
theorem sr {T:Nat} (h:T/RN<18446744073709551616):fX T % pp=T % pp:=by
 have e:=Nat.div_add_mod T RN
 unfold fX
 have:=Nat.mod_lt T (show 0<RN by decide)
 generalize T/RN=q at *
 generalize T % RN=r at *
 subst e
 simp only [RN,pp] at *
 split <;> omega
theorem fR {a b:Nat} (ha:a<RN) (hb:b<RN):fh (a*b)/RN<18446744073709551616:=by
 have h1:a*b/RN<RN:=by
  rw [Nat.div_lt_iff_lt_mul (by decide)]
  exact Nat.mul_lt_mul'' ha hb
 unfold fh
 have:=Nat.mod_lt (a*b) (show 0<RN by decide)
 generalize a*b/RN=q at *
 generalize a*b % RN=r at *
 simp only [RN] at *
 omega
theorem yG (n:Nat):fh n % pp=n % pp:=by
 have e:=Nat.div_add_mod n RN
 unfold fh
 generalize n/RN=q at *
 generalize n % RN=r at *
 subst e
 simp only [RN,pp] at *
 omega
theorem xL {a b:Nat} (ha:a<RN) (hb:b<RN):(a+b)/RN<18446744073709551616:=by simp only [RN] at *;omega
theorem rG {a:Nat} (b:Nat) (ha:a<RN):(a+(pp - b % pp))/RN<18446744073709551616:=by simp only [RN,pp] at *;omega
theorem bB {a b:Nat} (ha:a<RN) (hb:b<RN):rfa a b<RN:=p7 (xL ha hb)
theorem cm {a:Nat} (b:Nat) (ha:a<RN):rfs a b<RN:=p7 (rG b ha)
theorem bO {a b:Nat} (ha:a<RN) (hb:b<RN):rfm a b<RN:=p7 (fR ha hb)
theorem Dt {a:Nat} (b:Nat) (ha:a<RN) : ∀ j,pX a b j<RN
 | 0=>by show (1:Nat)<RN;decide
 | j+1=>by
  have ih:=Dt b ha j
  unfold pX
  split
  ·exact p7 (fR (p7 (fR ih ih)) ha)
  ·exact p7 (fR ih ih)
theorem qY {a:Nat} (ha:a<RN):rfi a<RN:=Dt _ ha 256
theorem mf {a b:Nat} (ha:a<RN) (hb:b<RN):rfm a b % pp=a*b % pp:=by
 unfold rfm;rw [sr (fR ha hb),yG]
theorem AH {a b:Nat} (ha:a<RN) (hb:b<2 ^ 256) : ∀ j,j≤256→pX a b j % pp=a ^ (b/2 ^ (256 - j)) % pp
 | 0,_=>by rw [Nat.sub_zero,Nat.div_eq_of_lt hb,Nat.pow_zero];rfl
 | j+1,hj=>by
  have ih:=AH ha hb j (by omega)
  have hl:=Dt b ha j
  have e1:256 - j=(255 - j)+1:=by omega
  have e2:256 - (j+1)=255 - j:=by omega
  rw [e1] at ih
  rw [e2]
  unfold pX
  split
  ·rename_i h
   exact xB a b (255 - j) _ _ _ ih (mf hl hl) (mf (bO hl hl) ha) h
  ·rename_i h
   exact pF a b (255 - j) _ _ ih (mf hl hl) (by omega)
theorem jH {a b:Nat} (ha:a<RN) (hb:b<RN):cK (rfa a b)=cK a+cK b:=by
 rw [←Co];exact gu.2 (by rw [Nat.mod_mod];exact sr (xL ha hb))
theorem mB {a:Nat} (b:Nat) (ha:a<RN):cK (rfs a b)=cK a - cK b:=by
 rw [←C9];exact gu.2 (by rw [Nat.mod_mod];exact sr (rG b ha))
theorem dd {a b:Nat} (ha:a<RN) (hb:b<RN):cK (rfm a b)=cK a*cK b:=by
 rw [←eV];exact gu.2 (by rw [Nat.mod_mod];exact mf ha hb)
theorem vg {a:Nat} (ha:a<RN):cK (rfi a)=lJ (cK a):=by
 rw [xU]
 refine gu.2 ?_
 rw [Nat.mod_mod]
 have:=AH (b:=pp - 2) ha (by decide) 256 (Nat.le_refl _)
 rw [Nat.sub_self,Nat.pow_zero,Nat.div_one] at this
 exact this
def WA (A B:Value):Value:=nv (rfa (aY A) (aY B))
def WS (A B:Value):Value:=nv (rfs (aY A) (aY B))
def WM (A B:Value):Value:=nv (rfm (aY A) (aY B))
def WI (A:Value):Value:=nv (rfi (aY A))
def WL (A:Value):Value:=nv (aY A % pp)
def gWpl:List Value→Option (List Prop × Value)
 | [A,B]=>some ([IsW A∧IsW B],WA A B)
 | _=>none
theorem EX {X:Cx} (hX:X.Ok Tryz.prog):(X.pure 89 gWpl).Ok Tryz.prog:=by
 refine aA hX Tryz.func89 (by kernel_rfl) (by kernel_rfl) ?_
 intro args ps v ha hg hp
 unfold gWpl at hg
 split at hg
 ·rename_i A B
  simp only [qG,qH] at hg
  obtain ⟨rfl,rfl⟩:=hg
  obtain ⟨hA,hB⟩:=hp _ (List.mem_singleton.2 rfl)
  refine ⟨.inl (gy _),fun w => ?_⟩
  have h:Calls Tryz.prog 89 #[nv (aY A),nv (aY B)] w fun e w'=>e = .returned (WA A B)∧Below w.heap.size w w':=(m7 (aY A) (aY B) hA.2 hB.2 w).mono fun e w' ⟨z,h1,h2,h3,h4⟩=>⟨by rw [h2,h3.2];rfl,h4⟩
  rw [←hA.1,←hB.1] at h
  exact h
 ·simp at hg
def Im:List Value→Option (List Prop × Value)
 | [A,B]=>some ([IsW A∧IsW B],WS A B)
 | _=>none
theorem E6 {X:Cx} (hX:X.Ok Tryz.prog):(X.pure 86 Im).Ok Tryz.prog:=by
 refine aA hX Tryz.func86 (by kernel_rfl) (by kernel_rfl) ?_
 intro args ps v ha hg hp
 unfold Im at hg
 split at hg
 ·rename_i A B
  simp only [qG,qH] at hg
  obtain ⟨rfl,rfl⟩:=hg
  obtain ⟨hA,hB⟩:=hp _ (List.mem_singleton.2 rfl)
  refine ⟨.inl (gy _),fun w => ?_⟩
  have h:Calls Tryz.prog 86 #[nv (aY A),nv (aY B)] w fun e w'=>e = .returned (WS A B)∧Below w.heap.size w w':=(uQ (aY A) (aY B) hA.2 hB.2 w).mono fun e w' ⟨z,h1,h2,h3,h4⟩=>⟨by rw [h2,h3.2];rfl,h4⟩
  rw [←hA.1,←hB.1] at h
  exact h
 ·simp at hg
def J0:List Value→Option (List Prop × Value)
 | [A,B]=>some ([IsW A∧IsW B],WM A B)
 | _=>none
theorem Gg {X:Cx} (hX:X.Ok Tryz.prog):(X.pure 84 J0).Ok Tryz.prog:=by
 refine aA hX Tryz.func84 (by kernel_rfl) (by kernel_rfl) ?_
 intro args ps v ha hg hp
 unfold J0 at hg
 split at hg
 ·rename_i A B
  simp only [qG,qH] at hg
  obtain ⟨rfl,rfl⟩:=hg
  obtain ⟨hA,hB⟩:=hp _ (List.mem_singleton.2 rfl)
  refine ⟨.inl (gy _),fun w => ?_⟩
  have h:Calls Tryz.prog 84 #[nv (aY A),nv (aY B)] w fun e w'=>e = .returned (WM A B)∧Below w.heap.size w w':=(iJ (aY A) (aY B) hA.2 hB.2 w).mono fun e w' ⟨z,h1,h2,h3,h4⟩=>⟨by rw [h2,h3.2];rfl,h4⟩
  rw [←hA.1,←hB.1] at h
  exact h
 ·simp at hg
def gWin:List Value→Option (List Prop × Value)
 | [A]=>some ([IsW A],WI A)
 | _=>none
theorem Gw {X:Cx} (hX:X.Ok Tryz.prog):(X.pure 88 gWin).Ok Tryz.prog:=by
 refine aA hX Tryz.func88 (by kernel_rfl) (by kernel_rfl) ?_
 intro args ps v ha hg hp
 unfold gWin at hg
 split at hg
 ·rename_i A
  simp only [qG,qH] at hg
  obtain ⟨rfl,rfl⟩:=hg
  have hA:=hp _ (List.mem_singleton.2 rfl)
  refine ⟨.inl (gy _),fun w => ?_⟩
  have h:Calls Tryz.prog 88 #[nv (aY A)] w fun e w'=>e = .returned (WI A)∧Below w.heap.size w w':=(nR (aY A) hA.2 w).mono fun e w' ⟨z,h1,h2,h3,h4⟩=>⟨by rw [h2,h3.2];rfl,h4⟩
  rw [←hA.1] at h
  exact h
 ·simp at hg
def Jk:List Value→Option (List Prop × Value)
 | [A]=>some ([IsW A],WL A)
 | _=>none
theorem Ga {X:Cx} (hX:X.Ok Tryz.prog):(X.pure 91 Jk).Ok Tryz.prog:=by
 refine aA hX Tryz.func91 (by kernel_rfl) (by kernel_rfl) ?_
 intro args ps v ha hg hp
 unfold Jk at hg
 split at hg
 ·rename_i A
  simp only [qG,qH] at hg
  obtain ⟨rfl,rfl⟩:=hg
  have hA:=hp _ (List.mem_singleton.2 rfl)
  refine ⟨.inl (gy _),fun w => ?_⟩
  have h:Calls Tryz.prog 91 #[nv (aY A)] w fun e w'=>e = .returned (WL A)∧Below w.heap.size w w':=dq (aY A) hA.2 w
  rw [←hA.1] at h
  exact h
 ·simp at hg
def JC:List Value→Option (List Prop × Value)
 | [A]=>some ([IsW A],bv (aY A % pp))
 | _=>none
theorem DP {X:Cx} (hX:X.Ok Tryz.prog):(X.pure 92 JC).Ok Tryz.prog:=by
 refine aA hX Tryz.func92 (by kernel_rfl) (by kernel_rfl) ?_
 intro args ps v ha hg hp
 unfold JC at hg
 split at hg
 ·rename_i A
  simp only [qG,qH] at hg
  obtain ⟨rfl,rfl⟩:=hg
  have hA:=hp _ (List.mem_singleton.2 rfl)
  refine ⟨.inl (aC _),fun w => ?_⟩
  have h:Calls Tryz.prog 92 #[nv (aY A)] w fun e w'=>e = .returned (bv (aY A % pp))∧Below w.heap.size w w':=vK (aY A) hA.2 w
  rw [←hA.1] at h
  exact h
 ·simp at hg
def J2:List Value→Option (List Prop × Value)
 | [A]=>some ([IsB A],nv (aj A))
 | _=>none
theorem Fh {X:Cx} (hX:X.Ok Tryz.prog):(X.pure 83 J2).Ok Tryz.prog:=by
 refine aA hX Tryz.func83 (by kernel_rfl) (by kernel_rfl) ?_
 intro args ps v ha hg hp
 unfold J2 at hg
 split at hg
 ·rename_i A
  simp only [qG,qH] at hg
  obtain ⟨rfl,rfl⟩:=hg
  have hA:=hp _ (List.mem_singleton.2 rfl)
  refine ⟨.inl (gy _),fun w => ?_⟩
  have h:Calls Tryz.prog 83 #[bv (aj A)] w fun e w'=>e = .returned (nv (aj A))∧Below w.heap.size w w':=oH (aj A) (aQ hA) w
  rw [← (show A=bv (aj A) from hA)] at h
  exact h
 ·simp at hg
def IK:List Value→Option (List Prop × Value)
 | [A]=>some ([IsB A],.bool (decide (aj A<pp)))
 | _=>none
theorem Gt {X:Cx} (hX:X.Ok Tryz.prog):(X.pure 82 IK).Ok Tryz.prog:=by
 refine aA hX Tryz.func82 (by kernel_rfl) (by kernel_rfl) ?_
 intro args ps v ha hg hp
 unfold IK at hg
 split at hg
 ·rename_i A
  simp only [qG,qH] at hg
  obtain ⟨rfl,rfl⟩:=hg
  have hA:=hp _ (List.mem_singleton.2 rfl)
  refine ⟨.inl rfl,fun w => ?_⟩
  have h:Calls Tryz.prog 82 #[bv (aj A)] w fun e w'=>e = .returned (.bool (decide (aj A<pp)))∧Below w.heap.size w w':=eY (aj A) (aQ hA) w
  rw [← (show A=bv (aj A) from hA)] at h
  exact h
 ·simp at hg
theorem zL (n:Nat) (b:Bool):flat (.tuple #[nv n,.bool b])=true:=rfl
def Ji:List Value→Option (List Prop × Value)
 | [A]=>some ([IsW A],.tuple #[nv (rt (aY A)),.bool (decide (rt (aY A)*rt (aY A) % pp=aY A % pp))])
 | _=>none
theorem FY {X:Cx} (hX:X.Ok Tryz.prog):(X.pure 85 Ji).Ok Tryz.prog:=by
 refine aA hX Tryz.func85 (by kernel_rfl) (by kernel_rfl) ?_
 intro args ps v ha hg hp
 unfold Ji at hg
 split at hg
 ·rename_i A
  simp only [qG,qH] at hg
  obtain ⟨rfl,rfl⟩:=hg
  have hA:=hp _ (List.mem_singleton.2 rfl)
  refine ⟨.inl (zL _ _),fun w => ?_⟩
  have h:Calls Tryz.prog 85 #[nv (aY A)] w fun e w'=>e = .returned (.tuple #[nv (rt (aY A)),.bool (decide (rt (aY A)*rt (aY A) % pp=aY A % pp))])∧Below w.heap.size w w':=zH (aY A) hA.2 w
  rw [←hA.1] at h
  exact h
 ·simp at hg
theorem KX:sfun Tryz.prog Cx.none 60 Tryz.f90 (ag Tryz.f90) []=some ([],nv DN'):=by kernel_rfl
def gWd:List Value→Option (List Prop × Value)
 | []=>some ([],nv DN')
 | _=>none
theorem Jp {X:Cx} (hX:X.Ok Tryz.prog):(X.pure 90 gWd).Ok Tryz.prog:=by
 refine aA hX Tryz.func90 (by kernel_rfl) (by kernel_rfl) ?_
 intro args ps v ha hg hp
 unfold gWd at hg
 split at hg
 ·simp only [qG,qH] at hg
  obtain ⟨rfl,rfl⟩:=hg
  exact ⟨.inl rfl,aw Cx.none_ok mixed Tryz.func90 (by kernel_rfl) KX (by simp) rfl (.inl rfl)⟩
 ·simp at hg
def gWsm:List Value→Option (List Prop × Value)
 | [.int .u64 x]=>some ([],.agg #[.int .u64 x,.int .u64 0,.int .u64 0,.int .u64 0])
 | _=>none
theorem Ew {X:Cx} (hX:X.Ok Tryz.prog):(X.pure 87 gWsm).Ok Tryz.prog:=by
 refine aA hX Tryz.func87 (by kernel_rfl) (by kernel_rfl) ?_
 intro args ps v ha hg hp
 unfold gWsm at hg
 split at hg
 ·rename_i x
  simp only [qG,qH] at hg
  obtain ⟨rfl,rfl⟩:=hg
  exact ⟨.inl rfl,fun w=>nk x w⟩
 ·simp at hg
def H0:Cx:=((((((((((Cx.none.pure 89 gWpl).pure 86 Im).pure 84 J0).pure 88 gWin).pure 91 Jk).pure 92 JC).pure 83 J2).pure 82 IK).pure 85 Ji).pure 90 gWd).pure 87 gWsm
theorem uS:H0.Ok Tryz.prog:=Ew (Jp (FY (Gt (Fh (DP (Ga (Gw (Gg (E6 (EX Cx.none_ok))))))))))
end Go.Proofs.YtajehiidpecknaaGreatDoor
namespace Go.Proofs.YtajehiidpecknaaGreatDoor
open Go Go.RowKit
def q16 (p:P4):List Value:=nl p.x ++ (nl p.y ++ (nl p.z ++ nl p.t))
def qv (p:P4):Value := .agg (q16 p).toArray
def q4:Value→P4
 | .agg cs=>⟨kM (cs.toList.take 4),kM ((cs.toList.drop 4).take 4),kM ((cs.toList.drop 8).take 4),kM ((cs.toList.drop 12).take 4)⟩
 | _=>⟨0,0,0,0⟩
theorem kW {p:P4} (h:p.ok):q4 (qv p)=p:=by
 obtain ⟨x,y,z,t⟩:=p
 obtain ⟨h1,h2,h3,h4⟩:=h
 simp only at h1 h2 h3 h4
 have e:q4 (qv ⟨x,y,z,t⟩)=⟨kM (nl x),kM (nl y),kM (nl z),kM (nl t)⟩:=rfl
 rw [e,gS h1,gS h2,gS h3,gS h4]
def IsQ (A:Value):Prop:=A=qv (q4 A)∧(q4 A).ok
theorem iB {p:P4} (h:p.ok):IsQ (qv p):=by unfold IsQ;rw [kW h];exact ⟨rfl,h⟩
theorem eF (p:P4):flat (qv p)=true:=rfl
def IW (A B:Value):Prop:=IsW A∧IsW B
theorem iw {a b:Nat} (ha:a<RN) (hb:b<RN):IW (nv a) (nv b):=⟨iu ha,iu hb⟩
theorem vWA {a b:Nat} (ha:a<RN) (hb:b<RN):WA (nv a) (nv b)=nv (rfa a b):=by unfold WA;rw [bm ha,bm hb]
theorem vWS {a b:Nat} (ha:a<RN) (hb:b<RN):WS (nv a) (nv b)=nv (rfs a b):=by unfold WS;rw [bm ha,bm hb]
theorem vWM {a b:Nat} (ha:a<RN) (hb:b<RN):WM (nv a) (nv b)=nv (rfm a b):=by unfold WM;rw [bm ha,bm hb]
theorem vWI {a:Nat} (ha:a<RN):WI (nv a)=nv (rfi a):=by unfold WI;rw [bm ha]
theorem cX:DN'<RN:=by decide
theorem Bm:sfun Tryz.prog H0 60 Tryz.f93 (ag Tryz.f93) []=some ([],qv ia):=by kernel_rfl
def gRneu:List Value→Option (List Prop × Value)
 | []=>some ([],qv ia)
 | _=>none
theorem uh {X:Cx} (hX:X.Ok Tryz.prog):(X.pure 93 gRneu).Ok Tryz.prog:=by
 refine aA hX Tryz.func93 (by kernel_rfl) (by kernel_rfl) ?_
 intro args ps v ha hg hp
 unfold gRneu at hg
 split at hg
 ·simp only [qG,qH] at hg
  obtain ⟨rfl,rfl⟩:=hg
  exact ⟨.inl (eF _),aw uS mixed Tryz.func93 (by kernel_rfl) Bm (by simp) rfl (.inl (eF _))⟩
 ·simp at hg
def saV (p q:P4):Value:=WM (WS (nv p.y) (nv p.x)) (WS (nv q.y) (nv q.x))
def sbV (p q:P4):Value:=WM (WA (nv p.y) (nv p.x)) (WA (nv q.y) (nv q.x))
def scV (p q:P4):Value:=WM (WM (nv p.t) (nv q.t)) (WA (nv DN') (nv DN'))
def sdV (p q:P4):Value:=WM (WA (nv p.z) (nv p.z)) (nv q.z)
def Iv (E G H I:Value):P4:=⟨rfm (aY E) (aY G),rfm (aY H) (aY I),rfm (aY G) (aY H),rfm (aY E) (aY I)⟩
theorem BH (p q:P4):sfun Tryz.prog H0 60 Tryz.f48 (ag Tryz.f48) [qv p,qv q]=some ([
  IW (nv p.y) (nv p.x),IW (nv q.y) (nv q.x),IW (WS (nv p.y) (nv p.x)) (WS (nv q.y) (nv q.x)),
  IW (nv p.y) (nv p.x),IW (nv q.y) (nv q.x),IW (WA (nv p.y) (nv p.x)) (WA (nv q.y) (nv q.x)),
  IW (nv p.t) (nv q.t),IW (nv DN') (nv DN'),IW (WM (nv p.t) (nv q.t)) (WA (nv DN') (nv DN')),
  IW (nv p.z) (nv p.z),IW (WA (nv p.z) (nv p.z)) (nv q.z),
  IW (sbV p q) (saV p q),IW (sdV p q) (scV p q),IW (sdV p q) (scV p q),IW (sbV p q) (saV p q),
  IW (WS (sbV p q) (saV p q)) (WS (sdV p q) (scV p q)),IW (WA (sdV p q) (scV p q)) (WA (sbV p q) (saV p q)),IW (WS (sdV p q) (scV p q)) (WA (sdV p q) (scV p q)),IW (WS (sbV p q) (saV p q)) (WA (sbV p q) (saV p q))],
  qv (Iv (WS (sbV p q) (saV p q)) (WS (sdV p q) (scV p q)) (WA (sdV p q) (scV p q)) (WA (sbV p q) (saV p q)))):=by kernel_rfl
def raN (p q:P4):Nat:=rfm (rfs p.y p.x) (rfs q.y q.x)
def rbN (p q:P4):Nat:=rfm (rfa p.y p.x) (rfa q.y q.x)
def rcN (p q:P4):Nat:=rfm (rfm p.t q.t) (rfa DN' DN')
def rdN (p q:P4):Nat:=rfm (rfa p.z p.z) q.z
def aT (p q:P4):P4 :=
 ⟨rfm (rfs (rbN p q) (raN p q)) (rfs (rdN p q) (rcN p q)),rfm (rfa (rdN p q) (rcN p q)) (rfa (rbN p q) (raN p q)),rfm (rfs (rdN p q) (rcN p q)) (rfa (rdN p q) (rcN p q)),rfm (rfs (rbN p q) (raN p q)) (rfa (rbN p q) (raN p q))⟩
theorem rv {p q:P4} (hp:p.ok) (hq:q.ok):raN p q<RN:=bO (cm _ hp.y) (cm _ hq.y)
theorem kr {p q:P4} (hp:p.ok) (hq:q.ok):rbN p q<RN:=bO (bB hp.y hp.x) (bB hq.y hq.x)
theorem rX {p q:P4} (hp:p.ok) (hq:q.ok):rcN p q<RN:=bO (bO hp.t hq.t) (bB cX cX)
theorem kC {p q:P4} (hp:p.ok) (hq:q.ok):rdN p q<RN:=bO (bB hp.z hp.z) hq.z
theorem iO {p q:P4} (hp:p.ok) (hq:q.ok):(aT p q).ok :=
 ⟨bO (cm _ (kr hp hq)) (cm _ (kC hp hq)),bO (bB (kC hp hq) (rX hp hq)) (bB (kr hp hq) (rv hp hq)),bO (cm _ (kC hp hq)) (bB (kC hp hq) (rX hp hq)),bO (cm _ (kr hp hq)) (bB (kr hp hq) (rv hp hq))⟩
theorem Be (p q:P4) (hp:p.ok) (hq:q.ok) (w:World):Calls Tryz.prog 48 #[qv p,qv q] w fun e w'=>e = .returned (qv (aT p q))∧Below w.heap.size w w':=by
 have run:=BH p q
 have la:=rv hp hq
 have lb:=kr hp hq
 have lc:=rX hp hq
 have ld:=kC hp hq
 have ea:saV p q=nv (raN p q):=by unfold saV;rw [vWS hp.y hp.x,vWS hq.y hq.x,vWM (cm _ hp.y) (cm _ hq.y)];rfl
 have eb:sbV p q=nv (rbN p q):=by unfold sbV;rw [vWA hp.y hp.x,vWA hq.y hq.x,vWM (bB hp.y hp.x) (bB hq.y hq.x)];rfl
 have ec:scV p q=nv (rcN p q):=by unfold scV;rw [vWM hp.t hq.t,vWA cX cX,vWM (bO hp.t hq.t) (bB cX cX)];rfl
 have ed:sdV p q=nv (rdN p q):=by unfold sdV;rw [vWA hp.z hp.z,vWM (bB hp.z hp.z) hq.z];rfl
 rw [ea,eb,ec,ed,vWS lb la,vWS ld lc,vWA ld lc,vWA lb la,vWS hp.y hp.x,vWS hq.y hq.x,vWA hp.y hp.x,vWA hq.y hq.x,vWM hp.t hq.t,vWA cX cX,vWA hp.z hp.z] at run
 have lE:rfs (rbN p q) (raN p q)<RN:=cm _ lb
 have lG:rfs (rdN p q) (rcN p q)<RN:=cm _ ld
 have lH:rfa (rdN p q) (rcN p q)<RN:=bB ld lc
 have lI:rfa (rbN p q) (raN p q)<RN:=bB lb la
 have eq:Iv (nv (rfs (rbN p q) (raN p q))) (nv (rfs (rdN p q) (rcN p q))) (nv (rfa (rdN p q) (rcN p q))) (nv (rfa (rbN p q) (raN p q)))=aT p q:=by
  unfold Iv;rw [bm lE,bm lG,bm lH,bm lI];rfl
 rw [eq] at run
 exact aw uS mixed Tryz.func48 (by kernel_rfl) run (al (iw hp.y hp.x) (al (iw hq.y hq.x) (al (iw (cm _ hp.y) (cm _ hq.y)) (al (iw hp.y hp.x) (al (iw hq.y hq.x) (al (iw (bB hp.y hp.x) (bB hq.y hq.x)) (al (iw hp.t hq.t) (al (iw cX cX) (al (iw (bO hp.t hq.t) (bB cX cX)) (al (iw hp.z hp.z) (al (iw (bB hp.z hp.z) hq.z) (al (iw lb la) (al (iw ld lc) (al (iw ld lc) (al (iw lb la) (al (iw lE lG) (al (iw lH lI) (al (iw lG lH) (al (iw lE lI) al0))))))))))))))))))) rfl (.inl (eF _)) w
def gRsum:List Value→Option (List Prop × Value)
 | [A,B]=>some ([IsQ A∧IsQ B],qv (aT (q4 A) (q4 B)))
 | _=>none
theorem mJ {X:Cx} (hX:X.Ok Tryz.prog):(X.pure 48 gRsum).Ok Tryz.prog:=by
 refine aA hX Tryz.func48 (by kernel_rfl) (by kernel_rfl) ?_
 intro args ps v ha hg hp
 unfold gRsum at hg
 split at hg
 ·rename_i A B
  simp only [qG,qH] at hg
  obtain ⟨rfl,rfl⟩:=hg
  obtain ⟨⟨hA,lA⟩,⟨hB,lB⟩⟩:=hp _ (List.mem_singleton.2 rfl)
  refine ⟨.inl (eF _),fun w => ?_⟩
  have h:=Be (q4 A) (q4 B) lA lB w
  rw [←hA,←hB] at h
  exact h
 ·simp at hg
def He (p:P4):P4:=⟨rfs 0 p.x,p.y,p.z,rfs 0 p.t⟩
theorem Dd (p:P4):sfun Tryz.prog H0 60 Tryz.f50 (ag Tryz.f50) [qv p]=some ([IW (nv 0) (nv p.x),IW (nv 0) (nv p.t)],qv ⟨rfs (aY (nv 0)) (aY (nv p.x)),p.y,p.z,rfs (aY (nv 0)) (aY (nv p.t))⟩):=by kernel_rfl
def gRmir:List Value→Option (List Prop × Value)
 | [A]=>some ([IsQ A],qv (He (q4 A)))
 | _=>none
theorem sJ {X:Cx} (hX:X.Ok Tryz.prog):(X.pure 50 gRmir).Ok Tryz.prog:=by
 refine aA hX Tryz.func50 (by kernel_rfl) (by kernel_rfl) ?_
 intro args ps v ha hg hp
 unfold gRmir at hg
 split at hg
 ·rename_i A
  simp only [qG,qH] at hg
  obtain ⟨rfl,rfl⟩:=hg
  obtain ⟨hA,lA⟩:=hp _ (List.mem_singleton.2 rfl)
  refine ⟨.inl (eF _),fun w => ?_⟩
  have run:=Dd (q4 A)
  rw [bm (n:=0) (by decide),bm lA.x,bm lA.t] at run
  have h:=aw uS mixed Tryz.func50 (by kernel_rfl) run (al (iw (by decide) lA.x) (al (iw (by decide) lA.t) al0)) rfl (.inl (eF _)) w
  rw [←hA] at h
  exact h
 ·simp at hg
def eiV (p:P4):Value:=WI (nv p.z)
def exN (p:P4):Nat:=rfm p.x (rfi p.z) % pp
def eyN (p:P4):Nat:=rfm p.y (rfi p.z) % pp
def exS (p:P4):Nat:=aY (WM (nv p.x) (eiV p)) % pp
def eyS (p:P4):Nat:=aY (WM (nv p.y) (eiV p)) % pp
def FV (x:Nat):Int:=IntKind.u8.wrap (Int.tmod (lw x 0) 2)
def Jc (y x:Nat):Value := .agg ((bl y).take 31 ++ [Value.int .u8 (bits .or .u8 (by8 y 31) (IntKind.u8.wrap (FV x*2 ^ 7)))]).toArray
theorem DH (p:P4):sfun Tryz.prog H0 60 Tryz.f47 (ag Tryz.f47) [qv p]=some ([IsW (nv p.z),IW (nv p.x) (eiV p),IsW (WM (nv p.x) (eiV p)),IW (nv p.y) (eiV p),IsW (WM (nv p.y) (eiV p))],Jc (eyS p) (exS p)):=by kernel_rfl
theorem yb (x:Nat):FV x=((x % 2:Nat):Int):=by
 have h:Int.tmod (lw x 0) 2=((x % 2:Nat):Int):=by
  unfold lw
  rw [Nat.pow_zero,Nat.div_one]
  show ((x % 18446744073709551616 % 2:Nat):Int)=_
  congr 1
  omega
 have hx:x % 2<2:=Nat.mod_lt _ (by decide)
 unfold FV
 rw [h]
 rcases (by omega:x % 2=0∨x % 2=1) with e | e <;> rw [e] <;> rfl
theorem or_zero : ∀ y:Fin 256,bits .or .u8 ((y.val:Nat):Int) 0=((y.val:Nat):Int):=by decide +kernel
theorem D9 (y x:Nat) (hy:y<TT):Jc y x=bv (y+x % 2*TT):=by
 have hx:x % 2<2:=Nat.mod_lt _ (by decide)
 unfold Jc
 rw [yb]
 rcases (by omega:x % 2=0∨x % 2=1) with e | e
 ·rw [e,Nat.zero_mul,Nat.add_zero]
  have hb:y/256 ^ 31 % 256<256:=Nat.mod_lt _ (by decide)
  have o:=or_zero ⟨y/256 ^ 31 % 256,hb⟩
  have e2:IntKind.u8.wrap (((0:Nat):Int)*2 ^ 7)=0:=by decide
  rw [e2]
  have o':bits .or .u8 (by8 y 31) 0=by8 y 31:=o
  rw [o',←nB]
  rfl
 ·rw [e,Nat.one_mul]
  have e2:IntKind.u8.wrap (((1:Nat):Int)*2 ^ 7)=128:=by decide
  rw [e2]
  exact rO y hy
def wqN (p:P4):Nat:=eyN p+exN p % 2*TT
def ya:List Value→Option (List Prop × Value)
 | [A]=>some ([IsQ A],bv (wqN (q4 A)))
 | _=>none
theorem uv {X:Cx} (hX:X.Ok Tryz.prog):(X.pure 47 ya).Ok Tryz.prog:=by
 refine aA hX Tryz.func47 (by kernel_rfl) (by kernel_rfl) ?_
 intro args ps v ha hg hp
 unfold ya at hg
 split at hg
 ·rename_i A
  simp only [qG,qH] at hg
  obtain ⟨rfl,rfl⟩:=hg
  obtain ⟨hA,lA⟩:=hp _ (List.mem_singleton.2 rfl)
  refine ⟨.inl (aC _),fun w => ?_⟩
  have run:=DH (q4 A)
  have lz:=qY lA.z
  have e1:eiV (q4 A)=nv (rfi (q4 A).z):=vWI lA.z
  have e2:exS (q4 A)=exN (q4 A):=by unfold exS exN;rw [e1,vWM lA.x lz,bm (bO lA.x lz)]
  have e3:eyS (q4 A)=eyN (q4 A):=by unfold eyS eyN;rw [e1,vWM lA.y lz,bm (bO lA.y lz)]
  have ly:eyN (q4 A)<TT:=Nat.lt_trans (Nat.mod_lt _ (by decide)) im
  rw [e2,e3,e1,vWM lA.x lz,vWM lA.y lz,D9 _ _ ly] at run
  have h:=aw uS mixed Tryz.func47 (by kernel_rfl) run (al (iu lA.z) (al (iw lA.x lz) (al (iu (bO lA.x lz)) (al (iw lA.y lz) (al (iu (bO lA.y lz)) al0))))) rfl (.inl (aC _)) w
  rw [←hA] at h
  exact h
 ·simp at hg
def H1:Cx:=(((H0.pure 93 gRneu).pure 48 gRsum).pure 50 gRmir).pure 47 ya
theorem Lg:H1.Ok Tryz.prog:=uv (sJ (mJ (uh uS)))
theorem CP (d x1 y1 z1 t1 x2 y2 z2 t2:KK):(⟨((y1+x1)*(y2+x2) - (y1 - x1)*(y2 - x2))*((z1+z1)*z2 - t1*t2*(d+d)),((z1+z1)*z2+t1*t2*(d+d))*((y1+x1)*(y2+x2)+(y1 - x1)*(y2 - x2)),((z1+z1)*z2 - t1*t2*(d+d))*((z1+z1)*z2+t1*t2*(d+d)),((y1+x1)*(y2+x2) - (y1 - x1)*(y2 - x2))*((y1+x1)*(y2+x2)+(y1 - x1)*(y2 - x2))⟩:E4 KK)=zl d ⟨x1,y1,z1,t1⟩ ⟨x2,y2,z2,t2⟩:=by
 unfold zl vx
 simp only [E4.mk.injEq]
 refine ⟨?_,?_,?_,?_⟩ <;> grind
theorem tI {a b:P4} {p q:PT} (la:a.ok) (lb:b.ok) (ha:Rep (cP a) p) (hb:Rep (cP b) q):Rep (cP (aT a b)) (zD p q):=by
 have h:=rN FK ha hb
 have l1:=rv la lb
 have l2:=kr la lb
 have l3:=rX la lb
 have l4:=kC la lb
 have k1:cK (raN a b)=(cK a.y - cK a.x)*(cK b.y - cK b.x):=by unfold raN;rw [dd (cm _ la.y) (cm _ lb.y),mB _ la.y,mB _ lb.y]
 have k2:cK (rbN a b)=(cK a.y+cK a.x)*(cK b.y+cK b.x):=by unfold rbN;rw [dd (bB la.y la.x) (bB lb.y lb.x),jH la.y la.x,jH lb.y lb.x]
 have k3:cK (rcN a b)=(cK a.t*cK b.t)*(DK+DK):=by unfold rcN;rw [dd (bO la.t lb.t) (bB cX cX),dd la.t lb.t,jH cX cX];rfl
 have k4:cK (rdN a b)=(cK a.z+cK a.z)*cK b.z:=by unfold rdN;rw [dd (bB la.z la.z) lb.z,jH la.z la.z]
 have e:cP (aT a b)=zl DK (cP a) (cP b):=by
  unfold cP aT
  simp only
  rw [dd (cm _ l2) (cm _ l4),dd (bB l4 l3) (bB l2 l1),dd (cm _ l4) (bB l4 l3),dd (cm _ l2) (bB l2 l1),mB _ l2,mB _ l4,jH l4 l3,jH l2 l1,k1,k2,k3,k4]
  exact CP DK (cK a.x) (cK a.y) (cK a.z) (cK a.t) (cK b.x) (cK b.y) (cK b.z) (cK b.t)
 rw [e];exact h
theorem Js {a:P4} {p:PT} (la:a.ok) (h:Rep (cP a) p):wqN a=enc p:=by
 obtain ⟨h1,h2,h3,_⟩:=h
 have hz:cK a.z≠0:=h1
 have iv:=FK.inv _ hz
 have hx:cK a.x=p.x*cK a.z:=h2
 have hy:cK a.y=p.y*cK a.z:=h3
 have lz:=qY la.z
 have kx:cK (exN a)=p.x:=by
  unfold exN;rw [mG,dd la.x lz,vg la.z,hx]
  have:=gI p.x (cK a.z) (lJ (cK a.z))
  rw [this,iv,kg]
 have ky:cK (eyN a)=p.y:=by
  unfold eyN;rw [mG,dd la.y lz,vg la.z,hy]
  have:=gI p.y (cK a.z) (lJ (cK a.z))
  rw [this,iv,kg]
 unfold wqN enc
 rw [←m8 (Nat.mod_lt _ (by decide)) kx,←m8 (Nat.mod_lt _ (by decide)) ky]
 rfl
end Go.Proofs.YtajehiidpecknaaGreatDoor
