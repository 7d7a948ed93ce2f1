/- The field's reference as contracts of the small memory: just what each call answers. -/
import Derived.Test.YtajehiidpecknaaGreatDoorFieRL
import Derived.Test.YtajehiidpecknaaGreatDoorPoiG
set_option linter.unusedSimpArgs false
set_option linter.unusedVariables false
namespace Go.Proofs.YtajehiidpecknaaGreatDoor
open Go Go.RowKit
def ki:List Value→Nat
 | []=>0
 | .int _ x :: l=>x.toNat+18446744073709551616*ki l
 | _ :: l=>18446744073709551616*ki l
def aZ:Value→Nat
 | .agg cs=>ki cs.toList
 | _=>0
theorem gQ {n:Nat} (h:n<RN):ki (nl n)=n:=by
 have e:ki (nl n)=(lw n 0).toNat+18446744073709551616*((lw n 1).toNat+18446744073709551616*((lw n 2).toNat+18446744073709551616*((lw n 3).toNat+18446744073709551616*0))):=rfl
 rw [e]
 unfold lw
 simp only [Int.toNat_natCast]
 have e2:n/18446744073709551616 ^ 2=n/18446744073709551616/18446744073709551616:=by rw [Nat.div_div_eq_div_mul]
 have e3:n/18446744073709551616 ^ 3=n/18446744073709551616/18446744073709551616/18446744073709551616:=by rw [Nat.div_div_eq_div_mul,Nat.div_div_eq_div_mul]
 rw [e2,e3,Nat.pow_zero,Nat.div_one,Nat.pow_one]
 simp only [RN] at h
 omega
theorem bm {n:Nat} (h:n<RN):aZ (nv n)=n:=gQ h
def IsW (A:Value):Prop:=A=nv (aZ A)∧aZ A<RN
theorem iF {n:Nat} (h:n<RN):IsW (nv n):=by unfold IsW;rw [bm h];exact ⟨rfl,h⟩
theorem gB (n:Nat):flat (nv n)=true:=rfl
def rfa (a b:Nat):Nat:=fX (a+b)
def rfs (a b:Nat):Nat:=fX (a+(pp - b % pp))
def rfm (a b:Nat):Nat:=fX (fu (a*b))
def rfi (a:Nat):Nat:=pX a (pp - 2) 256
theorem oo {T:Nat} (h:T/RN<18446744073709551616):fX T<RN:=by
 unfold fX
 have:=Nat.mod_lt T (show 0<RN by decide)
 simp only [RN] at *
 split <;> omega
theorem sG {T:Nat} (h:T/RN<18446744073709551616):fX T % pp=T % pp:=by
 have e:=Nat.div_add_mod T RN
 unfold fX
 have:=Nat.mod_lt T (show 0<RN by decide)
 generalize T/RN=q at *
 generalize T % RN=r at *
 subst e
 simp only [RN,pp] at *
 split <;> omega
theorem fQ {a b:Nat} (ha:a<RN) (hb:b<RN):fu (a*b)/RN<18446744073709551616:=by
 have h1:a*b/RN<RN:=by
  rw [Nat.div_lt_iff_lt_mul (by decide)]
  exact Nat.mul_lt_mul'' ha hb
 unfold fu
 have:=Nat.mod_lt (a*b) (show 0<RN by decide)
 generalize a*b/RN=q at *
 generalize a*b % RN=r at *
 simp only [RN] at *
 omega
theorem zw (n:Nat):fu n % pp=n % pp:=by
 have e:=Nat.div_add_mod n RN
 unfold fu
 generalize n/RN=q at *
 generalize n % RN=r at *
 subst e
 simp only [RN,pp] at *
 omega
theorem xD {a b:Nat} (ha:a<RN) (hb:b<RN):(a+b)/RN<18446744073709551616:=by simp only [RN] at *;omega
theorem rG {a:Nat} (b:Nat) (ha:a<RN):(a+(pp - b % pp))/RN<18446744073709551616:=by simp only [RN,pp] at *;omega
theorem bB {a b:Nat} (ha:a<RN) (hb:b<RN):rfa a b<RN:=oo (xD ha hb)
theorem cj {a:Nat} (b:Nat) (ha:a<RN):rfs a b<RN:=oo (rG b ha)
theorem bO {a b:Nat} (ha:a<RN) (hb:b<RN):rfm a b<RN:=oo (fQ ha hb)
theorem BC {a:Nat} (b:Nat) (ha:a<RN) : ∀ j,pX a b j<RN
 | 0=>by show (1:Nat)<RN;decide
 | j+1=>by
  have ih:=BC b ha j
  unfold pX
  split
  ·exact oo (fQ (oo (fQ ih ih)) ha)
  ·exact oo (fQ ih ih)
theorem qx {a:Nat} (ha:a<RN):rfi a<RN:=BC _ ha 256
theorem lO {a b:Nat} (ha:a<RN) (hb:b<RN):rfm a b % pp=a*b % pp:=by
 unfold rfm;rw [sG (fQ ha hb),zw]
theorem BV {a b:Nat} (ha:a<RN) (hb:b<2 ^ 256) : ∀ j,j≤256→pX a b j % pp=a ^ (b/2 ^ (256 - j)) % pp
 | 0,_=>by rw [Nat.sub_zero,Nat.div_eq_of_lt hb,Nat.pow_zero];rfl
 | j+1,hj=>by
  have ih:=BV ha hb j (by omega)
  have hl:=BC b ha j
  have e1:256 - j=(255 - j)+1:=by omega
  have e2:256 - (j+1)=255 - j:=by omega
  rw [e1] at ih
  rw [e2]
  unfold pX
  split
  ·rename_i h
   exact yy a b (255 - j) _ _ _ ih (lO hl hl) (lO (bO hl hl) ha) h
  ·rename_i h
   exact oC a b (255 - j) _ _ ih (lO hl hl) (by omega)
theorem jt {a b:Nat} (ha:a<RN) (hb:b<RN):cK (rfa a b)=cK a+cK b:=by
 rw [←Dr];exact gD.2 (by rw [Nat.mod_mod];exact sG (xD ha hb))
theorem nt {a:Nat} (b:Nat) (ha:a<RN):cK (rfs a b)=cK a - cK b:=by
 rw [←Ar];exact gD.2 (by rw [Nat.mod_mod];exact sG (rG b ha))
theorem c9 {a b:Nat} (ha:a<RN) (hb:b<RN):cK (rfm a b)=cK a*cK b:=by
 rw [←eZ];exact gD.2 (by rw [Nat.mod_mod];exact lO ha hb)
theorem wh {a:Nat} (ha:a<RN):cK (rfi a)=lK (cK a):=by
 rw [yb]
 refine gD.2 ?_
 rw [Nat.mod_mod]
 have:=BV (b:=pp - 2) ha (by decide) 256 (Nat.le_refl _)
 rw [Nat.sub_self,Nat.pow_zero,Nat.div_one] at this
 exact this
def WA (A B:Value):Value:=nv (rfa (aZ A) (aZ B))
def WS (A B:Value):Value:=nv (rfs (aZ A) (aZ B))
def WM (A B:Value):Value:=nv (rfm (aZ A) (aZ B))
def WI (A:Value):Value:=nv (rfi (aZ A))
def WL (A:Value):Value:=nv (aZ A % pp)
def gWpl:List Value→Option (List Prop × Value)
 | [A,B]=>some ([IsW A∧IsW B],WA A B)
 | _=>none
theorem DZ {X:Cx} (hX:X.Ok Tryz.prog):(X.pure 89 gWpl).Ok Tryz.prog:=by
 refine aA hX Tryz.func89 (by kernel_rfl) (by kernel_rfl) ?_
 intro args ps v ha hg hp
 unfold gWpl at hg
 split at hg
 ·rename_i A B
  simp only [qG,qH] at hg
  obtain ⟨rfl,rfl⟩:=hg
  obtain ⟨hA,hB⟩:=hp _ (List.mem_singleton.2 rfl)
  refine ⟨.inl (gB _),fun w => ?_⟩
  have h:Calls Tryz.prog 89 #[nv (aZ A),nv (aZ B)] w fun e w'=>e = .returned (WA A B)∧Below w.heap.size w w':=(nf (aZ A) (aZ B) hA.2 hB.2 w).mono fun e w' ⟨z,h1,h2,h3,h4⟩=>⟨by rw [h2,h3.2];rfl,h4⟩
  rw [←hA.1,←hB.1] at h
  exact h
 ·simp at hg
def IP:List Value→Option (List Prop × Value)
 | [A,B]=>some ([IsW A∧IsW B],WS A B)
 | _=>none
theorem GA {X:Cx} (hX:X.Ok Tryz.prog):(X.pure 86 IP).Ok Tryz.prog:=by
 refine aA hX Tryz.func86 (by kernel_rfl) (by kernel_rfl) ?_
 intro args ps v ha hg hp
 unfold IP at hg
 split at hg
 ·rename_i A B
  simp only [qG,qH] at hg
  obtain ⟨rfl,rfl⟩:=hg
  obtain ⟨hA,hB⟩:=hp _ (List.mem_singleton.2 rfl)
  refine ⟨.inl (gB _),fun w => ?_⟩
  have h:Calls Tryz.prog 86 #[nv (aZ A),nv (aZ B)] w fun e w'=>e = .returned (WS A B)∧Below w.heap.size w w':=(uw (aZ A) (aZ B) hA.2 hB.2 w).mono fun e w' ⟨z,h1,h2,h3,h4⟩=>⟨by rw [h2,h3.2];rfl,h4⟩
  rw [←hA.1,←hB.1] at h
  exact h
 ·simp at hg
def Jx:List Value→Option (List Prop × Value)
 | [A,B]=>some ([IsW A∧IsW B],WM A B)
 | _=>none
theorem FV {X:Cx} (hX:X.Ok Tryz.prog):(X.pure 84 Jx).Ok Tryz.prog:=by
 refine aA hX Tryz.func84 (by kernel_rfl) (by kernel_rfl) ?_
 intro args ps v ha hg hp
 unfold Jx at hg
 split at hg
 ·rename_i A B
  simp only [qG,qH] at hg
  obtain ⟨rfl,rfl⟩:=hg
  obtain ⟨hA,hB⟩:=hp _ (List.mem_singleton.2 rfl)
  refine ⟨.inl (gB _),fun w => ?_⟩
  have h:Calls Tryz.prog 84 #[nv (aZ A),nv (aZ B)] w fun e w'=>e = .returned (WM A B)∧Below w.heap.size w w':=(iz (aZ A) (aZ B) hA.2 hB.2 w).mono fun e w' ⟨z,h1,h2,h3,h4⟩=>⟨by rw [h2,h3.2];rfl,h4⟩
  rw [←hA.1,←hB.1] at h
  exact h
 ·simp at hg
def gWin:List Value→Option (List Prop × Value)
 | [A]=>some ([IsW A],WI A)
 | _=>none
theorem Fc {X:Cx} (hX:X.Ok Tryz.prog):(X.pure 88 gWin).Ok Tryz.prog:=by
 refine aA hX Tryz.func88 (by kernel_rfl) (by kernel_rfl) ?_
 intro args ps v ha hg hp
 unfold gWin at hg
 split at hg
 ·rename_i A
  simp only [qG,qH] at hg
  obtain ⟨rfl,rfl⟩:=hg
  have hA:=hp _ (List.mem_singleton.2 rfl)
  refine ⟨.inl (gB _),fun w => ?_⟩
  have h:Calls Tryz.prog 88 #[nv (aZ A)] w fun e w'=>e = .returned (WI A)∧Below w.heap.size w w':=(nW (aZ A) hA.2 w).mono fun e w' ⟨z,h1,h2,h3,h4⟩=>⟨by rw [h2,h3.2];rfl,h4⟩
  rw [←hA.1] at h
  exact h
 ·simp at hg
def J8:List Value→Option (List Prop × Value)
 | [A]=>some ([IsW A],WL A)
 | _=>none
theorem FE {X:Cx} (hX:X.Ok Tryz.prog):(X.pure 91 J8).Ok Tryz.prog:=by
 refine aA hX Tryz.func91 (by kernel_rfl) (by kernel_rfl) ?_
 intro args ps v ha hg hp
 unfold J8 at hg
 split at hg
 ·rename_i A
  simp only [qG,qH] at hg
  obtain ⟨rfl,rfl⟩:=hg
  have hA:=hp _ (List.mem_singleton.2 rfl)
  refine ⟨.inl (gB _),fun w => ?_⟩
  have h:Calls Tryz.prog 91 #[nv (aZ A)] w fun e w'=>e = .returned (WL A)∧Below w.heap.size w w':=dr (aZ A) hA.2 w
  rw [←hA.1] at h
  exact h
 ·simp at hg
def JQ:List Value→Option (List Prop × Value)
 | [A]=>some ([IsW A],bv (aZ A % pp))
 | _=>none
theorem Em {X:Cx} (hX:X.Ok Tryz.prog):(X.pure 92 JQ).Ok Tryz.prog:=by
 refine aA hX Tryz.func92 (by kernel_rfl) (by kernel_rfl) ?_
 intro args ps v ha hg hp
 unfold JQ at hg
 split at hg
 ·rename_i A
  simp only [qG,qH] at hg
  obtain ⟨rfl,rfl⟩:=hg
  have hA:=hp _ (List.mem_singleton.2 rfl)
  refine ⟨.inl (aC _),fun w => ?_⟩
  have h:Calls Tryz.prog 92 #[nv (aZ A)] w fun e w'=>e = .returned (bv (aZ A % pp))∧Below w.heap.size w w':=vY (aZ A) hA.2 w
  rw [←hA.1] at h
  exact h
 ·simp at hg
def IY:List Value→Option (List Prop × Value)
 | [A]=>some ([IsB A],nv (aj A))
 | _=>none
theorem DH {X:Cx} (hX:X.Ok Tryz.prog):(X.pure 83 IY).Ok Tryz.prog:=by
 refine aA hX Tryz.func83 (by kernel_rfl) (by kernel_rfl) ?_
 intro args ps v ha hg hp
 unfold IY at hg
 split at hg
 ·rename_i A
  simp only [qG,qH] at hg
  obtain ⟨rfl,rfl⟩:=hg
  have hA:=hp _ (List.mem_singleton.2 rfl)
  refine ⟨.inl (gB _),fun w => ?_⟩
  have h:Calls Tryz.prog 83 #[bv (aj A)] w fun e w'=>e = .returned (nv (aj A))∧Below w.heap.size w w':=oe (aj A) (aQ hA) w
  rw [← (show A=bv (aj A) from hA)] at h
  exact h
 ·simp at hg
def I2:List Value→Option (List Prop × Value)
 | [A]=>some ([IsB A],.bool (decide (aj A<pp)))
 | _=>none
theorem FT {X:Cx} (hX:X.Ok Tryz.prog):(X.pure 82 I2).Ok Tryz.prog:=by
 refine aA hX Tryz.func82 (by kernel_rfl) (by kernel_rfl) ?_
 intro args ps v ha hg hp
 unfold I2 at hg
 split at hg
 ·rename_i A
  simp only [qG,qH] at hg
  obtain ⟨rfl,rfl⟩:=hg
  have hA:=hp _ (List.mem_singleton.2 rfl)
  refine ⟨.inl rfl,fun w => ?_⟩
  have h:Calls Tryz.prog 82 #[bv (aj A)] w fun e w'=>e = .returned (.bool (decide (aj A<pp)))∧Below w.heap.size w w':=eP (aj A) (aQ hA) w
  rw [← (show A=bv (aj A) from hA)] at h
  exact h
 ·simp at hg
theorem y9 (n:Nat) (b:Bool):flat (.tuple #[nv n,.bool b])=true:=rfl
def Jb:List Value→Option (List Prop × Value)
 | [A]=>some ([IsW A],.tuple #[nv (rt (aZ A)),.bool (decide (rt (aZ A)*rt (aZ A) % pp=aZ A % pp))])
 | _=>none
theorem Gl {X:Cx} (hX:X.Ok Tryz.prog):(X.pure 85 Jb).Ok Tryz.prog:=by
 refine aA hX Tryz.func85 (by kernel_rfl) (by kernel_rfl) ?_
 intro args ps v ha hg hp
 unfold Jb at hg
 split at hg
 ·rename_i A
  simp only [qG,qH] at hg
  obtain ⟨rfl,rfl⟩:=hg
  have hA:=hp _ (List.mem_singleton.2 rfl)
  refine ⟨.inl (y9 _ _),fun w => ?_⟩
  have h:Calls Tryz.prog 85 #[nv (aZ A)] w fun e w'=>e = .returned (.tuple #[nv (rt (aZ A)),.bool (decide (rt (aZ A)*rt (aZ A) % pp=aZ A % pp))])∧Below w.heap.size w w':=zv (aZ A) hA.2 w
  rw [←hA.1] at h
  exact h
 ·simp at hg
theorem Kz:sfun Tryz.prog Cx.none 60 Tryz.f90 (ag Tryz.f90) []=some ([],nv DN'):=by kernel_rfl
def gWd:List Value→Option (List Prop × Value)
 | []=>some ([],nv DN')
 | _=>none
theorem Js {X:Cx} (hX:X.Ok Tryz.prog):(X.pure 90 gWd).Ok Tryz.prog:=by
 refine aA hX Tryz.func90 (by kernel_rfl) (by kernel_rfl) ?_
 intro args ps v ha hg hp
 unfold gWd at hg
 split at hg
 ·simp only [qG,qH] at hg
  obtain ⟨rfl,rfl⟩:=hg
  exact ⟨.inl rfl,aw Cx.none_ok mixed Tryz.func90 (by kernel_rfl) Kz (by simp) rfl (.inl rfl)⟩
 ·simp at hg
def gWsm:List Value→Option (List Prop × Value)
 | [.int .u64 x]=>some ([],.agg #[.int .u64 x,.int .u64 0,.int .u64 0,.int .u64 0])
 | _=>none
theorem EZ {X:Cx} (hX:X.Ok Tryz.prog):(X.pure 87 gWsm).Ok Tryz.prog:=by
 refine aA hX Tryz.func87 (by kernel_rfl) (by kernel_rfl) ?_
 intro args ps v ha hg hp
 unfold gWsm at hg
 split at hg
 ·rename_i x
  simp only [qG,qH] at hg
  obtain ⟨rfl,rfl⟩:=hg
  exact ⟨.inl rfl,fun w=>mB x w⟩
 ·simp at hg
def H0:Cx:=((((((((((Cx.none.pure 89 gWpl).pure 86 IP).pure 84 Jx).pure 88 gWin).pure 91 J8).pure 92 JQ).pure 83 IY).pure 82 I2).pure 85 Jb).pure 90 gWd).pure 87 gWsm
theorem uD:H0.Ok Tryz.prog:=EZ (Js (Gl (FT (DH (Em (FE (Fc (FV (GA (DZ Cx.none_ok))))))))))
end Go.Proofs.YtajehiidpecknaaGreatDoor
/- The curve's reference: Neutral, Sum, Minus, Encode as contracts. -/
namespace Go.Proofs.YtajehiidpecknaaGreatDoor
open Go Go.RowKit
def q16 (p:P4):List Value:=nl p.x ++ (nl p.y ++ (nl p.z ++ nl p.t))
def qv (p:P4):Value := .agg (q16 p).toArray
def q4:Value→P4
 | .agg cs=>⟨ki (cs.toList.take 4),ki ((cs.toList.drop 4).take 4),ki ((cs.toList.drop 8).take 4),ki ((cs.toList.drop 12).take 4)⟩
 | _=>⟨0,0,0,0⟩
theorem kV {p:P4} (h:p.ok):q4 (qv p)=p:=by
 obtain ⟨x,y,z,t⟩:=p
 obtain ⟨h1,h2,h3,h4⟩:=h
 simp only at h1 h2 h3 h4
 have e:q4 (qv ⟨x,y,z,t⟩)=⟨ki (nl x),ki (nl y),ki (nl z),ki (nl t)⟩:=rfl
 rw [e,gQ h1,gQ h2,gQ h3,gQ h4]
def IsQ (A:Value):Prop:=A=qv (q4 A)∧(q4 A).ok
theorem iB {p:P4} (h:p.ok):IsQ (qv p):=by unfold IsQ;rw [kV h];exact ⟨rfl,h⟩
theorem eI (p:P4):flat (qv p)=true:=rfl
def IW (A B:Value):Prop:=IsW A∧IsW B
theorem iw {a b:Nat} (ha:a<RN) (hb:b<RN):IW (nv a) (nv b):=⟨iF ha,iF hb⟩
theorem vWA {a b:Nat} (ha:a<RN) (hb:b<RN):WA (nv a) (nv b)=nv (rfa a b):=by unfold WA;rw [bm ha,bm hb]
theorem vWS {a b:Nat} (ha:a<RN) (hb:b<RN):WS (nv a) (nv b)=nv (rfs a b):=by unfold WS;rw [bm ha,bm hb]
theorem vWM {a b:Nat} (ha:a<RN) (hb:b<RN):WM (nv a) (nv b)=nv (rfm a b):=by unfold WM;rw [bm ha,bm hb]
theorem vWI {a:Nat} (ha:a<RN):WI (nv a)=nv (rfi a):=by unfold WI;rw [bm ha]
theorem cX:DN'<RN:=by decide
theorem Da:sfun Tryz.prog H0 60 Tryz.f93 (ag Tryz.f93) []=some ([],qv il):=by kernel_rfl
def gRneu:List Value→Option (List Prop × Value)
 | []=>some ([],qv il)
 | _=>none
theorem sN {X:Cx} (hX:X.Ok Tryz.prog):(X.pure 93 gRneu).Ok Tryz.prog:=by
 refine aA hX Tryz.func93 (by kernel_rfl) (by kernel_rfl) ?_
 intro args ps v ha hg hp
 unfold gRneu at hg
 split at hg
 ·simp only [qG,qH] at hg
  obtain ⟨rfl,rfl⟩:=hg
  exact ⟨.inl (eI _),aw uD mixed Tryz.func93 (by kernel_rfl) Da (by simp) rfl (.inl (eI _))⟩
 ·simp at hg
def saV (p q:P4):Value:=WM (WS (nv p.y) (nv p.x)) (WS (nv q.y) (nv q.x))
def sbV (p q:P4):Value:=WM (WA (nv p.y) (nv p.x)) (WA (nv q.y) (nv q.x))
def scV (p q:P4):Value:=WM (WM (nv p.t) (nv q.t)) (WA (nv DN') (nv DN'))
def sdV (p q:P4):Value:=WM (WA (nv p.z) (nv p.z)) (nv q.z)
def Iv (E G H I:Value):P4:=⟨rfm (aZ E) (aZ G),rfm (aZ H) (aZ I),rfm (aZ G) (aZ H),rfm (aZ E) (aZ I)⟩
theorem Ca (p q:P4):sfun Tryz.prog H0 60 Tryz.f48 (ag Tryz.f48) [qv p,qv q]=some ([
  IW (nv p.y) (nv p.x),IW (nv q.y) (nv q.x),IW (WS (nv p.y) (nv p.x)) (WS (nv q.y) (nv q.x)),
  IW (nv p.y) (nv p.x),IW (nv q.y) (nv q.x),IW (WA (nv p.y) (nv p.x)) (WA (nv q.y) (nv q.x)),
  IW (nv p.t) (nv q.t),IW (nv DN') (nv DN'),IW (WM (nv p.t) (nv q.t)) (WA (nv DN') (nv DN')),
  IW (nv p.z) (nv p.z),IW (WA (nv p.z) (nv p.z)) (nv q.z),
  IW (sbV p q) (saV p q),IW (sdV p q) (scV p q),IW (sdV p q) (scV p q),IW (sbV p q) (saV p q),
  IW (WS (sbV p q) (saV p q)) (WS (sdV p q) (scV p q)),IW (WA (sdV p q) (scV p q)) (WA (sbV p q) (saV p q)),IW (WS (sdV p q) (scV p q)) (WA (sdV p q) (scV p q)),IW (WS (sbV p q) (saV p q)) (WA (sbV p q) (saV p q))],
  qv (Iv (WS (sbV p q) (saV p q)) (WS (sdV p q) (scV p q)) (WA (sdV p q) (scV p q)) (WA (sbV p q) (saV p q)))):=by kernel_rfl
def raN (p q:P4):Nat:=rfm (rfs p.y p.x) (rfs q.y q.x)
def rbN (p q:P4):Nat:=rfm (rfa p.y p.x) (rfa q.y q.x)
def rcN (p q:P4):Nat:=rfm (rfm p.t q.t) (rfa DN' DN')
def rdN (p q:P4):Nat:=rfm (rfa p.z p.z) q.z
def aT (p q:P4):P4 :=
 ⟨rfm (rfs (rbN p q) (raN p q)) (rfs (rdN p q) (rcN p q)),rfm (rfa (rdN p q) (rcN p q)) (rfa (rbN p q) (raN p q)),rfm (rfs (rdN p q) (rcN p q)) (rfa (rdN p q) (rcN p q)),rfm (rfs (rbN p q) (raN p q)) (rfa (rbN p q) (raN p q))⟩
theorem qU {p q:P4} (hp:p.ok) (hq:q.ok):raN p q<RN:=bO (cj _ hp.y) (cj _ hq.y)
theorem kK {p q:P4} (hp:p.ok) (hq:q.ok):rbN p q<RN:=bO (bB hp.y hp.x) (bB hq.y hq.x)
theorem qQ {p q:P4} (hp:p.ok) (hq:q.ok):rcN p q<RN:=bO (bO hp.t hq.t) (bB cX cX)
theorem ku {p q:P4} (hp:p.ok) (hq:q.ok):rdN p q<RN:=bO (bB hp.z hp.z) hq.z
theorem iu {p q:P4} (hp:p.ok) (hq:q.ok):(aT p q).ok :=
 ⟨bO (cj _ (kK hp hq)) (cj _ (ku hp hq)),bO (bB (ku hp hq) (qQ hp hq)) (bB (kK hp hq) (qU hp hq)),bO (cj _ (ku hp hq)) (bB (ku hp hq) (qQ hp hq)),bO (cj _ (kK hp hq)) (bB (kK hp hq) (qU hp hq))⟩
theorem Bn (p q:P4) (hp:p.ok) (hq:q.ok) (w:World):Calls Tryz.prog 48 #[qv p,qv q] w fun e w'=>e = .returned (qv (aT p q))∧Below w.heap.size w w':=by
 have run:=Ca p q
 have la:=qU hp hq
 have lb:=kK hp hq
 have lc:=qQ hp hq
 have ld:=ku hp hq
 have ea:saV p q=nv (raN p q):=by unfold saV;rw [vWS hp.y hp.x,vWS hq.y hq.x,vWM (cj _ hp.y) (cj _ hq.y)];rfl
 have eb:sbV p q=nv (rbN p q):=by unfold sbV;rw [vWA hp.y hp.x,vWA hq.y hq.x,vWM (bB hp.y hp.x) (bB hq.y hq.x)];rfl
 have ec:scV p q=nv (rcN p q):=by unfold scV;rw [vWM hp.t hq.t,vWA cX cX,vWM (bO hp.t hq.t) (bB cX cX)];rfl
 have ed:sdV p q=nv (rdN p q):=by unfold sdV;rw [vWA hp.z hp.z,vWM (bB hp.z hp.z) hq.z];rfl
 rw [ea,eb,ec,ed,vWS lb la,vWS ld lc,vWA ld lc,vWA lb la,vWS hp.y hp.x,vWS hq.y hq.x,vWA hp.y hp.x,vWA hq.y hq.x,vWM hp.t hq.t,vWA cX cX,vWA hp.z hp.z] at run
 have lE:rfs (rbN p q) (raN p q)<RN:=cj _ lb
 have lG:rfs (rdN p q) (rcN p q)<RN:=cj _ ld
 have lH:rfa (rdN p q) (rcN p q)<RN:=bB ld lc
 have lI:rfa (rbN p q) (raN p q)<RN:=bB lb la
 have eq:Iv (nv (rfs (rbN p q) (raN p q))) (nv (rfs (rdN p q) (rcN p q))) (nv (rfa (rdN p q) (rcN p q))) (nv (rfa (rbN p q) (raN p q)))=aT p q:=by
  unfold Iv;rw [bm lE,bm lG,bm lH,bm lI];rfl
 rw [eq] at run
 exact aw uD mixed Tryz.func48 (by kernel_rfl) run (al (iw hp.y hp.x) (al (iw hq.y hq.x) (al (iw (cj _ hp.y) (cj _ hq.y)) (al (iw hp.y hp.x) (al (iw hq.y hq.x) (al (iw (bB hp.y hp.x) (bB hq.y hq.x)) (al (iw hp.t hq.t) (al (iw cX cX) (al (iw (bO hp.t hq.t) (bB cX cX)) (al (iw hp.z hp.z) (al (iw (bB hp.z hp.z) hq.z) (al (iw lb la) (al (iw ld lc) (al (iw ld lc) (al (iw lb la) (al (iw lE lG) (al (iw lH lI) (al (iw lG lH) (al (iw lE lI) al0))))))))))))))))))) rfl (.inl (eI _)) w
def gRsum:List Value→Option (List Prop × Value)
 | [A,B]=>some ([IsQ A∧IsQ B],qv (aT (q4 A) (q4 B)))
 | _=>none
theorem mI {X:Cx} (hX:X.Ok Tryz.prog):(X.pure 48 gRsum).Ok Tryz.prog:=by
 refine aA hX Tryz.func48 (by kernel_rfl) (by kernel_rfl) ?_
 intro args ps v ha hg hp
 unfold gRsum at hg
 split at hg
 ·rename_i A B
  simp only [qG,qH] at hg
  obtain ⟨rfl,rfl⟩:=hg
  obtain ⟨⟨hA,lA⟩,⟨hB,lB⟩⟩:=hp _ (List.mem_singleton.2 rfl)
  refine ⟨.inl (eI _),fun w => ?_⟩
  have h:=Bn (q4 A) (q4 B) lA lB w
  rw [←hA,←hB] at h
  exact h
 ·simp at hg
def GS (p:P4):P4:=⟨rfs 0 p.x,p.y,p.z,rfs 0 p.t⟩
theorem Ce (p:P4):sfun Tryz.prog H0 60 Tryz.f50 (ag Tryz.f50) [qv p]=some ([IW (nv 0) (nv p.x),IW (nv 0) (nv p.t)],qv ⟨rfs (aZ (nv 0)) (aZ (nv p.x)),p.y,p.z,rfs (aZ (nv 0)) (aZ (nv p.t))⟩):=by kernel_rfl
def gRmir:List Value→Option (List Prop × Value)
 | [A]=>some ([IsQ A],qv (GS (q4 A)))
 | _=>none
theorem tI {X:Cx} (hX:X.Ok Tryz.prog):(X.pure 50 gRmir).Ok Tryz.prog:=by
 refine aA hX Tryz.func50 (by kernel_rfl) (by kernel_rfl) ?_
 intro args ps v ha hg hp
 unfold gRmir at hg
 split at hg
 ·rename_i A
  simp only [qG,qH] at hg
  obtain ⟨rfl,rfl⟩:=hg
  obtain ⟨hA,lA⟩:=hp _ (List.mem_singleton.2 rfl)
  refine ⟨.inl (eI _),fun w => ?_⟩
  have run:=Ce (q4 A)
  rw [bm (n:=0) (by decide),bm lA.x,bm lA.t] at run
  have h:=aw uD mixed Tryz.func50 (by kernel_rfl) run (al (iw (by decide) lA.x) (al (iw (by decide) lA.t) al0)) rfl (.inl (eI _)) w
  rw [←hA] at h
  exact h
 ·simp at hg
def eiV (p:P4):Value:=WI (nv p.z)
def exN (p:P4):Nat:=rfm p.x (rfi p.z) % pp
def eyN (p:P4):Nat:=rfm p.y (rfi p.z) % pp
def exS (p:P4):Nat:=aZ (WM (nv p.x) (eiV p)) % pp
def eyS (p:P4):Nat:=aZ (WM (nv p.y) (eiV p)) % pp
def Gz (x:Nat):Int:=IntKind.u8.wrap (Int.tmod (lw x 0) 2)
def Ie (y x:Nat):Value := .agg ((bl y).take 31 ++ [Value.int .u8 (bits .or .u8 (by8 y 31) (IntKind.u8.wrap (Gz x*2 ^ 7)))]).toArray
theorem Fx (p:P4):sfun Tryz.prog H0 60 Tryz.f47 (ag Tryz.f47) [qv p]=some ([IsW (nv p.z),IW (nv p.x) (eiV p),IsW (WM (nv p.x) (eiV p)),IW (nv p.y) (eiV p),IsW (WM (nv p.y) (eiV p))],Ie (eyS p) (exS p)):=by kernel_rfl
theorem yz (x:Nat):Gz x=((x % 2:Nat):Int):=by
 have h:Int.tmod (lw x 0) 2=((x % 2:Nat):Int):=by
  unfold lw
  rw [Nat.pow_zero,Nat.div_one]
  show ((x % 18446744073709551616 % 2:Nat):Int)=_
  congr 1
  omega
 have hx:x % 2<2:=Nat.mod_lt _ (by decide)
 unfold Gz
 rw [h]
 rcases (by omega:x % 2=0∨x % 2=1) with e | e <;> rw [e] <;> rfl
theorem or_zero : ∀ y:Fin 256,bits .or .u8 ((y.val:Nat):Int) 0=((y.val:Nat):Int):=by decide +kernel
theorem DM (y x:Nat) (hy:y<TT):Ie y x=bv (y+x % 2*TT):=by
 have hx:x % 2<2:=Nat.mod_lt _ (by decide)
 unfold Ie
 rw [yz]
 rcases (by omega:x % 2=0∨x % 2=1) with e | e
 ·rw [e,Nat.zero_mul,Nat.add_zero]
  have hb:y/256 ^ 31 % 256<256:=Nat.mod_lt _ (by decide)
  have o:=or_zero ⟨y/256 ^ 31 % 256,hb⟩
  have e2:IntKind.u8.wrap (((0:Nat):Int)*2 ^ 7)=0:=by decide
  rw [e2]
  have o':bits .or .u8 (by8 y 31) 0=by8 y 31:=o
  rw [o',←nx]
  rfl
 ·rw [e,Nat.one_mul]
  have e2:IntKind.u8.wrap (((1:Nat):Int)*2 ^ 7)=128:=by decide
  rw [e2]
  exact qT y hy
def wqN (p:P4):Nat:=eyN p+exN p % 2*TT
def xP:List Value→Option (List Prop × Value)
 | [A]=>some ([IsQ A],bv (wqN (q4 A)))
 | _=>none
theorem uo {X:Cx} (hX:X.Ok Tryz.prog):(X.pure 47 xP).Ok Tryz.prog:=by
 refine aA hX Tryz.func47 (by kernel_rfl) (by kernel_rfl) ?_
 intro args ps v ha hg hp
 unfold xP at hg
 split at hg
 ·rename_i A
  simp only [qG,qH] at hg
  obtain ⟨rfl,rfl⟩:=hg
  obtain ⟨hA,lA⟩:=hp _ (List.mem_singleton.2 rfl)
  refine ⟨.inl (aC _),fun w => ?_⟩
  have run:=Fx (q4 A)
  have lz:=qx lA.z
  have e1:eiV (q4 A)=nv (rfi (q4 A).z):=vWI lA.z
  have e2:exS (q4 A)=exN (q4 A):=by unfold exS exN;rw [e1,vWM lA.x lz,bm (bO lA.x lz)]
  have e3:eyS (q4 A)=eyN (q4 A):=by unfold eyS eyN;rw [e1,vWM lA.y lz,bm (bO lA.y lz)]
  have ly:eyN (q4 A)<TT:=Nat.lt_trans (Nat.mod_lt _ (by decide)) iC
  rw [e2,e3,e1,vWM lA.x lz,vWM lA.y lz,DM _ _ ly] at run
  have h:=aw uD mixed Tryz.func47 (by kernel_rfl) run (al (iF lA.z) (al (iw lA.x lz) (al (iF (bO lA.x lz)) (al (iw lA.y lz) (al (iF (bO lA.y lz)) al0))))) rfl (.inl (aC _)) w
  rw [←hA] at h
  exact h
 ·simp at hg
def H1:Cx:=(((H0.pure 93 gRneu).pure 48 gRsum).pure 50 gRmir).pure 47 xP
theorem LR:H1.Ok Tryz.prog:=uo (tI (mI (sN uD)))
theorem Au (d x1 y1 z1 t1 x2 y2 z2 t2:KK):(⟨((y1+x1)*(y2+x2) - (y1 - x1)*(y2 - x2))*((z1+z1)*z2 - t1*t2*(d+d)),((z1+z1)*z2+t1*t2*(d+d))*((y1+x1)*(y2+x2)+(y1 - x1)*(y2 - x2)),((z1+z1)*z2 - t1*t2*(d+d))*((z1+z1)*z2+t1*t2*(d+d)),((y1+x1)*(y2+x2) - (y1 - x1)*(y2 - x2))*((y1+x1)*(y2+x2)+(y1 - x1)*(y2 - x2))⟩:E4 KK)=yS d ⟨x1,y1,z1,t1⟩ ⟨x2,y2,z2,t2⟩:=by
 unfold yS xi
 simp only [E4.mk.injEq]
 refine ⟨?_,?_,?_,?_⟩ <;> grind
theorem sV {a b:P4} {p q:PT} (la:a.ok) (lb:b.ok) (ha:Rep (cP a) p) (hb:Rep (cP b) q):Rep (cP (aT a b)) (zx p q):=by
 have h:=qM FK ha hb
 have l1:=qU la lb
 have l2:=kK la lb
 have l3:=qQ la lb
 have l4:=ku la lb
 have k1:cK (raN a b)=(cK a.y - cK a.x)*(cK b.y - cK b.x):=by unfold raN;rw [c9 (cj _ la.y) (cj _ lb.y),nt _ la.y,nt _ lb.y]
 have k2:cK (rbN a b)=(cK a.y+cK a.x)*(cK b.y+cK b.x):=by unfold rbN;rw [c9 (bB la.y la.x) (bB lb.y lb.x),jt la.y la.x,jt lb.y lb.x]
 have k3:cK (rcN a b)=(cK a.t*cK b.t)*(DK+DK):=by unfold rcN;rw [c9 (bO la.t lb.t) (bB cX cX),c9 la.t lb.t,jt cX cX];rfl
 have k4:cK (rdN a b)=(cK a.z+cK a.z)*cK b.z:=by unfold rdN;rw [c9 (bB la.z la.z) lb.z,jt la.z la.z]
 have e:cP (aT a b)=yS DK (cP a) (cP b):=by
  unfold cP aT
  simp only
  rw [c9 (cj _ l2) (cj _ l4),c9 (bB l4 l3) (bB l2 l1),c9 (cj _ l4) (bB l4 l3),c9 (cj _ l2) (bB l2 l1),nt _ l2,nt _ l4,jt l4 l3,jt l2 l1,k1,k2,k3,k4]
  exact Au DK (cK a.x) (cK a.y) (cK a.z) (cK a.t) (cK b.x) (cK b.y) (cK b.z) (cK b.t)
 rw [e];exact h
theorem Ih {a:P4} {p:PT} (la:a.ok) (h:Rep (cP a) p):wqN a=enc p:=by
 obtain ⟨h1,h2,h3,_⟩:=h
 have hz:cK a.z≠0:=h1
 have iv:=FK.inv _ hz
 have hx:cK a.x=p.x*cK a.z:=h2
 have hy:cK a.y=p.y*cK a.z:=h3
 have lz:=qx la.z
 have kx:cK (exN a)=p.x:=by
  unfold exN;rw [nw,c9 la.x lz,wh la.z,hx]
  have:=gL p.x (cK a.z) (lK (cK a.z))
  rw [this,iv,jZ]
 have ky:cK (eyN a)=p.y:=by
  unfold eyN;rw [nw,c9 la.y lz,wh la.z,hy]
  have:=gL p.y (cK a.z) (lK (cK a.z))
  rw [this,iv,jZ]
 unfold wqN enc
 rw [←nM (Nat.mod_lt _ (by decide)) kx,←nM (Nat.mod_lt _ (by decide)) ky]
 rfl
end Go.Proofs.YtajehiidpecknaaGreatDoor
