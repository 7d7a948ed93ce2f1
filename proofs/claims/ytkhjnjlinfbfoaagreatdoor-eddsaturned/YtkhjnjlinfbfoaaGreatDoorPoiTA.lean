/- The curve's reference: Neutral, Sum, Minus, Encode as contracts. -/
import Derived.Test.YtkhjnjlinfbfoaaGreatDoorPoiJ
set_option linter.unusedSimpArgs false
set_option linter.unusedVariables false
namespace Go.Proofs.YtkhjnjlinfbfoaaGreatDoor
open Go Go.RowKit
def q16 (p:P4):List Value:=nl p.x ++ (nl p.y ++ (nl p.z ++ nl p.t))
def qv (p:P4):Value := .agg (q16 p).toArray
def q4:Value→P4
 | .agg cs=>⟨wsum (cs.toList.take 4),wsum ((cs.toList.drop 4).take 4),wsum ((cs.toList.drop 8).take 4),wsum ((cs.toList.drop 12).take 4)⟩
 | _=>⟨0,0,0,0⟩
theorem q4_qv {p:P4} (h:p.ok):q4 (qv p)=p:=by
 obtain ⟨x,y,z,t⟩:=p
 obtain ⟨h1,h2,h3,h4⟩:=h
 simp only at h1 h2 h3 h4
 have e:q4 (qv ⟨x,y,z,t⟩)=⟨wsum (nl x),wsum (nl y),wsum (nl z),wsum (nl t)⟩:=rfl
 rw [e,wsum_nl h1,wsum_nl h2,wsum_nl h3,wsum_nl h4]
def IsQ (A:Value):Prop:=A=qv (q4 A)∧(q4 A).ok
theorem isQ_qv {p:P4} (h:p.ok):IsQ (qv p):=by unfold IsQ;rw [q4_qv h];exact ⟨rfl,h⟩
theorem flat_qv (p:P4):flat (qv p)=true:=rfl
def IW (A B:Value):Prop:=IsW A∧IsW B
theorem iw {a b:Nat} (ha:a<RN) (hb:b<RN):IW (nv a) (nv b):=⟨isW_nv ha,isW_nv hb⟩
theorem vWA {a b:Nat} (ha:a<RN) (hb:b<RN):WA (nv a) (nv b)=nv (rfa a b):=by unfold WA;rw [wnum_nv ha,wnum_nv hb]
theorem vWS {a b:Nat} (ha:a<RN) (hb:b<RN):WS (nv a) (nv b)=nv (rfs a b):=by unfold WS;rw [wnum_nv ha,wnum_nv hb]
theorem vWM {a b:Nat} (ha:a<RN) (hb:b<RN):WM (nv a) (nv b)=nv (rfm a b):=by unfold WM;rw [wnum_nv ha,wnum_nv hb]
theorem vWI {a:Nat} (ha:a<RN):WI (nv a)=nv (rfi a):=by unfold WI;rw [wnum_nv ha]
theorem dn_lt:DN'<RN:=by decide
theorem rneu_run:sfun Tryz.prog H0 60 Tryz.f59 (bodyOf Tryz.f59) []=some ([],qv neuN):=by kernel_rfl
def gRneu:List Value→Option (List Prop × Value)
 | []=>some ([],qv neuN)
 | _=>none
theorem gRneu_ok {X:Cx} (hX:X.Ok Tryz.prog):(X.pure 59 gRneu).Ok Tryz.prog:=by
 refine gBody_ok hX Tryz.func59 (by kernel_rfl) (by kernel_rfl) ?_
 intro args ps v ha hg hp
 unfold gRneu at hg
 split at hg
 ·simp only [qG,qH] at hg
  obtain ⟨rfl,rfl⟩:=hg
  exact ⟨.inl (flat_qv _),sfun_calls H0_ok mixed Tryz.func59 (by kernel_rfl) rneu_run (by simp) rfl (.inl (flat_qv _))⟩
 ·simp at hg
def saV (p q:P4):Value:=WM (WS (nv p.y) (nv p.x)) (WS (nv q.y) (nv q.x))
def sbV (p q:P4):Value:=WM (WA (nv p.y) (nv p.x)) (WA (nv q.y) (nv q.x))
def scV (p q:P4):Value:=WM (WM (nv p.t) (nv q.t)) (WA (nv DN') (nv DN'))
def sdV (p q:P4):Value:=WM (WA (nv p.z) (nv p.z)) (nv q.z)
def quoW (E G H I:Value):P4:=⟨rfm (wnum E) (wnum G),rfm (wnum H) (wnum I),rfm (wnum G) (wnum H),rfm (wnum E) (wnum I)⟩
theorem rsum_run (p q:P4):sfun Tryz.prog H0 60 Tryz.f21 (bodyOf Tryz.f21) [qv p,qv q]=some ([
  IW (nv p.y) (nv p.x),IW (nv q.y) (nv q.x),IW (WS (nv p.y) (nv p.x)) (WS (nv q.y) (nv q.x)),
  IW (nv p.y) (nv p.x),IW (nv q.y) (nv q.x),IW (WA (nv p.y) (nv p.x)) (WA (nv q.y) (nv q.x)),
  IW (nv p.t) (nv q.t),IW (nv DN') (nv DN'),IW (WM (nv p.t) (nv q.t)) (WA (nv DN') (nv DN')),
  IW (nv p.z) (nv p.z),IW (WA (nv p.z) (nv p.z)) (nv q.z),
  IW (sbV p q) (saV p q),IW (sdV p q) (scV p q),IW (sdV p q) (scV p q),IW (sbV p q) (saV p q),
  IW (WS (sbV p q) (saV p q)) (WS (sdV p q) (scV p q)),IW (WA (sdV p q) (scV p q)) (WA (sbV p q) (saV p q)),IW (WS (sdV p q) (scV p q)) (WA (sdV p q) (scV p q)),IW (WS (sbV p q) (saV p q)) (WA (sbV p q) (saV p q))],
  qv (quoW (WS (sbV p q) (saV p q)) (WS (sdV p q) (scV p q)) (WA (sdV p q) (scV p q)) (WA (sbV p q) (saV p q)))):=by kernel_rfl
def raN (p q:P4):Nat:=rfm (rfs p.y p.x) (rfs q.y q.x)
def rbN (p q:P4):Nat:=rfm (rfa p.y p.x) (rfa q.y q.x)
def rcN (p q:P4):Nat:=rfm (rfm p.t q.t) (rfa DN' DN')
def rdN (p q:P4):Nat:=rfm (rfa p.z p.z) q.z
def rsumN (p q:P4):P4 :=
 ⟨rfm (rfs (rbN p q) (raN p q)) (rfs (rdN p q) (rcN p q)),rfm (rfa (rdN p q) (rcN p q)) (rfa (rbN p q) (raN p q)),rfm (rfs (rdN p q) (rcN p q)) (rfa (rdN p q) (rcN p q)),rfm (rfs (rbN p q) (raN p q)) (rfa (rbN p q) (raN p q))⟩
theorem raN_lt {p q:P4} (hp:p.ok) (hq:q.ok):raN p q<RN:=rfm_lt (rfs_lt _ hp.y) (rfs_lt _ hq.y)
theorem rbN_lt {p q:P4} (hp:p.ok) (hq:q.ok):rbN p q<RN:=rfm_lt (rfa_lt hp.y hp.x) (rfa_lt hq.y hq.x)
theorem rcN_lt {p q:P4} (hp:p.ok) (hq:q.ok):rcN p q<RN:=rfm_lt (rfm_lt hp.t hq.t) (rfa_lt dn_lt dn_lt)
theorem rdN_lt {p q:P4} (hp:p.ok) (hq:q.ok):rdN p q<RN:=rfm_lt (rfa_lt hp.z hp.z) hq.z
theorem rsumN_ok {p q:P4} (hp:p.ok) (hq:q.ok):(rsumN p q).ok :=
 ⟨rfm_lt (rfs_lt _ (rbN_lt hp hq)) (rfs_lt _ (rdN_lt hp hq)),rfm_lt (rfa_lt (rdN_lt hp hq) (rcN_lt hp hq)) (rfa_lt (rbN_lt hp hq) (raN_lt hp hq)),rfm_lt (rfs_lt _ (rdN_lt hp hq)) (rfa_lt (rdN_lt hp hq) (rcN_lt hp hq)),rfm_lt (rfs_lt _ (rbN_lt hp hq)) (rfa_lt (rbN_lt hp hq) (raN_lt hp hq))⟩
theorem rsum_any (p q:P4) (hp:p.ok) (hq:q.ok) (w:World):Calls Tryz.prog 21 #[qv p,qv q] w fun e w'=>e = .returned (qv (rsumN p q))∧Below w.heap.size w w':=by
 have run:=rsum_run p q
 have la:=raN_lt hp hq
 have lb:=rbN_lt hp hq
 have lc:=rcN_lt hp hq
 have ld:=rdN_lt hp hq
 have ea:saV p q=nv (raN p q):=by unfold saV;rw [vWS hp.y hp.x,vWS hq.y hq.x,vWM (rfs_lt _ hp.y) (rfs_lt _ hq.y)];rfl
 have eb:sbV p q=nv (rbN p q):=by unfold sbV;rw [vWA hp.y hp.x,vWA hq.y hq.x,vWM (rfa_lt hp.y hp.x) (rfa_lt hq.y hq.x)];rfl
 have ec:scV p q=nv (rcN p q):=by unfold scV;rw [vWM hp.t hq.t,vWA dn_lt dn_lt,vWM (rfm_lt hp.t hq.t) (rfa_lt dn_lt dn_lt)];rfl
 have ed:sdV p q=nv (rdN p q):=by unfold sdV;rw [vWA hp.z hp.z,vWM (rfa_lt hp.z hp.z) hq.z];rfl
 rw [ea,eb,ec,ed,vWS lb la,vWS ld lc,vWA ld lc,vWA lb la,vWS hp.y hp.x,vWS hq.y hq.x,vWA hp.y hp.x,vWA hq.y hq.x,vWM hp.t hq.t,vWA dn_lt dn_lt,vWA hp.z hp.z] at run
 have lE:rfs (rbN p q) (raN p q)<RN:=rfs_lt _ lb
 have lG:rfs (rdN p q) (rcN p q)<RN:=rfs_lt _ ld
 have lH:rfa (rdN p q) (rcN p q)<RN:=rfa_lt ld lc
 have lI:rfa (rbN p q) (raN p q)<RN:=rfa_lt lb la
 have eq:quoW (nv (rfs (rbN p q) (raN p q))) (nv (rfs (rdN p q) (rcN p q))) (nv (rfa (rdN p q) (rcN p q))) (nv (rfa (rbN p q) (raN p q)))=rsumN p q:=by
  unfold quoW;rw [wnum_nv lE,wnum_nv lG,wnum_nv lH,wnum_nv lI];rfl
 rw [eq] at run
 exact sfun_calls H0_ok mixed Tryz.func21 (by kernel_rfl) run (al (iw hp.y hp.x) (al (iw hq.y hq.x) (al (iw (rfs_lt _ hp.y) (rfs_lt _ hq.y)) (al (iw hp.y hp.x) (al (iw hq.y hq.x) (al (iw (rfa_lt hp.y hp.x) (rfa_lt hq.y hq.x)) (al (iw hp.t hq.t) (al (iw dn_lt dn_lt) (al (iw (rfm_lt hp.t hq.t) (rfa_lt dn_lt dn_lt)) (al (iw hp.z hp.z) (al (iw (rfa_lt hp.z hp.z) hq.z) (al (iw lb la) (al (iw ld lc) (al (iw ld lc) (al (iw lb la) (al (iw lE lG) (al (iw lH lI) (al (iw lG lH) (al (iw lE lI) al0))))))))))))))))))) rfl (.inl (flat_qv _)) w
def gRsum:List Value→Option (List Prop × Value)
 | [A,B]=>some ([IsQ A∧IsQ B],qv (rsumN (q4 A) (q4 B)))
 | _=>none
theorem gRsum_ok {X:Cx} (hX:X.Ok Tryz.prog):(X.pure 21 gRsum).Ok Tryz.prog:=by
 refine gBody_ok hX Tryz.func21 (by kernel_rfl) (by kernel_rfl) ?_
 intro args ps v ha hg hp
 unfold gRsum at hg
 split at hg
 ·rename_i A B
  simp only [qG,qH] at hg
  obtain ⟨rfl,rfl⟩:=hg
  obtain ⟨⟨hA,lA⟩,⟨hB,lB⟩⟩:=hp _ (List.mem_singleton.2 rfl)
  refine ⟨.inl (flat_qv _),fun w => ?_⟩
  have h:=rsum_any (q4 A) (q4 B) lA lB w
  rw [←hA,←hB] at h
  exact h
 ·simp at hg
def rmirN (p:P4):P4:=⟨rfs 0 p.x,p.y,p.z,rfs 0 p.t⟩
theorem rmirN_ok {p:P4} (h:p.ok):(rmirN p).ok:=⟨rfs_lt _ (by decide),h.y,h.z,rfs_lt _ (by decide)⟩
theorem rmir_run (p:P4):sfun Tryz.prog H0 60 Tryz.f23 (bodyOf Tryz.f23) [qv p]=some ([IW (nv 0) (nv p.x),IW (nv 0) (nv p.t)],qv ⟨rfs (wnum (nv 0)) (wnum (nv p.x)),p.y,p.z,rfs (wnum (nv 0)) (wnum (nv p.t))⟩):=by kernel_rfl
def gRmir:List Value→Option (List Prop × Value)
 | [A]=>some ([IsQ A],qv (rmirN (q4 A)))
 | _=>none
theorem gRmir_ok {X:Cx} (hX:X.Ok Tryz.prog):(X.pure 23 gRmir).Ok Tryz.prog:=by
 refine gBody_ok hX Tryz.func23 (by kernel_rfl) (by kernel_rfl) ?_
 intro args ps v ha hg hp
 unfold gRmir at hg
 split at hg
 ·rename_i A
  simp only [qG,qH] at hg
  obtain ⟨rfl,rfl⟩:=hg
  obtain ⟨hA,lA⟩:=hp _ (List.mem_singleton.2 rfl)
  refine ⟨.inl (flat_qv _),fun w => ?_⟩
  have run:=rmir_run (q4 A)
  rw [wnum_nv (n:=0) (by decide),wnum_nv lA.x,wnum_nv lA.t] at run
  have h:=sfun_calls H0_ok mixed Tryz.func23 (by kernel_rfl) run (al (iw (by decide) lA.x) (al (iw (by decide) lA.t) al0)) rfl (.inl (flat_qv _)) w
  rw [←hA] at h
  exact h
 ·simp at hg
def eiV (p:P4):Value:=WI (nv p.z)
def exN (p:P4):Nat:=rfm p.x (rfi p.z) % pp
def eyN (p:P4):Nat:=rfm p.y (rfi p.z) % pp
def exS (p:P4):Nat:=wnum (WM (nv p.x) (eiV p)) % pp
def eyS (p:P4):Nat:=wnum (WM (nv p.y) (eiV p)) % pp
def parQ (x:Nat):Int:=IntKind.u8.wrap (Int.tmod (lw x 0) 2)
def topQ (y x:Nat):Value := .agg ((bl y).take 31 ++ [Value.int .u8 (bits .or .u8 (by8 y 31) (IntKind.u8.wrap (parQ x*2 ^ 7)))]).toArray
theorem enc_run (p:P4):sfun Tryz.prog H0 60 Tryz.f20 (bodyOf Tryz.f20) [qv p]=some ([IsW (nv p.z),IW (nv p.x) (eiV p),IsW (WM (nv p.x) (eiV p)),IW (nv p.y) (eiV p),IsW (WM (nv p.y) (eiV p))],topQ (eyS p) (exS p)):=by kernel_rfl
theorem parQ_eq (x:Nat):parQ x=((x % 2:Nat):Int):=by
 have h:Int.tmod (lw x 0) 2=((x % 2:Nat):Int):=by
  unfold lw
  rw [Nat.pow_zero,Nat.div_one]
  show ((x % 18446744073709551616 % 2:Nat):Int)=_
  congr 1
  omega
 have hx:x % 2<2:=Nat.mod_lt _ (by decide)
 unfold parQ
 rw [h]
 rcases (by omega:x % 2=0∨x % 2=1) with e | e <;> rw [e] <;> rfl
theorem or_zero : ∀ y:Fin 256,bits .or .u8 ((y.val:Nat):Int) 0=((y.val:Nat):Int):=by decide +kernel
theorem topQ_eq (y x:Nat) (hy:y<TT):topQ y x=bv (y+x % 2*TT):=by
 have hx:x % 2<2:=Nat.mod_lt _ (by decide)
 unfold topQ
 rw [parQ_eq]
 rcases (by omega:x % 2=0∨x % 2=1) with e | e
 ·rw [e,Nat.zero_mul,Nat.add_zero]
  have hb:y/256 ^ 31 % 256<256:=Nat.mod_lt _ (by decide)
  have o:=or_zero ⟨y/256 ^ 31 % 256,hb⟩
  have e2:IntKind.u8.wrap (((0:Nat):Int)*2 ^ 7)=0:=by decide
  rw [e2]
  have o':bits .or .u8 (by8 y 31) 0=by8 y 31:=o
  rw [o',←bl_split]
  rfl
 ·rw [e,Nat.one_mul]
  have e2:IntKind.u8.wrap (((1:Nat):Int)*2 ^ 7)=128:=by decide
  rw [e2]
  exact topV_eq y hy
def wqN (p:P4):Nat:=eyN p+exN p % 2*TT
def gRenc:List Value→Option (List Prop × Value)
 | [A]=>some ([IsQ A],bv (wqN (q4 A)))
 | _=>none
theorem gRenc_ok {X:Cx} (hX:X.Ok Tryz.prog):(X.pure 20 gRenc).Ok Tryz.prog:=by
 refine gBody_ok hX Tryz.func20 (by kernel_rfl) (by kernel_rfl) ?_
 intro args ps v ha hg hp
 unfold gRenc at hg
 split at hg
 ·rename_i A
  simp only [qG,qH] at hg
  obtain ⟨rfl,rfl⟩:=hg
  obtain ⟨hA,lA⟩:=hp _ (List.mem_singleton.2 rfl)
  refine ⟨.inl (flat_bv _),fun w => ?_⟩
  have run:=enc_run (q4 A)
  have lz:=rfi_lt lA.z
  have e1:eiV (q4 A)=nv (rfi (q4 A).z):=vWI lA.z
  have e2:exS (q4 A)=exN (q4 A):=by unfold exS exN;rw [e1,vWM lA.x lz,wnum_nv (rfm_lt lA.x lz)]
  have e3:eyS (q4 A)=eyN (q4 A):=by unfold eyS eyN;rw [e1,vWM lA.y lz,wnum_nv (rfm_lt lA.y lz)]
  have ly:eyN (q4 A)<TT:=Nat.lt_trans (Nat.mod_lt _ (by decide)) pp_lt_TT
  rw [e2,e3,e1,vWM lA.x lz,vWM lA.y lz,topQ_eq _ _ ly] at run
  have h:=sfun_calls H0_ok mixed Tryz.func20 (by kernel_rfl) run (al (isW_nv lA.z) (al (iw lA.x lz) (al (isW_nv (rfm_lt lA.x lz)) (al (iw lA.y lz) (al (isW_nv (rfm_lt lA.y lz)) al0))))) rfl (.inl (flat_bv _)) w
  rw [←hA] at h
  exact h
 ·simp at hg
def H1:Cx:=(((H0.pure 59 gRneu).pure 21 gRsum).pure 23 gRmir).pure 20 gRenc
theorem H1_ok:H1.Ok Tryz.prog:=gRenc_ok (gRmir_ok (gRsum_ok (gRneu_ok H0_ok)))
theorem sum_same (d x1 y1 z1 t1 x2 y2 z2 t2:KK):(⟨((y1+x1)*(y2+x2) - (y1 - x1)*(y2 - x2))*((z1+z1)*z2 - t1*t2*(d+d)),((z1+z1)*z2+t1*t2*(d+d))*((y1+x1)*(y2+x2)+(y1 - x1)*(y2 - x2)),((z1+z1)*z2 - t1*t2*(d+d))*((z1+z1)*z2+t1*t2*(d+d)),((y1+x1)*(y2+x2) - (y1 - x1)*(y2 - x2))*((y1+x1)*(y2+x2)+(y1 - x1)*(y2 - x2))⟩:E4 KK)=sumE d ⟨x1,y1,z1,t1⟩ ⟨x2,y2,z2,t2⟩:=by
 unfold sumE quoE
 simp only [E4.mk.injEq]
 refine ⟨?_,?_,?_,?_⟩ <;> grind
theorem rep_rsum {a b:P4} {p q:PT} (la:a.ok) (lb:b.ok) (ha:Rep (cP a) p) (hb:Rep (cP b) q):Rep (cP (rsumN a b)) (padd p q):=by
 have h:=rep_sum FK ha hb
 have l1:=raN_lt la lb
 have l2:=rbN_lt la lb
 have l3:=rcN_lt la lb
 have l4:=rdN_lt la lb
 have k1:cK (raN a b)=(cK a.y - cK a.x)*(cK b.y - cK b.x):=by unfold raN;rw [cK_rfm (rfs_lt _ la.y) (rfs_lt _ lb.y),cK_rfs _ la.y,cK_rfs _ lb.y]
 have k2:cK (rbN a b)=(cK a.y+cK a.x)*(cK b.y+cK b.x):=by unfold rbN;rw [cK_rfm (rfa_lt la.y la.x) (rfa_lt lb.y lb.x),cK_rfa la.y la.x,cK_rfa lb.y lb.x]
 have k3:cK (rcN a b)=(cK a.t*cK b.t)*(DK+DK):=by unfold rcN;rw [cK_rfm (rfm_lt la.t lb.t) (rfa_lt dn_lt dn_lt),cK_rfm la.t lb.t,cK_rfa dn_lt dn_lt];rfl
 have k4:cK (rdN a b)=(cK a.z+cK a.z)*cK b.z:=by unfold rdN;rw [cK_rfm (rfa_lt la.z la.z) lb.z,cK_rfa la.z la.z]
 have e:cP (rsumN a b)=sumE DK (cP a) (cP b):=by
  unfold cP rsumN
  simp only
  rw [cK_rfm (rfs_lt _ l2) (rfs_lt _ l4),cK_rfm (rfa_lt l4 l3) (rfa_lt l2 l1),cK_rfm (rfs_lt _ l4) (rfa_lt l4 l3),cK_rfm (rfs_lt _ l2) (rfa_lt l2 l1),cK_rfs _ l2,cK_rfs _ l4,cK_rfa l4 l3,cK_rfa l2 l1,k1,k2,k3,k4]
  exact sum_same DK (cK a.x) (cK a.y) (cK a.z) (cK a.t) (cK b.x) (cK b.y) (cK b.z) (cK b.t)
 rw [e];exact h
theorem rep_rmir {a:P4} {p:PT} (ha:Rep (cP a) p):Rep (cP (rmirN a)) p.neg:=by
 have e:cP (rmirN a)=mirE (cP a):=by
  unfold rmirN mirE cP
  simp only
  rw [cK_rfs _ (show 0<RN by decide),cK_rfs _ (show 0<RN by decide),cK_zero]
 rw [e];exact rep_mir ha
theorem wq_enc {a:P4} {p:PT} (la:a.ok) (h:Rep (cP a) p):wqN a=enc p:=by
 obtain ⟨h1,h2,h3,_⟩:=h
 have hz:cK a.z≠0:=h1
 have iv:=FK.inv _ hz
 have hx:cK a.x=p.x*cK a.z:=h2
 have hy:cK a.y=p.y*cK a.z:=h3
 have lz:=rfi_lt la.z
 have kx:cK (exN a)=p.x:=by
  unfold exN;rw [cK_mod,cK_rfm la.x lz,cK_rfi la.z,hx]
  have:=kmul_assoc p.x (cK a.z) (invK (cK a.z))
  rw [this,iv,kmul_one]
 have ky:cK (eyN a)=p.y:=by
  unfold eyN;rw [cK_mod,cK_rfm la.y lz,cK_rfi la.z,hy]
  have:=kmul_assoc p.y (cK a.z) (invK (cK a.z))
  rw [this,iv,kmul_one]
 unfold wqN enc
 rw [←val_of (Nat.mod_lt _ (by decide)) kx,←val_of (Nat.mod_lt _ (by decide)) ky]
 rfl
end Go.Proofs.YtkhjnjlinfbfoaaGreatDoor
/- The curve's reference: Often as a contract. -/
namespace Go.Proofs.YtkhjnjlinfbfoaaGreatDoor
open Go Go.RowKit
def ohd (t22 t50 n:Nat) (p out:P4) (i:Int):Act × Mem :=
  (⟨#[poison,poison,.pointer (some ⟨0,0,none⟩),.pointer (some ⟨1,0,none⟩),.pointer (some ⟨2,0,none⟩),.pointer (some ⟨3,0,none⟩),.int .i64 i] ++ Array.replicate 22 poison,[]⟩,
   [some ⟨bl n,t22⟩,some ⟨q16 p,t50⟩,some ⟨q16 ⟨0,0,0,0⟩,t50⟩,some ⟨q16 out,t50⟩])
def oF:List Nat:=[0,1] ++ (List.range 22).map (· + 7)
def oK (s:Act × Mem):Act × Mem:=(forgetL s.1 oF,s.2)
def oLB (fn:Func):Code:=cL (cL (cR (cL (cR (cR (bodyOf fn))))))
def oT (fn:Func):Code:=cR (cR (cR (bodyOf fn)))
def gRS (S:P4→P4→P4):List Value→Option (List Prop × Value)
  | [A,B]=>some ([IsQ A∧IsQ B],qv (S (q4 A) (q4 B)))
  | _=>none
def HS (S:P4→P4→P4):Cx:=(Cx.none.pure 59 gRneu).pure 21 (gRS S)
theorem gRS_eq:gRS rsumN=gRsum:=rfl
theorem HS_ok:(HS rsumN).Ok Tryz.prog:=by
  unfold HS
  rw [gRS_eq]
  exact gRsum_ok (gRneu_ok Cx.none_ok)
def HtX (S:P4→P4→P4):Cx:=(HS S).terms
theorem HtX_ok:(HtX rsumN).Ok Tryz.prog:=Cx.terms_ok HS_ok
def os1 (S:P4→P4→P4) (P:Program) (fn:Func) (n:Nat) (p:P4):Act × Mem:=runS P (HS S) 20 (cL (bodyOf fn)) (sinit fn [bv n,qv p],[])
def os2 (S:P4→P4→P4) (P:Program) (fn:Func) (n:Nat) (p:P4):Act × Mem:=runS P (HS S) 20 (cL (cR (bodyOf fn))) (os1 S P fn n p)
def os3 (S:P4→P4→P4) (P:Program) (fn:Func) (n:Nat) (p:P4):Act × Mem:=runS P (HS S) 20 (cL (cL (cR (cR (bodyOf fn))))) (os2 S P fn n p)
theorem o_1 (S:P4→P4→P4) (n:Nat) (p:P4):fstS (sexec Tryz.prog (HS S) 20 (cL (bodyOf Tryz.f22)) [] (sinit Tryz.f22 [bv n,qv p],[]))=some ([],.normal):=by kernel_rfl
theorem o_2 (S:P4→P4→P4) (n:Nat) (p:P4):fstS (sexec Tryz.prog (HS S) 20 (cL (cR (bodyOf Tryz.f22))) [] (os1 S Tryz.prog Tryz.f22 n p))=some ([],.normal):=by kernel_rfl
theorem o_3 (S:P4→P4→P4) (n:Nat) (p:P4):fstS (sexec Tryz.prog (HS S) 20 (cL (cL (cR (cR (bodyOf Tryz.f22))))) [] (os2 S Tryz.prog Tryz.f22 n p))=some ([],.normal):=by kernel_rfl
theorem o_h (S:P4→P4→P4) (n:Nat) (p:P4):oK (os3 S Tryz.prog Tryz.f22 n p)=ohd 22 42 n p neuN 255:=by kernel_rfl
def oQ (i:Int):Int:=IntKind.i64.wrap (Int.tdiv i 8)
def oU (i:Int):Int:=IntKind.u64.wrap (Int.tmod i 8)
def oY (n:Nat) (i:Int):Int:=intL (bl n) (0+(oQ i).toNat*1)
def oB (n:Nat) (i:Int):Int:=bits .and .u8 (Int.fdiv (oY n i) (2 ^ min (oU i).toNat 8)) 1
def oO (n:Nat) (i:Int):List Prop:=[0≤oQ i∧oQ i<((32:Nat):Int),(bl n)[0+(oQ i).toNat*1]? = some (.int .u8 (oY n i)),0≤oU i]
def o2 (S:P4→P4→P4) (out:P4):P4:=S (q4 (qv out)) (q4 (qv out))
def oB1 (fn:Func):Code:=cL (cL (cR (oLB fn)))
def oR4 (fn:Func):Code:=cR (cR (oLB fn))
theorem o_go (S:P4→P4→P4) (n:Nat) (p out:P4) (i:Int):proj oK (sexec Tryz.prog ((HtX S).tell [(9,true)]) 40 (cL (oLB Tryz.f22)) [] (ohd 22 42 n p out i))=some ([decide (i≥0)=true],ohd 22 42 n p out i):=by kernel_rfl
theorem o_5 (S:P4→P4→P4) (n:Nat) (p out:P4) (i:Int):proj oK (sexec Tryz.prog (HtX S) 40 (cL (oB1 Tryz.f22)) [] (ohd 22 42 n p out i))=some ([IsQ (qv out)∧IsQ (qv out)],ohd 22 42 n p (o2 S out) i):=by kernel_rfl
theorem o_t (S:P4→P4→P4) (n:Nat) (p out:P4) (i:Int):proj oK (sexec Tryz.prog ((HtX S).tell [(24,true)]) 40 (cR (oB1 Tryz.f22)) [] (ohd 22 42 n p out i))=some (oO n i ++ [(oB n i == 1)=true,IsQ (qv out)∧IsQ (qv p)],ohd 22 42 n p (S (q4 (qv out)) (q4 (qv p))) i):=by kernel_rfl
theorem o_f (S:P4→P4→P4) (n:Nat) (p out:P4) (i:Int):proj oK (sexec Tryz.prog ((HtX S).tell [(24,false)]) 40 (cR (oB1 Tryz.f22)) [] (ohd 22 42 n p out i))=some (oO n i ++ [(oB n i == 1)=false],ohd 22 42 n p out i):=by kernel_rfl
theorem o_4 (S:P4→P4→P4) (n:Nat) (p out:P4) (i:Int):proj oK (sexec Tryz.prog (HS S) 40 (oR4 Tryz.f22) [] (ohd 22 42 n p out i))=some ([],ohd 22 42 n p out (IntKind.i64.wrap (i - 1))):=by kernel_rfl
def oX (S:P4→P4→P4) (P:Program) (fn:Func) (t22 t50 n:Nat) (p out:P4) (i:Int):Act × Mem:=runS P ((HtX S).tell [(9,false)]) 40 (cL (oLB fn)) (ohd t22 t50 n p out i)
theorem o_x (S:P4→P4→P4) (n:Nat) (p out:P4) (i:Int):fstS (sexec Tryz.prog ((HtX S).tell [(9,false)]) 40 (cL (oLB Tryz.f22)) [] (ohd 22 42 n p out i))=some ([decide (i≥0)=false],.exit 0):=by kernel_rfl
theorem o_z (S:P4→P4→P4) (n:Nat) (p out:P4) (i:Int):fstS (sexec Tryz.prog (HS S) 40 (oT Tryz.f22) [] (oX S Tryz.prog Tryz.f22 22 42 n p out i))=some ([],.ret):=by kernel_rfl
theorem o_r (S:P4→P4→P4) (n:Nat) (p out:P4) (i:Int):sres Tryz.prog Tryz.f22 (runS Tryz.prog (HS S) 40 (oT Tryz.f22) (oX S Tryz.prog Tryz.f22 22 42 n p out i))=some (qv out):=by kernel_rfl
theorem o_d (S:P4→P4→P4) (n:Nat) (p out:P4) (i:Int):(runS Tryz.prog (HS S) 40 (oT Tryz.f22) (oX S Tryz.prog Tryz.f22 22 42 n p out i)).1.defers = []:=by kernel_rfl
theorem o_end (n:Nat) (p T:P4) (i:Int):SW Tryz.prog [] (oT Tryz.f22) (oX rsumN Tryz.prog Tryz.f22 22 42 n p T i) (fun e s=>(e = .normal∨e = .ret)∧s.1.defers = [] ∧ ∃ v x,sres Tryz.prog Tryz.f22 s=some v∧(flat v=true∨v=undef)∧s.2 = [] ++ x∧v=qv T):=by
  refine SW.run (X:=HS rsumN) HS_ok mixed 40 (of_fstS (o_z rsumN n p T i)) (by simp) ?_
  exact ⟨.inr rfl,o_d rsumN n p T i,qv T,_,o_r rsumN n p T i,.inl (flat_qv T),(List.nil_append _).symm,rfl⟩
def oR (p:P4) (n:Nat):Nat→P4
  | 0=>neuN
  | j+1=>if n/2 ^ (255 - j) % 2=1 then rsumN (rsumN (oR p n j) (oR p n j)) p else rsumN (oR p n j) (oR p n j)
theorem oR_ok {p:P4} (hp:p.ok) (n:Nat) : ∀ j,(oR p n j).ok
  | 0=>neuN_ok
  | j+1=>by
    have ih:=oR_ok hp n j
    unfold oR
    split
    · exact rsumN_ok (rsumN_ok ih ih) hp
    · exact rsumN_ok ih ih
def oftN (n:Nat) (p:P4):P4:=oR p n 256
theorem oQ_eq (j:Nat) (hj:j<256):oQ (j:Int)=((j/8:Nat):Int):=by
  unfold oQ
  rw [Int.tdiv_eq_ediv_of_nonneg (by omega),wrap64' _ (by omega)]
  omega
theorem oU_eq (j:Nat) (hj:j<256):oU (j:Int)=((j % 8:Nat):Int):=by
  unfold oU
  rw [Int.tmod_eq_emod_of_nonneg (by omega)]
  have:(j:Int) % 8=((j % 8:Nat):Int):=by omega
  rw [this]
  have h8:j % 8<8:=Nat.mod_lt _ (by decide)
  have key : ∀ k:Fin 8,IntKind.u64.wrap ((k.val:Nat):Int)=((k.val:Nat):Int):=by decide +kernel
  exact key ⟨j % 8,h8⟩
theorem oY_eq (n j:Nat) (hj:j<256):(bl n)[0+(oQ (j:Int)).toNat*1]? = some (.int .u8 (oY n (j:Int)))∧oY n (j:Int)=((n/256 ^ (j/8) % 256:Nat):Int):=by
  have e:0+(oQ (j:Int)).toNat*1=j/8:=by rw [oQ_eq j hj,Int.toNat_natCast];omega
  have hb:(bl n)[j/8]? = some (.int .u8 (by8 n (j/8))):=by simp [bl,show j/8<32 by omega]
  have ey:oY n (j:Int)=by8 n (j/8):=by unfold oY;rw [e];unfold intL;rw [hb]
  exact ⟨by rw [e,ey];exact hb,ey⟩
theorem oO_ok (n j:Nat) (hj:j<256) : ∀ p ∈ oO n (j:Int),p:=by
  unfold oO
  refine al ?_ (al (oY_eq n j hj).1 (al ?_ al0))
  · rw [oQ_eq j hj];omega
  · rw [oU_eq j hj];omega
theorem byte_bit : ∀ (y:Fin 256) (k:Fin 8),bits .and .u8 (Int.fdiv ((y.val:Nat):Int) (2 ^ min ((k.val:Nat):Int).toNat 8)) 1=((y.val/2 ^ k.val % 2:Nat):Int):=by decide +kernel
theorem oB_eq (n j:Nat) (hj:j<256):oB n (j:Int)=((n/2 ^ j % 2:Nat):Int):=by
  unfold oB
  rw [(oY_eq n j hj).2,oU_eq j hj]
  have h:=byte_bit ⟨n/256 ^ (j/8) % 256,Nat.mod_lt _ (by decide)⟩ ⟨j % 8,Nat.mod_lt _ (by decide)⟩
  simp only at h
  rw [h]
  congr 1
  have e1:(256:Nat) ^ (j/8)=2 ^ (8*(j/8)):=by rw [Nat.pow_mul]
  have e2:(256:Nat)=2 ^ (j % 8)*(2*2 ^ (7 - j % 8)):=by
    rw [←Nat.pow_succ',←Nat.pow_add,show j % 8+(7 - j % 8+1)=8 by omega]
  have e3:n/2 ^ j=n/2 ^ (8*(j/8))/2 ^ (j % 8):=by
    rw [Nat.div_div_eq_div_mul,←Nat.pow_add,show 8*(j/8)+j % 8=j by omega]
  rw [e1,e3]
  generalize n/2 ^ (8*(j/8))=y
  conv=>lhs;rw [e2]
  rw [Nat.mod_mul_right_div_self,Nat.mod_mul_right_mod]
set_option maxRecDepth 10000 in
theorem often_any (n:Nat) (hn:n<RN) {p:P4} (lp:p.ok) (w:World) :
    Calls Tryz.prog 22 #[bv n,qv p] w fun e w'=>e = .returned (qv (oftN n p))∧Below w.heap.size w w':=by
  have hb:Tryz.f22.body=some (bodyOf Tryz.f22):=by kernel_rfl
  refine (calls_of_SW (gl:=[]) (m:=[]) (r:=fun _=>none) (R:=fun u=>u=qv (oftN n p)) (args:=[bv n,qv p]) (args':=[bv n,qv p]) Tryz.func22 hb ?_ (Rel.nil w) (by simp) (trL_flat (by simp [flat_bv,flat_qv]))).mono ?_
  · refine SW.seqC (by kernel_rfl) ?_
    refine SW.run (X:=HS rsumN) HS_ok mixed 20 (of_fstS (o_1 rsumN n p)) (by simp) ?_
    show SW Tryz.prog [] (cR (bodyOf Tryz.f22)) (os1 rsumN Tryz.prog Tryz.f22 n p) _
    refine SW.seqC (by kernel_rfl) ?_
    refine SW.run (X:=HS rsumN) HS_ok mixed 20 (of_fstS (o_2 rsumN n p)) (by simp) ?_
    show SW Tryz.prog [] (cR (cR (bodyOf Tryz.f22))) (os2 rsumN Tryz.prog Tryz.f22 n p) _
    refine SW.seqC (by kernel_rfl) ?_
    refine SW.seqC (by kernel_rfl) ?_
    refine SW.run (X:=HS rsumN) HS_ok mixed 20 (of_fstS (o_3 rsumN n p)) (by simp) ?_
    show SW Tryz.prog [] (cR (cL (cR (cR (bodyOf Tryz.f22))))) (os3 rsumN Tryz.prog Tryz.f22 n p) _
    refine SW.blockC (by kernel_rfl) ?_
    refine SW.loopC (by kernel_rfl) (fun k s=>k≤256∧oK s=ohd 22 42 n p (oR p n (256 - k)) ((k:Int) - 1)) 256 ⟨Nat.le_refl _,?_⟩ ?_
    · have e2:oR p n (256 - 256)=neuN:=rfl
      have e3:((256:Nat):Int) - 1=255:=rfl
      rw [o_h rsumN,e2,e3]
    · rintro k s ⟨hk,hs⟩
      refine SW.forget (a:=s.1) (m:=s.2) oF ?_
      show SW Tryz.prog [] (oLB Tryz.f22) (oK s) _
      rw [hs]
      refine SW.seqC (by kernel_rfl) ?_
      cases k with
      | zero =>
        refine SW.run (X:=(HtX rsumN).tell [(9,false)]) (Cx.tell_ok HtX_ok _) mixed 40 (of_fstS (o_x rsumN n p _ _)) (by simp) ?_
        show SW Tryz.prog [] (oT Tryz.f22) (oX rsumN Tryz.prog Tryz.f22 22 42 n p _ _) _
        exact o_end n p (oR p n (256 - 0)) _
      | succ j =>
        have hj:j<256:=by omega
        have ei:((j+1:Nat):Int) - 1=(j:Int):=by omega
        rw [ei]
        have lt:=oR_ok lp n (256 - (j+1))
        have hge:decide ((j:Int)≥0)=true:=by simp
        have hO:=oO_ok n j hj
        have hB:=oB_eq n j hj
        have e:256 - j=(256 - (j+1))+1:=by omega
        obtain ⟨s1,h1,k1⟩:=proj_some (o_go rsumN n p (oR p n (256 - (j+1))) (j:Int))
        refine SW.run (X:=(HtX rsumN).tell [(9,true)]) (Cx.tell_ok HtX_ok _) mixed 40 h1 (al hge al0) ?_
        show SW Tryz.prog [] (cR (oLB Tryz.f22)) s1 _
        refine SW.forget (a:=s1.1) (m:=s1.2) oF ?_
        show SW Tryz.prog [] (cR (oLB Tryz.f22)) (oK s1) _
        rw [k1]
        refine SW.seqC (by kernel_rfl) ?_
        refine SW.blockC (by kernel_rfl) ?_
        refine SW.seqC (by kernel_rfl) ?_
        obtain ⟨s2,h2,k2⟩:=proj_some (o_5 rsumN n p (oR p n (256 - (j+1))) (j:Int))
        refine SW.run (X:=HtX rsumN) HtX_ok mixed 40 h2 (al ⟨isQ_qv lt,isQ_qv lt⟩ al0) ?_
        show SW Tryz.prog [] (cR (oB1 Tryz.f22)) s2 _
        refine SW.forget (a:=s2.1) (m:=s2.2) oF ?_
        show SW Tryz.prog [] (cR (oB1 Tryz.f22)) (oK s2) _
        have eo:o2 rsumN (oR p n (256 - (j+1)))=rsumN (oR p n (256 - (j+1))) (oR p n (256 - (j+1))):=by unfold o2;rw [q4_qv lt]
        rw [k2,eo]
        have lt2:=rsumN_ok lt lt
        by_cases hbit:n/2 ^ j % 2=1
        · obtain ⟨s3,h3,k3⟩:=proj_some (o_t rsumN n p (rsumN (oR p n (256 - (j+1))) (oR p n (256 - (j+1)))) (j:Int))
          refine SW.run (X:=(HtX rsumN).tell [(24,true)]) (Cx.tell_ok HtX_ok _) mixed 40 h3 ?_ ?_
          · intro q hq
            rcases List.mem_append.1 hq with hq | hq
            · exact hO q hq
            · refine (al ?_ (al ⟨isQ_qv lt2,isQ_qv lp⟩ al0)) q hq
              rw [hB,hbit];rfl
          · show SW Tryz.prog [] (oR4 Tryz.f22) s3 _
            refine SW.forget (a:=s3.1) (m:=s3.2) oF ?_
            show SW Tryz.prog [] (oR4 Tryz.f22) (oK s3) _
            rw [k3,q4_qv lt2,q4_qv lp]
            obtain ⟨s4,h4,k4⟩:=proj_some (o_4 rsumN n p (rsumN (rsumN (oR p n (256 - (j+1))) (oR p n (256 - (j+1)))) p) (j:Int))
            refine SW.run (X:=HS rsumN) HS_ok mixed 40 h4 (by simp) ⟨j,by omega,by omega,?_⟩
            rw [k4,wrap64' _ (by omega),e,oR,show 255 - (256 - (j+1))=j by omega,if_pos hbit]
        · obtain ⟨s3,h3,k3⟩:=proj_some (o_f rsumN n p (rsumN (oR p n (256 - (j+1))) (oR p n (256 - (j+1)))) (j:Int))
          have hb0:n/2 ^ j % 2=0:=by omega
          refine SW.run (X:=(HtX rsumN).tell [(24,false)]) (Cx.tell_ok HtX_ok _) mixed 40 h3 ?_ ?_
          · intro q hq
            rcases List.mem_append.1 hq with hq | hq
            · exact hO q hq
            · refine (al ?_ al0) q hq
              rw [hB,hb0];rfl
          · show SW Tryz.prog [] (oR4 Tryz.f22) s3 _
            refine SW.forget (a:=s3.1) (m:=s3.2) oF ?_
            show SW Tryz.prog [] (oR4 Tryz.f22) (oK s3) _
            rw [k3]
            obtain ⟨s4,h4,k4⟩:=proj_some (o_4 rsumN n p (rsumN (oR p n (256 - (j+1))) (oR p n (256 - (j+1)))) (j:Int))
            refine SW.run (X:=HS rsumN) HS_ok mixed 40 h4 (by simp) ⟨j,by omega,by omega,?_⟩
            rw [k4,wrap64' _ (by omega),e,oR,show 255 - (256 - (j+1))=j by omega,if_neg hbit]
  · rintro e w' ⟨v,rfl,rfl,hb⟩
    exact ⟨rfl,hb⟩
theorem rep_oR {p:P4} {P:PT} (lp:p.ok) (h:Rep (cP p) P) (n:Nat) (hn:n<2 ^ 256) : ∀ j,j≤256→Rep (cP (oR p n j)) (pmul (n/2 ^ (256 - j)) P)
  | 0,_=>by
    rw [Nat.sub_zero,Nat.div_eq_of_lt hn]
    show Rep (cP neuN) (Pt.zero DK)
    rw [cP_neu];exact rep_neu FK
  | j+1,hj=>by
    have ih:=rep_oR lp h n hn j (by omega)
    have l:=oR_ok lp n j
    have e1:256 - j=(255 - j)+1:=by omega
    have e2:256 - (j+1)=255 - j:=by omega
    have hd:n/2 ^ (255 - j)=n/2 ^ (256 - j)+n/2 ^ (256 - j)+n/2 ^ (255 - j) % 2:=by
      rw [e1,Nat.pow_succ,←Nat.div_div_eq_div_mul];omega
    have h2:=rep_rsum l l ih ih
    rw [show padd (pmul (n/2 ^ (256 - j)) P) (pmul (n/2 ^ (256 - j)) P)=pmul (n/2 ^ (256 - j)+n/2 ^ (256 - j)) P from (Pt.smul_add FK P _ _).symm] at h2
    rw [e2]
    unfold oR
    split
    · rename_i hb
      rw [hb] at hd
      rw [hd]
      exact rep_rsum (rsumN_ok l l) lp h2 h
    · rename_i hb
      have hb0:n/2 ^ (255 - j) % 2=0:=by omega
      rw [hb0,Nat.add_zero] at hd
      rw [hd]
      exact h2
theorem rep_often {p:P4} {P:PT} (lp:p.ok) (h:Rep (cP p) P) (n:Nat) (hn:n<RN):Rep (cP (oftN n p)) (pmul n P):=by
  have:=rep_oR lp h n hn 256 (Nat.le_refl _)
  rw [Nat.sub_self,Nat.pow_zero,Nat.div_one] at this
  exact this
def gRoft:List Value→Option (List Prop × Value)
  | [A,B]=>some ([IsB A∧IsQ B],qv (oftN (bnum A) (q4 B)))
  | _=>none
theorem gRoft_ok {X:Cx} (hX:X.Ok Tryz.prog):(X.pure 22 gRoft).Ok Tryz.prog:=by
  refine gBody_ok hX Tryz.func22 (by kernel_rfl) (by kernel_rfl) ?_
  intro args ps v ha hg hp
  unfold gRoft at hg
  split at hg
  · rename_i A B
    simp only [qG,qH] at hg
    obtain ⟨rfl,rfl⟩:=hg
    obtain ⟨hA,⟨hB,lB⟩⟩:=hp _ (List.mem_singleton.2 rfl)
    refine ⟨.inl (flat_qv _),fun w => ?_⟩
    have h:=often_any (bnum A) (bnum_lt hA) lB w
    rw [← (show A=bv (bnum A) from hA),←hB] at h
    exact h
  · simp at hg
def H2:Cx:=H1.pure 22 gRoft
theorem H2_ok:H2.Ok Tryz.prog:=gRoft_ok H1_ok
end Go.Proofs.YtkhjnjlinfbfoaaGreatDoor
