/- The curve's reference: Often as a mR. -/
import Derived.Test.YtajehiidpecknaaGreatDoorPoiS
import Derived.Test.YtajehiidpecknaaGreatDoorPoiG
set_option linter.all false
namespace Go.Proofs.YtajehiidpecknaaGreatDoor
open Go Go.RowKit
def ohd (t22 t50 n:Nat) (p out:P4) (i:Int):Act × Mem :=
 (⟨#[cS,cS,.pointer (some ⟨0,0,none⟩),.pointer (some ⟨1,0,none⟩),.pointer (some ⟨2,0,none⟩),.pointer (some ⟨3,0,none⟩),.int .i64 i] ++ Array.replicate 22 cS,[]⟩,
  [some ⟨bl n,t22⟩,some ⟨q16 p,t50⟩,some ⟨q16 ⟨0,0,0,0⟩,t50⟩,some ⟨q16 out,t50⟩])
def oF:List Nat:=[0,1] ++ (List.range 22).map (· + 7)
def oK (s:Act × Mem):Act × Mem:=(forgetL s.1 oF,s.2)
def oLB (fn:Func):Code:=cL (cL (cR (cL (cR (cR (ag fn))))))
def oT (fn:Func):Code:=cR (cR (cR (ag fn)))
def gRS (S:P4→P4→P4):List Value→Option (List Prop × Value)
 | [A,B]=>some ([IsQ A∧IsQ B],qv (S (q4 A) (q4 B)))
 | _=>none
def HS (S:P4→P4→P4):Cx:=(Cx.none.pure 93 gRneu).pure 48 (gRS S)
theorem Jj:gRS aT=gRsum:=rfl
theorem mN:(HS aT).Ok Tryz.prog:=by
 unfold HS
 rw [Jj]
 exact mJ (uh Cx.none_ok)
def HtX (S:P4→P4→P4):Cx:=(HS S).terms
theorem nM:(HtX aT).Ok Tryz.prog:=Cx.terms_ok mN
def os1 (S:P4→P4→P4) (P:Program) (fn:Func) (n:Nat) (p:P4):Act × Mem:=cN P (HS S) 20 (cL (ag fn)) (bN fn [bv n,qv p],[])
def os2 (S:P4→P4→P4) (P:Program) (fn:Func) (n:Nat) (p:P4):Act × Mem:=cN P (HS S) 20 (cL (cR (ag fn))) (os1 S P fn n p)
def os3 (S:P4→P4→P4) (P:Program) (fn:Func) (n:Nat) (p:P4):Act × Mem:=cN P (HS S) 20 (cL (cL (cR (cR (ag fn))))) (os2 S P fn n p)
theorem o_1 (S:P4→P4→P4) (n:Nat) (p:P4):kG (sexec Tryz.prog (HS S) 20 (cL (ag Tryz.f49)) [] (bN Tryz.f49 [bv n,qv p],[]))=some ([],.normal):=by kernel_rfl
theorem o_2 (S:P4→P4→P4) (n:Nat) (p:P4):kG (sexec Tryz.prog (HS S) 20 (cL (cR (ag Tryz.f49))) [] (os1 S Tryz.prog Tryz.f49 n p))=some ([],.normal):=by kernel_rfl
theorem o_3 (S:P4→P4→P4) (n:Nat) (p:P4):kG (sexec Tryz.prog (HS S) 20 (cL (cL (cR (cR (ag Tryz.f49))))) [] (os2 S Tryz.prog Tryz.f49 n p))=some ([],.normal):=by kernel_rfl
theorem o_h (S:P4→P4→P4) (n:Nat) (p:P4):oK (os3 S Tryz.prog Tryz.f49 n p)=ohd 22 70 n p ia 255:=by kernel_rfl
def oQ (i:Int):Int:=IntKind.i64.wrap (Int.tdiv i 8)
def oU (i:Int):Int:=IntKind.u64.wrap (Int.tmod i 8)
def oY (n:Nat) (i:Int):Int:=jJ (bl n) (0+(oQ i).toNat*1)
def oB (n:Nat) (i:Int):Int:=bits .and .u8 (Int.fdiv (oY n i) (2 ^ min (oU i).toNat 8)) 1
def oO (n:Nat) (i:Int):List Prop:=[0≤oQ i∧oQ i<((32:Nat):Int),(bl n)[0+(oQ i).toNat*1]? = some (.int .u8 (oY n i)),0≤oU i]
def o2 (S:P4→P4→P4) (out:P4):P4:=S (q4 (qv out)) (q4 (qv out))
def oB1 (fn:Func):Code:=cL (cL (cR (oLB fn)))
def oR4 (fn:Func):Code:=cR (cR (oLB fn))
theorem Nc (S:P4→P4→P4) (n:Nat) (p out:P4) (i:Int):proj oK (sexec Tryz.prog ((HtX S).tell [(9,true)]) 40 (cL (oLB Tryz.f49)) [] (ohd 22 70 n p out i))=some ([decide (i≥0)=true],ohd 22 70 n p out i):=by kernel_rfl
theorem o_5 (S:P4→P4→P4) (n:Nat) (p out:P4) (i:Int):proj oK (sexec Tryz.prog (HtX S) 40 (cL (oB1 Tryz.f49)) [] (ohd 22 70 n p out i))=some ([IsQ (qv out)∧IsQ (qv out)],ohd 22 70 n p (o2 S out) i):=by kernel_rfl
theorem o_t (S:P4→P4→P4) (n:Nat) (p out:P4) (i:Int):proj oK (sexec Tryz.prog ((HtX S).tell [(24,true)]) 40 (cR (oB1 Tryz.f49)) [] (ohd 22 70 n p out i))=some (oO n i ++ [(oB n i == 1)=true,IsQ (qv out)∧IsQ (qv p)],ohd 22 70 n p (S (q4 (qv out)) (q4 (qv p))) i):=by kernel_rfl
theorem o_f (S:P4→P4→P4) (n:Nat) (p out:P4) (i:Int):proj oK (sexec Tryz.prog ((HtX S).tell [(24,false)]) 40 (cR (oB1 Tryz.f49)) [] (ohd 22 70 n p out i))=some (oO n i ++ [(oB n i == 1)=false],ohd 22 70 n p out i):=by kernel_rfl
theorem o_4 (S:P4→P4→P4) (n:Nat) (p out:P4) (i:Int):proj oK (sexec Tryz.prog (HS S) 40 (oR4 Tryz.f49) [] (ohd 22 70 n p out i))=some ([],ohd 22 70 n p out (IntKind.i64.wrap (i - 1))):=by kernel_rfl
def oX (S:P4→P4→P4) (P:Program) (fn:Func) (t22 t50 n:Nat) (p out:P4) (i:Int):Act × Mem:=cN P ((HtX S).tell [(9,false)]) 40 (cL (oLB fn)) (ohd t22 t50 n p out i)
theorem o_x (S:P4→P4→P4) (n:Nat) (p out:P4) (i:Int):kG (sexec Tryz.prog ((HtX S).tell [(9,false)]) 40 (cL (oLB Tryz.f49)) [] (ohd 22 70 n p out i))=some ([decide (i≥0)=false],.exit 0):=by kernel_rfl
theorem o_z (S:P4→P4→P4) (n:Nat) (p out:P4) (i:Int):kG (sexec Tryz.prog (HS S) 40 (oT Tryz.f49) [] (oX S Tryz.prog Tryz.f49 22 70 n p out i))=some ([],.ret):=by kernel_rfl
theorem o_r (S:P4→P4→P4) (n:Nat) (p out:P4) (i:Int):sres Tryz.prog Tryz.f49 (cN Tryz.prog (HS S) 40 (oT Tryz.f49) (oX S Tryz.prog Tryz.f49 22 70 n p out i))=some (qv out):=by kernel_rfl
theorem o_d (S:P4→P4→P4) (n:Nat) (p out:P4) (i:Int):(cN Tryz.prog (HS S) 40 (oT Tryz.f49) (oX S Tryz.prog Tryz.f49 22 70 n p out i)).1.defers = []:=by kernel_rfl
theorem Mr (n:Nat) (p T:P4) (i:Int):SW Tryz.prog [] (oT Tryz.f49) (oX aT Tryz.prog Tryz.f49 22 70 n p T i) (fun e s=>(e = .normal∨e = .ret)∧s.1.defers = [] ∧ ∃ v x,sres Tryz.prog Tryz.f49 s=some v∧(flat v=true∨v=undef)∧s.2 = [] ++ x∧v=qv T):=by
 refine SW.run (X:=HS aT) mN mixed 40 (dz (o_z aT n p T i)) (by simp) ?_
 exact ⟨.inr rfl,o_d aT n p T i,qv T,_,o_r aT n p T i,.inl (eF T),(List.nil_append _).symm,rfl⟩
def oR (p:P4) (n:Nat):Nat→P4
 | 0=>ia
 | j+1=>if n/2 ^ (255 - j) % 2=1 then aT (aT (oR p n j) (oR p n j)) p else aT (oR p n j) (oR p n j)
theorem yr {p:P4} (hp:p.ok) (n:Nat) : ∀ j,(oR p n j).ok
 | 0=>rL
 | j+1=>by
  have ih:=yr hp n j
  unfold oR
  split
  ·exact iO (iO ih ih) hp
  ·exact iO ih ih
def tL (n:Nat) (p:P4):P4:=oR p n 256
theorem GR (j:Nat) (hj:j<256):oQ (j:Int)=((j/8:Nat):Int):=by
 unfold oQ
 rw [Int.tdiv_eq_ediv_of_nonneg (by omega),l7 _ (by omega)]
 omega
theorem Hf (j:Nat) (hj:j<256):oU (j:Int)=((j % 8:Nat):Int):=by
 unfold oU
 rw [Int.tmod_eq_emod_of_nonneg (by omega)]
 have:(j:Int) % 8=((j % 8:Nat):Int):=by omega
 rw [this]
 have h8:j % 8<8:=Nat.mod_lt _ (by decide)
 have key : ∀ k:Fin 8,IntKind.u64.wrap ((k.val:Nat):Int)=((k.val:Nat):Int):=by decide +kernel
 exact key ⟨j % 8,h8⟩
theorem Hn (n j:Nat) (hj:j<256):(bl n)[0+(oQ (j:Int)).toNat*1]? = some (.int .u8 (oY n (j:Int)))∧oY n (j:Int)=((n/256 ^ (j/8) % 256:Nat):Int):=by
 have e:0+(oQ (j:Int)).toNat*1=j/8:=by rw [GR j hj,Int.toNat_natCast];omega
 have hb:(bl n)[j/8]? = some (.int .u8 (by8 n (j/8))):=by simp [bl,show j/8<32 by omega]
 have ey:oY n (j:Int)=by8 n (j/8):=by unfold oY;rw [e];unfold jJ;rw [hb]
 exact ⟨by rw [e,ey];exact hb,ey⟩
theorem Ld (n j:Nat) (hj:j<256) : ∀ p ∈ oO n (j:Int),p:=by
 unfold oO
 refine al ?_ (al (Hn n j hj).1 (al ?_ al0))
 ·rw [GR j hj];omega
 ·rw [Hf j hj];omega
theorem AP : ∀ (y:Fin 256) (k:Fin 8),bits .and .u8 (Int.fdiv ((y.val:Nat):Int) (2 ^ min ((k.val:Nat):Int).toNat 8)) 1=((y.val/2 ^ k.val % 2:Nat):Int):=by decide +kernel
theorem Kl (n j:Nat) (hj:j<256):oB n (j:Int)=((n/2 ^ j % 2:Nat):Int):=by
 unfold oB
 rw [(Hn n j hj).2,Hf j hj]
 have h:=AP ⟨n/256 ^ (j/8) % 256,Nat.mod_lt _ (by decide)⟩ ⟨j % 8,Nat.mod_lt _ (by decide)⟩
 simp only at h
 rw [h]
 congr 1
 have e1:(256:Nat) ^ (j/8)=2 ^ (8*(j/8)):=by rw [Nat.pow_mul]
 have e2:(256:Nat)=2 ^ (j % 8)*(2*2 ^ (7 - j % 8)):=by
  rw [←Nat.pow_succ',←Nat.pow_add,show j % 8+(7 - j % 8+1)=8 by omega]
 have e3:n/2 ^ j=n/2 ^ (8*(j/8))/2 ^ (j % 8):=by
  rw [Nat.div_div_eq_div_mul,←Nat.pow_add,show 8*(j/8)+j % 8=j by omega]
 rw [e1,e3]
 generalize n/2 ^ (8*(j/8))=y
 conv=>lhs;rw [e2]
 rw [Nat.mod_mul_right_div_self,Nat.mod_mul_right_mod]
set_option maxRecDepth 10000 in
theorem za (n:Nat) (hn:n<RN) {p:P4} (lp:p.ok) (w:World) :
  Calls Tryz.prog 49 #[bv n,qv p] w fun e w'=>e = .returned (qv (tL n p))∧Below w.heap.size w w':=by
 have hb:Tryz.f49.body=some (ag Tryz.f49):=by kernel_rfl
 refine (cz (gl:=[]) (m:=[]) (r:=fun _=>none) (R:=fun u=>u=qv (tL n p)) (args:=[bv n,qv p]) (args':=[bv n,qv p]) Tryz.func49 hb ?_ (Rel.nil w) (by simp) (eh (by simp [aC,eF]))).mono ?_
 ·refine SW.seqC (by kernel_rfl) ?_
  refine SW.run (X:=HS aT) mN mixed 20 (dz (o_1 aT n p)) (by simp) ?_
  show SW Tryz.prog [] (cR (ag Tryz.f49)) (os1 aT Tryz.prog Tryz.f49 n p) _
  refine SW.seqC (by kernel_rfl) ?_
  refine SW.run (X:=HS aT) mN mixed 20 (dz (o_2 aT n p)) (by simp) ?_
  show SW Tryz.prog [] (cR (cR (ag Tryz.f49))) (os2 aT Tryz.prog Tryz.f49 n p) _
  refine SW.seqC (by kernel_rfl) ?_
  refine SW.seqC (by kernel_rfl) ?_
  refine SW.run (X:=HS aT) mN mixed 20 (dz (o_3 aT n p)) (by simp) ?_
  show SW Tryz.prog [] (cR (cL (cR (cR (ag Tryz.f49))))) (os3 aT Tryz.prog Tryz.f49 n p) _
  refine SW.blockC (by kernel_rfl) ?_
  refine SW.loopC (by kernel_rfl) (fun k s=>k≤256∧oK s=ohd 22 70 n p (oR p n (256 - k)) ((k:Int) - 1)) 256 ⟨Nat.le_refl _,?_⟩ ?_
  ·have e2:oR p n (256 - 256)=ia:=rfl
   have e3:((256:Nat):Int) - 1=255:=rfl
   rw [o_h aT,e2,e3]
  ·rintro k s ⟨hk,hs⟩
   refine SW.forget (a:=s.1) (m:=s.2) oF ?_
   show SW Tryz.prog [] (oLB Tryz.f49) (oK s) _
   rw [hs]
   refine SW.seqC (by kernel_rfl) ?_
   cases k with
   | zero =>
    refine SW.run (X:=(HtX aT).tell [(9,false)]) (Cx.tell_ok nM _) mixed 40 (dz (o_x aT n p _ _)) (by simp) ?_
    show SW Tryz.prog [] (oT Tryz.f49) (oX aT Tryz.prog Tryz.f49 22 70 n p _ _) _
    exact Mr n p (oR p n (256 - 0)) _
   | succ j =>
    have hj:j<256:=by omega
    have ei:((j+1:Nat):Int) - 1=(j:Int):=by omega
    rw [ei]
    have lt:=yr lp n (256 - (j+1))
    have hge:decide ((j:Int)≥0)=true:=by simp
    have hO:=Ld n j hj
    have hB:=Kl n j hj
    have e:256 - j=(256 - (j+1))+1:=by omega
    obtain ⟨s1,h1,k1⟩:=bu (Nc aT n p (oR p n (256 - (j+1))) (j:Int))
    refine SW.run (X:=(HtX aT).tell [(9,true)]) (Cx.tell_ok nM _) mixed 40 h1 (al hge al0) ?_
    show SW Tryz.prog [] (cR (oLB Tryz.f49)) s1 _
    refine SW.forget (a:=s1.1) (m:=s1.2) oF ?_
    show SW Tryz.prog [] (cR (oLB Tryz.f49)) (oK s1) _
    rw [k1]
    refine SW.seqC (by kernel_rfl) ?_
    refine SW.blockC (by kernel_rfl) ?_
    refine SW.seqC (by kernel_rfl) ?_
    obtain ⟨s2,h2,k2⟩:=bu (o_5 aT n p (oR p n (256 - (j+1))) (j:Int))
    refine SW.run (X:=HtX aT) nM mixed 40 h2 (al ⟨iB lt,iB lt⟩ al0) ?_
    show SW Tryz.prog [] (cR (oB1 Tryz.f49)) s2 _
    refine SW.forget (a:=s2.1) (m:=s2.2) oF ?_
    show SW Tryz.prog [] (cR (oB1 Tryz.f49)) (oK s2) _
    have eo:o2 aT (oR p n (256 - (j+1)))=aT (oR p n (256 - (j+1))) (oR p n (256 - (j+1))):=by unfold o2;rw [kW lt]
    rw [k2,eo]
    have lt2:=iO lt lt
    by_cases hbit:n/2 ^ j % 2=1
    ·obtain ⟨s3,h3,k3⟩:=bu (o_t aT n p (aT (oR p n (256 - (j+1))) (oR p n (256 - (j+1)))) (j:Int))
     refine SW.run (X:=(HtX aT).tell [(24,true)]) (Cx.tell_ok nM _) mixed 40 h3 ?_ ?_
     ·intro q hq
      rcases List.mem_append.1 hq with hq | hq
      ·exact hO q hq
      ·refine (al ?_ (al ⟨iB lt2,iB lp⟩ al0)) q hq
       rw [hB,hbit];rfl
     ·show SW Tryz.prog [] (oR4 Tryz.f49) s3 _
      refine SW.forget (a:=s3.1) (m:=s3.2) oF ?_
      show SW Tryz.prog [] (oR4 Tryz.f49) (oK s3) _
      rw [k3,kW lt2,kW lp]
      obtain ⟨s4,h4,k4⟩:=bu (o_4 aT n p (aT (aT (oR p n (256 - (j+1))) (oR p n (256 - (j+1)))) p) (j:Int))
      refine SW.run (X:=HS aT) mN mixed 40 h4 (by simp) ⟨j,by omega,by omega,?_⟩
      rw [k4,l7 _ (by omega),e,oR,show 255 - (256 - (j+1))=j by omega,if_pos hbit]
    ·obtain ⟨s3,h3,k3⟩:=bu (o_f aT n p (aT (oR p n (256 - (j+1))) (oR p n (256 - (j+1)))) (j:Int))
     have hb0:n/2 ^ j % 2=0:=by omega
     refine SW.run (X:=(HtX aT).tell [(24,false)]) (Cx.tell_ok nM _) mixed 40 h3 ?_ ?_
     ·intro q hq
      rcases List.mem_append.1 hq with hq | hq
      ·exact hO q hq
      ·refine (al ?_ al0) q hq
       rw [hB,hb0];rfl
     ·show SW Tryz.prog [] (oR4 Tryz.f49) s3 _
      refine SW.forget (a:=s3.1) (m:=s3.2) oF ?_
      show SW Tryz.prog [] (oR4 Tryz.f49) (oK s3) _
      rw [k3]
      obtain ⟨s4,h4,k4⟩:=bu (o_4 aT n p (aT (oR p n (256 - (j+1))) (oR p n (256 - (j+1)))) (j:Int))
      refine SW.run (X:=HS aT) mN mixed 40 h4 (by simp) ⟨j,by omega,by omega,?_⟩
      rw [k4,l7 _ (by omega),e,oR,show 255 - (256 - (j+1))=j by omega,if_neg hbit]
 ·rintro e w' ⟨v,rfl,rfl,hb⟩
  exact ⟨rfl,hb⟩
theorem Cr {p:P4} {P:PT} (lp:p.ok) (h:Rep (cP p) P) (n:Nat) (hn:n<2 ^ 256) : ∀ j,j≤256→Rep (cP (oR p n j)) (eU (n/2 ^ (256 - j)) P)
 | 0,_=>by
  rw [Nat.sub_zero,Nat.div_eq_of_lt hn]
  show Rep (cP ia) (Pt.zero DK)
  rw [Bi];exact xK FK
 | j+1,hj=>by
  have ih:=Cr lp h n hn j (by omega)
  have l:=yr lp n j
  have e1:256 - j=(255 - j)+1:=by omega
  have e2:256 - (j+1)=255 - j:=by omega
  have hd:n/2 ^ (255 - j)=n/2 ^ (256 - j)+n/2 ^ (256 - j)+n/2 ^ (255 - j) % 2:=by
   rw [e1,Nat.pow_succ,←Nat.div_div_eq_div_mul];omega
  have h2:=tI l l ih ih
  rw [show zD (eU (n/2 ^ (256 - j)) P) (eU (n/2 ^ (256 - j)) P)=eU (n/2 ^ (256 - j)+n/2 ^ (256 - j)) P from (Pt.smul_add FK P _ _).symm] at h2
  rw [e2]
  unfold oR
  split
  ·rename_i hb
   rw [hb] at hd
   rw [hd]
   exact tI (iO l l) lp h2 h
  ·rename_i hb
   have hb0:n/2 ^ (255 - j) % 2=0:=by omega
   rw [hb0,Nat.add_zero] at hd
   rw [hd]
   exact h2
theorem zC {p:P4} {P:PT} (lp:p.ok) (h:Rep (cP p) P) (n:Nat) (hn:n<RN):Rep (cP (tL n p)) (eU n P):=by
 have:=Cr lp h n hn 256 (Nat.le_refl _)
 rw [Nat.sub_self,Nat.pow_zero,Nat.div_one] at this
 exact this
def xZ:List Value→Option (List Prop × Value)
 | [A,B]=>some ([IsB A∧IsQ B],qv (tL (aj A) (q4 B)))
 | _=>none
theorem tD {X:Cx} (hX:X.Ok Tryz.prog):(X.pure 49 xZ).Ok Tryz.prog:=by
 refine aA hX Tryz.func49 (by kernel_rfl) (by kernel_rfl) ?_
 intro args ps v ha hg hp
 unfold xZ at hg
 split at hg
 ·rename_i A B
  simp only [qG,qH] at hg
  obtain ⟨rfl,rfl⟩:=hg
  obtain ⟨hA,⟨hB,lB⟩⟩:=hp _ (List.mem_singleton.2 rfl)
  refine ⟨.inl (eF _),fun w => ?_⟩
  have h:=za (aj A) (aQ hA) lB w
  rw [← (show A=bv (aj A) from hA),←hB] at h
  exact h
 ·simp at hg
def H2:Cx:=H1.pure 49 xZ
theorem pg:H2.Ok Tryz.prog:=tD Lg
end Go.Proofs.YtajehiidpecknaaGreatDoor
namespace Go.Proofs.YtajehiidpecknaaGreatDoor
open Go Go.RowKit
def gd (n:Nat):Value := .agg ((bl n).take 31 ++ [Value.int .u8 (bits .and .u8 (by8 n 31) 127)]).toArray
def odQ (n:Nat):Int:=Int.fdiv (by8 n 31) (2 ^ 7)
def dyV (n:Nat):Value:=nv (aj (gd n))
def dG (n:Nat):Value:=WM (dyV n) (dyV n)
def duV (n:Nat):Value:=WA (WM (nv DN') (dG n)) (nv 1)
def dsV (n:Nat):Value:=WM (WS (dG n) (nv 1)) (WI (duV n))
def drN (n:Nat):Nat:=rt (aY (dsV n))
def rQ (n:Nat):Bool := !decide (drN n*drN n % pp=aY (dsV n) % pp)
def ncQ (n:Nat):Bool := !decide (aj (gd n)<pp)
def uW (n:Nat):Bool:=eqB (nl (drN n)).toArray (nl 0).toArray 4
def tU (n:Nat):Bool := !(FV (drN n) == odQ n)
theorem Nn (n:Nat):sfun Tryz.prog (H2.tell [(18,true)]) 80 Tryz.f45 (ag Tryz.f45) [bv n]=some ([IsB (gd n),ncQ n=true],.tuple #[qv noP,.bool false]):=by kernel_rfl
theorem Nf (n:Nat):sfun Tryz.prog (H2.tell [(18,false),(40,true)]) 80 Tryz.f45 (ag Tryz.f45) [bv n]=some ([IsB (gd n),ncQ n=false,IsB (gd n),IW (dyV n) (dyV n),IW (dG n) (nv 1),IW (nv DN') (dG n),IW (WM (nv DN') (dG n)) (nv 1),IsW (duV n),IW (WS (dG n) (nv 1)) (WI (duV n)),IsW (dsV n),rQ n=true],.tuple #[qv noP,.bool false]):=by kernel_rfl
theorem NS (n:Nat):sfun Tryz.prog (H2.tell [(18,false),(40,false),(44,true),(47,true)]) 80 Tryz.f45 (ag Tryz.f45) [bv n]=some ([IsB (gd n),ncQ n=false,IsB (gd n),IW (dyV n) (dyV n),IW (dG n) (nv 1),IW (nv DN') (dG n),IW (WM (nv DN') (dG n)) (nv 1),IsW (duV n),IW (WS (dG n) (nv 1)) (WI (duV n)),IsW (dsV n),rQ n=false,uW n=true,(odQ n == 1)=true],.tuple #[qv noP,.bool false]):=by kernel_rfl
theorem Lq (n:Nat):sfun Tryz.prog (H2.tell [(18,false),(40,false),(44,true),(47,false),(55,false)]) 80 Tryz.f45 (ag Tryz.f45) [bv n]=some ([IsB (gd n),ncQ n=false,IsB (gd n),IW (dyV n) (dyV n),IW (dG n) (nv 1),IW (nv DN') (dG n),IW (WM (nv DN') (dG n)) (nv 1),IsW (duV n),IW (WS (dG n) (nv 1)) (WI (duV n)),IsW (dsV n),rQ n=false,uW n=true,(odQ n == 1)=false,tU n=false,IW (nv (drN n)) (dyV n)],.tuple #[qv ⟨drN n,aj (gd n),1,rfm (aY (nv (drN n))) (aY (dyV n))⟩,.bool true]):=by kernel_rfl
theorem K1 (n:Nat):sfun Tryz.prog (H2.tell [(18,false),(40,false),(44,false),(55,false)]) 80 Tryz.f45 (ag Tryz.f45) [bv n]=some ([IsB (gd n),ncQ n=false,IsB (gd n),IW (dyV n) (dyV n),IW (dG n) (nv 1),IW (nv DN') (dG n),IW (WM (nv DN') (dG n)) (nv 1),IsW (duV n),IW (WS (dG n) (nv 1)) (WI (duV n)),IsW (dsV n),rQ n=false,uW n=false,tU n=false,IW (nv (drN n)) (dyV n)],.tuple #[qv ⟨drN n,aj (gd n),1,rfm (aY (nv (drN n))) (aY (dyV n))⟩,.bool true]):=by kernel_rfl
theorem LO (n:Nat):sfun Tryz.prog (H2.tell [(18,false),(40,false),(44,false),(55,true)]) 80 Tryz.f45 (ag Tryz.f45) [bv n]=some ([IsB (gd n),ncQ n=false,IsB (gd n),IW (dyV n) (dyV n),IW (dG n) (nv 1),IW (nv DN') (dG n),IW (WM (nv DN') (dG n)) (nv 1),IsW (duV n),IW (WS (dG n) (nv 1)) (WI (duV n)),IsW (dsV n),rQ n=false,uW n=false,tU n=true,IW (nv 0) (nv (drN n)),IsW (WS (nv 0) (nv (drN n))),IW (nv (aY (WS (nv 0) (nv (drN n))) % pp)) (dyV n)],.tuple #[qv ⟨aY (WS (nv 0) (nv (drN n))) % pp,aj (gd n),1,rfm (aY (nv (aY (WS (nv 0) (nv (drN n))) % pp))) (aY (dyV n))⟩,.bool true]):=by kernel_rfl
theorem uN : ∀ y:Fin 256,bits .and .u8 ((y.val:Nat):Int) 127=((y.val % 128:Nat):Int)∧Int.fdiv ((y.val:Nat):Int) (2 ^ 7)=((y.val/128:Nat):Int):=by decide +kernel
theorem FL (n:Nat) (h:n<RN):gd n=bv (n % TT):=by
 have hb:n/256 ^ 31 % 256<256:=Nat.mod_lt _ (by decide)
 have o:=(uN ⟨n/256 ^ 31 % 256,hb⟩).1
 have o2:=(ik ⟨n/256 ^ 31 % 256,hb⟩).1
 simp only at o o2
 have e:bits .and .u8 (by8 n 31) 127=bits .andNot .u8 (by8 n 31) 128:=o.trans o2.symm
 rw [←lL n h]
 unfold gd dF
 rw [e]
theorem Iz {n:Nat} (h:n<RN):odQ n=if TT≤n then 1 else 0:=by
 have hb:n/256 ^ 31 % 256<256:=Nat.mod_lt _ (by decide)
 have o:=(uN ⟨n/256 ^ 31 % 256,hb⟩).2
 simp only at o
 unfold odQ
 show Int.fdiv ((n/256 ^ 31 % 256:Nat):Int) (2 ^ 7)=_
 rw [o]
 have h2:n/256 ^ 31<256:=by rw [Nat.div_lt_iff_lt_mul (by decide)];exact Nat.lt_of_lt_of_le h (by decide)
 rw [Nat.mod_eq_of_lt h2,Nat.div_div_eq_div_mul,←js]
 have h4:RN=TT*2:=by decide
 by_cases ht:TT≤n
 ·rw [if_pos ht]
  have h1:n/TT<2:=by rw [Nat.div_lt_iff_lt_mul (by decide)];omega
  have h3:1≤n/TT:=by rw [Nat.le_div_iff_mul_le (by decide)];omega
  have:n/TT=1:=by omega
  rw [this];rfl
 ·rw [if_neg ht,Nat.div_eq_of_lt (by omega)];rfl
theorem IZ (m n:Nat) (hm:m<RN) (hn:n<RN):eqB (nl m).toArray (nl n).toArray 4=decide (m=n):=by
 by_cases h:m=n
 ·subst h
  rw [decide_eq_true rfl]
  exact List.all_eq_true.2 fun i _=>by simp
 ·rw [decide_eq_false h]
  apply Bool.eq_false_iff.2
  intro hall
  apply h
  have e:eqB (nl m).toArray (nl n).toArray 4=((lw m 0 == lw n 0) && ((lw m 1 == lw n 1) && ((lw m 2 == lw n 2) && ((lw m 3 == lw n 3) && true)))):=rfl
  rw [e] at hall
  simp only [Bool.and_eq_true,beq_iff_eq] at hall
  obtain ⟨a0,a1,a2,a3,_⟩:=hall
  have e2:nl m=nl n:=by
   show [Value.int .u64 (lw m 0),.int .u64 (lw m 1),.int .u64 (lw m 2),.int .u64 (lw m 3)] = [.int .u64 (lw n 0),.int .u64 (lw n 1),.int .u64 (lw n 2),.int .u64 (lw n 3)]
   rw [a0,a1,a2,a3]
  rw [←gS hm,←gS hn,e2]
def sxR (y:Nat):Nat:=rfm (rfs (rfm y y) 1) (rfi (rfa (rfm DN' (rfm y y)) 1))
theorem xG {y:Nat} (hy:y<RN):sxR y % pp=sxN y % pp:=by
 apply gu.1
 have l1:=bO hy hy
 have l2:rfm DN' (rfm y y)<RN:=bO cX l1
 have l3:rfa (rfm DN' (rfm y y)) 1<RN:=bB l2 (by decide)
 unfold sxR
 rw [Cv,dd (cm _ l1) (qY l3),mB _ l1,dd hy hy,vg l3,jH l2 (by decide),dd cX l1,dd hy hy,nc]
 rw [show cK DN'=DK from rfl,zJ (DK*(cK y*cK y)) 1]
theorem Cz {a b:Nat} (h:a % pp=b % pp):rt a=rt b:=by
 have hx:rx a=rx b:=by unfold rx;rw [Nat.pow_mod,h,←Nat.pow_mod]
 unfold rt
 rw [hx,h]
def rtN (n:Nat):Nat:=rt (sxN (n % TT))
theorem ru (n:Nat):rtN n<pp:=xP _
theorem qT {n:Nat} (hs:rtN n*rtN n % pp=sxN (n % TT) % pp):eA n=ev (rtN n):=by
 unfold eA sqv;unfold rtN at *;rw [if_pos hs]
theorem E8 {m:Nat} (h:m<pp):ev m=0↔m=0:=by
 unfold ev
 split <;> omega
theorem uB {n:Nat} (hs:rtN n*rtN n % pp=sxN (n % TT) % pp) (h:(rtN n % 2=1)↔TT≤n):rdX n=rtN n:=by
 have l:=ru n
 unfold rdX gY
 rw [qT hs]
 by_cases ht:TT≤n
 ·have h1:=h.2 ht
  rw [decide_eq_true ht,if_pos rfl]
  unfold ev
  rw [if_pos h1]
  unfold fsb
  rw [Nat.zero_add,Nat.mod_eq_of_lt (show pp - rtN n<pp by omega),show pp - (pp - rtN n)=rtN n by omega,Nat.mod_eq_of_lt l]
 ·have h1 : ¬ rtN n % 2=1:=fun e=>ht (h.1 e)
  rw [decide_eq_false ht,if_neg Bool.false_ne_true]
  unfold ev
  rw [if_neg h1]
theorem yM {n:Nat} (hs:rtN n*rtN n % pp=sxN (n % TT) % pp) (h : ¬ ((rtN n % 2=1)↔TT≤n)) (hz : ¬ rtN n=0):rdX n=rfs 0 (rtN n) % pp:=by
 have l:=ru n
 have e:rfs 0 (rtN n) % pp=pp - rtN n:=by
  unfold rfs
  rw [sr (rG _ (by decide)),Nat.mod_eq_of_lt l,Nat.zero_add,Nat.mod_eq_of_lt (by omega)]
 rw [e]
 unfold rdX gY
 rw [qT hs]
 by_cases ht:TT≤n
 ·have h1 : ¬ rtN n % 2=1:=fun e=>h ⟨fun _=>ht,fun _=>e⟩
  rw [decide_eq_true ht,if_pos rfl]
  unfold ev
  rw [if_neg h1]
  unfold fsb
  rw [Nat.zero_add,Nat.mod_eq_of_lt l,Nat.mod_eq_of_lt (by omega)]
 ·have h1:rtN n % 2=1:=by
   by_cases h2:rtN n % 2=1
   ·exact h2
   ·exact absurd ⟨fun e=>absurd e h2,fun e=>absurd e ht⟩ h
  rw [decide_eq_false ht,if_neg Bool.false_ne_true]
  unfold ev
  rw [if_pos h1]
def dqP (n:Nat):P4:=if bG n then ⟨rdX n,n % TT,1,rfm (rdX n) (n % TT)⟩ else noP
theorem nP (n:Nat):rdX n<RN:=by
 unfold rdX
 split
 ·exact mY _ _
 ·exact rj _
theorem Kb:noP.ok:=⟨by decide,by decide,by decide,by decide⟩
theorem iG (n:Nat):(dqP n).ok:=by
 unfold dqP
 split
 ·exact ⟨nP n,dY n,(show (1:Nat)<RN by decide),bO (nP n) (dY n)⟩
 ·exact Kb
theorem pR (p:P4) (b:Bool):flat (.tuple #[qv p,.bool b])=true:=rfl
theorem Em (r:Nat) (t:Prop) [Decidable t]:(!(((r % 2:Nat):Int) == (if t then 1 else 0))) = !decide ((r % 2=1)↔t):=by
 generalize hx:r % 2=x
 have hx:x=0∨x=1:=by omega
 rcases hx with rfl | rfl <;> by_cases ht:t <;> simp [ht]
set_option maxHeartbeats 1000000 in
theorem wg (n:Nat) (h:n<RN) (w:World):Calls Tryz.prog 45 #[bv n] w fun e w'=>e = .returned (.tuple #[qv (dqP n),.bool (bG n)])∧Below w.heap.size w w':=by
 have hl:=FL n h
 have ly:=dY n
 have fin : ∀ {X:Cx} (hX:X.Ok Tryz.prog) (hg:X.gl = []) {ps:List Prop} {v:Value} (run:sfun Tryz.prog X 80 Tryz.f45 (ag Tryz.f45) [bv n]=some (ps,v)) (hp : ∀ p ∈ ps,p) (hv:v = .tuple #[qv (dqP n),.bool (bG n)]),Calls Tryz.prog 45 #[bv n] w fun e w'=>e = .returned (.tuple #[qv (dqP n),.bool (bG n)])∧Below w.heap.size w w':=by
  intro X hX hg ps v run hp hv
  subst hv
  exact aw hX mixed Tryz.func45 (by kernel_rfl) run hp (by simp [aC]) (.inl (pR _ _)) w hg
 have bad:bG n=false→(Value.tuple #[qv noP,.bool false]) = .tuple #[qv (dqP n),.bool (bG n)]:=fun hk=>by
  unfold dqP;rw [hk,if_neg Bool.false_ne_true]
 have IL:IsB (gd n):=by rw [hl];exact aI _
 have ebn:aj (gd n)=n % TT:=by rw [hl,au ly]
 have ey:dyV n=nv (n % TT):=by unfold dyV;rw [ebn]
 have lyy:=bO ly ly
 have eyy:dG n=nv (rfm (n % TT) (n % TT)):=by unfold dG;rw [ey,vWM ly ly]
 have lD:rfm DN' (rfm (n % TT) (n % TT))<RN:=bO cX lyy
 have lU:rfa (rfm DN' (rfm (n % TT) (n % TT))) 1<RN:=bB lD (by decide)
 have eu:duV n=nv (rfa (rfm DN' (rfm (n % TT) (n % TT))) 1):=by unfold duV;rw [eyy,vWM cX lyy,vWA lD (by decide)]
 have lI:=qY lU
 have lS:rfs (rfm (n % TT) (n % TT)) 1<RN:=cm _ lyy
 have es:dsV n=nv (sxR (n % TT)):=by unfold dsV;rw [eyy,eu,vWS lyy (by decide),vWI lU,vWM lS lI];rfl
 have lsx:sxR (n % TT)<RN:=bO lS lI
 have ew:aY (dsV n)=sxR (n % TT):=by rw [es,bm lsx]
 have er:drN n=rtN n:=by unfold drN rtN;rw [ew];exact Cz (xG ly)
 have lr:rtN n<RN:=Nat.lt_trans (ru n) jM
 have i1:IW (dyV n) (dyV n):=by rw [ey];exact iw ly ly
 have i2:IW (dG n) (nv 1):=by rw [eyy];exact iw lyy (by decide)
 have i3:IW (nv DN') (dG n):=by rw [eyy];exact iw cX lyy
 have i4:IW (WM (nv DN') (dG n)) (nv 1):=by rw [eyy,vWM cX lyy];exact iw lD (by decide)
 have i5:IsW (duV n):=by rw [eu];exact iu lU
 have i6:IW (WS (dG n) (nv 1)) (WI (duV n)):=by rw [eyy,eu,vWS lyy (by decide),vWI lU];exact iw lS lI
 have i7:IsW (dsV n):=by rw [es];exact iu lsx
 have i8:IW (nv (drN n)) (dyV n):=by rw [er,ey];exact iw lr ly
 have hok:=my n
 have hnok:rQ n = !decide (rtN n*rtN n % pp=sxN (n % TT) % pp):=by unfold rQ;rw [er,ew,xG ly]
 have hzer:uW n=decide (rtN n=0):=by unfold uW;rw [er];exact IZ _ 0 lr (by decide)
 have hodd:=Iz h
 have hneq:tU n = !decide ((rtN n % 2=1)↔TT≤n):=by
  unfold tU
  rw [er,yb,hodd]
  exact Em (rtN n) (TT≤n)
 by_cases hc:n % TT<pp
 ·have c1:ncQ n=false:=by unfold ncQ;rw [ebn];simp [hc]
  by_cases hs:rtN n*rtN n % pp=sxN (n % TT) % pp
  ·have e1:rQ n=false:=by rw [hnok];simp [hs]
   have hz0:eA n=0↔rtN n=0:=by rw [qT hs];exact E8 (ru n)
   by_cases hz:rtN n=0
   ·have z1:uW n=true:=by rw [hzer];simp [hz]
    by_cases ht:TT≤n
    ·have o1:(odQ n == 1)=true:=by rw [hodd,if_pos ht];rfl
     have hk:bG n=false:=by
      cases hq:bG n
      ·rfl
      ·exact absurd ⟨ht,hz0.2 hz⟩ (hok.1 hq).2.2
     exact fin (Cx.tell_ok pg _) rfl (NS n) (al IL (al c1 (al IL (al i1 (al i2 (al i3 (al i4 (al i5 (al i6 (al i7 (al e1 (al z1 (al o1 al0))))))))))))) (bad hk)
    ·have o1:(odQ n == 1)=false:=by rw [hodd,if_neg ht];rfl
     have hm:(rtN n % 2=1)↔TT≤n:=⟨fun e=>by rw [hz] at e;exact absurd e (by decide),fun e=>absurd e ht⟩
     have n1:tU n=false:=by rw [hneq];simp [hm]
     have hk:bG n=true:=hok.2 ⟨hc,ic.2 hs,fun e=>ht e.1⟩
     refine fin (Cx.tell_ok pg _) rfl (Lq n) (al IL (al c1 (al IL (al i1 (al i2 (al i3 (al i4 (al i5 (al i6 (al i7 (al e1 (al z1 (al o1 (al n1 (al i8 al0))))))))))))))) ?_
     unfold dqP
     rw [hk,if_pos rfl,ey,er,ebn,bm lr,bm ly,uB hs hm]
   ·have z1:uW n=false:=by rw [hzer];simp [hz]
    have hk:bG n=true:=hok.2 ⟨hc,ic.2 hs,fun e=>hz (hz0.1 e.2)⟩
    by_cases hm:(rtN n % 2=1)↔TT≤n
    ·have n1:tU n=false:=by rw [hneq];simp [hm]
     refine fin (Cx.tell_ok pg _) rfl (K1 n) (al IL (al c1 (al IL (al i1 (al i2 (al i3 (al i4 (al i5 (al i6 (al i7 (al e1 (al z1 (al n1 (al i8 al0)))))))))))))) ?_
     unfold dqP
     rw [hk,if_pos rfl,ey,er,ebn,bm lr,bm ly,uB hs hm]
    ·have n1:tU n=true:=by rw [hneq,decide_eq_false hm];rfl
     have lm:rfs 0 (rtN n)<RN:=cm _ (by decide)
     have j1:IW (nv 0) (nv (drN n)):=by rw [er];exact iw (by decide) lr
     have j2:IsW (WS (nv 0) (nv (drN n))):=by rw [er,vWS (by decide) lr];exact iu lm
     have ex:aY (WS (nv 0) (nv (drN n))) % pp=rdX n:=by rw [er,vWS (by decide) lr,bm lm,yM hs hm hz]
     have j3:IW (nv (aY (WS (nv 0) (nv (drN n))) % pp)) (dyV n):=by rw [ex,ey];exact iw (nP n) ly
     refine fin (Cx.tell_ok pg _) rfl (LO n) (al IL (al c1 (al IL (al i1 (al i2 (al i3 (al i4 (al i5 (al i6 (al i7 (al e1 (al z1 (al n1 (al j1 (al j2 (al j3 al0)))))))))))))))) ?_
     unfold dqP
     rw [hk,if_pos rfl,ey,ex,ebn,bm (nP n),bm ly]
  ·have e1:rQ n=true:=by rw [hnok,decide_eq_false hs];rfl
   have hk:bG n=false:=by
    cases hq:bG n
    ·rfl
    ·exact absurd (ic.1 (hok.1 hq).2.1) hs
   exact fin (Cx.tell_ok pg _) rfl (Nf n) (al IL (al c1 (al IL (al i1 (al i2 (al i3 (al i4 (al i5 (al i6 (al i7 (al e1 al0))))))))))) (bad hk)
 ·have c1:ncQ n=true:=by unfold ncQ;rw [ebn];simp [hc]
  have hk:bG n=false:=by
   cases hq:bG n
   ·rfl
   ·exact absurd (hok.1 hq).1 hc
  exact fin (Cx.tell_ok pg _) rfl (Nn n) (al IL (al c1 al0)) (bad hk)
def gRdec:List Value→Option (List Prop × Value)
 | [A]=>some ([IsB A],.tuple #[qv (dqP (aj A)),.bool (bG (aj A))])
 | _=>none
theorem CX {X:Cx} (hX:X.Ok Tryz.prog):(X.pure 45 gRdec).Ok Tryz.prog:=by
 refine aA hX Tryz.func45 (by kernel_rfl) (by kernel_rfl) ?_
 intro args ps v ha hg hp
 unfold gRdec at hg
 split at hg
 ·rename_i A
  simp only [qG,qH] at hg
  obtain ⟨rfl,rfl⟩:=hg
  have hA:=hp _ (List.mem_singleton.2 rfl)
  refine ⟨.inl (pR _ _),fun w => ?_⟩
  have h:=wg (aj A) (aQ hA) w
  rw [← (show A=bv (aj A) from hA)] at h
  exact h
 ·simp at hg
def H3:Cx:=H2.pure 45 gRdec
theorem Ke (p:PT):Rep (cP (dqP (enc p))) p:=by
 have h:=qz p
 have hk:=kL p
 have e:cP (dqP (enc p))=cP (rdP (enc p)):=by
  unfold dqP rdP
  rw [hk,if_pos rfl,if_pos rfl,xt]
  unfold cP atE
  simp only
  rw [dd (nP _) (dY _),nc]
 rw [e];exact h
end Go.Proofs.YtajehiidpecknaaGreatDoor
namespace Go.Proofs.YtajehiidpecknaaGreatDoor
open Go Go.RowKit
theorem Kg:GY<RN:=by decide
theorem ib2 {A B:Nat} : IsB (bv A)∧IsB (bv B):=⟨aI _,aI _⟩
structure Lt where
 D:Nat→P4
 K:Nat→Bool
 S:P4→P4→P4
 M:P4→P4
 O:Nat→P4→P4
 E:P4→Nat
def cDe (L:Lt):List Value→Option (List Prop × Value)
 | [A]=>some ([IsB A],.tuple #[qv (L.D (aj A)),.bool (L.K (aj A))])
 | _=>none
def cMi (L:Lt):List Value→Option (List Prop × Value)
 | [A]=>some ([IsQ A],qv (L.M (q4 A)))
 | _=>none
def cOf (L:Lt):List Value→Option (List Prop × Value)
 | [A,B]=>some ([IsB A∧IsQ B],qv (L.O (aj A) (q4 B)))
 | _=>none
def cEn (L:Lt):List Value→Option (List Prop × Value)
 | [A]=>some ([IsQ A],bv (L.E (q4 A)))
 | _=>none
def HL (L:Lt):Cx:=((((Cx.none.pure 48 (gRS L.S)).pure 50 (cMi L)).pure 47 (cEn L)).pure 49 (cOf L)).pure 45 (cDe L)
def L0:Lt:=⟨dqP,bG,aT,He,tL,wqN⟩
theorem NU:cDe L0=gRdec:=rfl
theorem MD:cMi L0=gRmir:=rfl
theorem MI:cOf L0=xZ:=rfl
theorem MC:cEn L0=ya:=rfl
theorem cS0:gRS L0.S=gRsum:=rfl
theorem tW:(HL L0).Ok Tryz.prog:=by
 unfold HL
 rw [NU,MD,MI,MC,cS0]
 exact CX (tD (uv (sJ (mJ Cx.none_ok))))
theorem Fa (L:Lt)  : sfun Tryz.prog (HL L) 200 Tryz.f65 (ag Tryz.f65) []=some ([],bv 1):=by kernel_rfl
theorem Fu   (w:World):Calls Tryz.prog 65 #[] w fun e w'=>e = .returned (bv 1)∧Below w.heap.size w w':=by
 exact aw tW mixed Tryz.func65 (by kernel_rfl) (Fa L0) (al0) rfl (.inl (aC _)) w
theorem GA (L:Lt)  : sfun Tryz.prog (HL L) 200 Tryz.f46 (ag Tryz.f46) []=some ([],bv GY):=by kernel_rfl
theorem DF   (w:World):Calls Tryz.prog 46 #[] w fun e w'=>e = .returned (bv GY)∧Below w.heap.size w w':=by
 exact aw tW mixed Tryz.func46 (by kernel_rfl) (GA L0) (al0) rfl (.inl (aC _)) w
theorem Ag {X:Cx} (hX:X.Ok Tryz.prog):(X.pure 46 Ik).Ok Tryz.prog:=by
 refine aA hX Tryz.func46 (by kernel_rfl) (by kernel_rfl) ?_
 intro args ps v ha hg hp
 unfold Ik at hg
 split at hg
 ·simp only [qG,qH] at hg
  obtain ⟨rfl,rfl⟩:=hg
  exact ⟨.inl (aC _),fun w=>DF w⟩
 ·simp at hg
theorem L0K:L0.K=bG:=rfl
theorem L0D:L0.D=dqP:=rfl
theorem kNo {a:Nat} (ha:a<RN) (h:bG a=false):(!L0.K (aj (bv a)))=true:=by rw [L0K,au ha,h];rfl
theorem MF {a:Nat} (ha:a<RN) (h:bG a=true):(!L0.K (aj (bv a)))=false:=by rw [L0K,au ha,h];rfl
theorem rP (n:Nat) {p:P4} (h:p.ok):(tL n p).ok:=yr h n 256
theorem oJ {n a:Nat} (hn:n<RN) (ha:a<RN) (hka:bG a=true):wqN (tL n (dqP a))=wrN (dy n (rdP a)):=by
 obtain ⟨P,rfl,hP⟩:=nJ ha hka
 rw [Js (rP n (iG _)) (zC (iG _) (Ke P) n hn)]
 exact (mC (gA hP n hn)).symm
theorem dq0 {a:Nat} (ha:a<RN):L0.D (aj (bv a))=dqP a:=by rw [L0D,au ha]
theorem Ay (L:Lt) (n:Nat) (a:Nat):sfun Tryz.prog ((HL L).tell [(14,true)]) 200 Tryz.f30 (ag Tryz.f30) [bv n,bv a]=some ([IsB (bv a),(!L.K (aj (bv a)))=true],.tuple #[bv 0,.int .i64 2]):=by kernel_rfl
theorem Da (L:Lt) (n:Nat) (a:Nat):sfun Tryz.prog ((HL L).tell [(14,false)]) 200 Tryz.f30 (ag Tryz.f30) [bv n,bv a]=some ([IsB (bv a),(!L.K (aj (bv a)))=false,IsB (bv n)∧IsQ (qv (L.D (aj (bv a)))),IsQ (qv (L.O (aj (bv n)) (q4 (qv (L.D (aj (bv a)))))))],.tuple #[bv (L.E (q4 (qv (L.O (aj (bv n)) (q4 (qv (L.D (aj (bv a))))))))),.int .i64 0]):=by kernel_rfl
theorem yc (n:Nat) (a:Nat) (hn:n<RN) (ha:a<RN) (w:World):Calls Tryz.prog 30 #[bv n,bv a] w fun e w'=>e = .returned (.tuple #[bv (gf n a),.int .i64 (rdE a)])∧Below w.heap.size w w':=by
 cases hka:bG a
 ·rw [gG hka]
  unfold gf
  rw [hka,if_neg Bool.false_ne_true]
  exact aw (Cx.tell_ok tW _) mixed Tryz.func30 (by kernel_rfl) (Ay L0 n a) (al (aI _) (al (kNo ha hka) al0)) (by simp [aC]) (.inl (bE _ _)) w
 ·have r:=Da L0 n a
  rw [dq0 ha,kW (iG a),au hn] at r
  have l:(L0.O n (dqP a)).ok:=rP n (iG a)
  rw [kW l] at r
  have e:L0.E (L0.O n (dqP a))=wrN (dy n (rdP a)):=oJ hn ha hka
  rw [e] at r
  rw [eS hka]
  unfold gf
  rw [hka,if_pos rfl]
  exact aw (Cx.tell_ok tW _) mixed Tryz.func30 (by kernel_rfl) r (al (aI _) (al (MF ha hka) (al ⟨aI _,iB (iG a)⟩ (al (iB l) al0)))) (by simp [aC]) (.inl (bE _ _)) w
theorem Cm {X:Cx} (hX:X.Ok Tryz.prog):(X.pure 30 gPml).Ok Tryz.prog:=by
 refine aA hX Tryz.func30 (by kernel_rfl) (by kernel_rfl) ?_
 intro args ps v ha hg hp
 unfold gPml at hg
 split at hg
 ·rename_i A B
  simp only [qG,qH] at hg
  obtain ⟨rfl,rfl⟩:=hg
  obtain ⟨hA,hB⟩:=hp _ (List.mem_singleton.2 rfl)
  refine ⟨.inl (bE _ _),fun w => ?_⟩
  have h:=yc (aj A) (aj B) (aQ hA) (aQ hB) w
  rw [← (show A=bv (aj A) from hA),← (show B=bv (aj B) from hB)] at h
  exact h
 ·simp at hg
def HL2 (L:Lt):Cx:=(HL L).pure 46 Ik
theorem Jm:(HL2 L0).Ok Tryz.prog:=Ag tW
theorem Fx (L:Lt) (n:Nat):sfun Tryz.prog (HL2 L) 200 Tryz.f28 (ag Tryz.f28) [bv n]=some ([IsB (bv GY),IsB (bv n)∧IsQ (qv (L.D (aj (bv GY)))),IsQ (qv (L.O (aj (bv n)) (q4 (qv (L.D (aj (bv GY)))))))],bv (L.E (q4 (qv (L.O (aj (bv n)) (q4 (qv (L.D (aj (bv GY)))))))))):=by kernel_rfl
theorem yQ {n:Nat} (hn:n<RN):wqN (tL n (dqP GY))=u9 n:=by
 have h:=oJ (a:=enc BP) hn (vh BP) (kL BP)
 have h2:=mC (gA (qz BP) n hn)
 rw [HU] at h h2
 rw [h,h2,qN n hn]
theorem Fw (n:Nat) (hn:n<RN) (w:World):Calls Tryz.prog 28 #[bv n] w fun e w'=>e = .returned (bv (u9 n))∧Below w.heap.size w w':=by
 have r:=Fx L0 n
 rw [dq0 Kg,kW (iG GY),au hn] at r
 have l:(L0.O n (dqP GY)).ok:=rP n (iG GY)
 rw [kW l] at r
 have e:L0.E (L0.O n (dqP GY))=u9 n:=yQ hn
 rw [e] at r
 exact aw Jm mixed Tryz.func28 (by kernel_rfl) r (al (aI _) (al ⟨aI _,iB (iG GY)⟩ (al (iB l) al0))) (by simp [aC]) (.inl (aC _)) w
def cMl (f g:Nat→Nat→Nat) (e:Nat→Int):List Value→Option (List Prop × Value)
 | [A,B]=>some ([IsB A∧IsB B],.tuple #[bv (f (aj A) (aj B)),.int .i64 (e (aj B))])
 | _=>none
def HM (f g:Nat→Nat→Nat) (e:Nat→Int):Cx:=Cx.none.pure 30 (cMl f g e)
theorem MS:cMl gf gf rdE=gPml:=rfl
theorem Mk:(HM gf gf rdE).Ok Tryz.prog:=by
 unfold HM
 rw [MS]
 exact Cm Cx.none_ok
theorem D5 (f g:Nat→Nat→Nat) (e:Nat→Int) (a:Nat):sfun Tryz.prog (HM f g e) 100 Tryz.f38 (ag Tryz.f38) [bv a]=some ([IsB (bv 8)∧IsB (bv a)],.tuple #[bv (f (aj (bv 8)) (aj (bv a))),.int .i64 (e (aj (bv a)))]):=by kernel_rfl
theorem yY {a:Nat} (ha:a<RN):gf 8 a=rY a:=by
 cases hka:bG a
 ·unfold gf rY
  rw [hka,if_neg Bool.false_ne_true,if_neg Bool.false_ne_true]
 ·obtain ⟨P,rfl,_⟩:=nJ ha hka
  rw [qu 8 (by decide),xF]
theorem Fq (a:Nat) (ha:a<RN) (w:World):Calls Tryz.prog 38 #[bv a] w fun e w'=>e = .returned (.tuple #[bv (rY a),.int .i64 (rdE a)])∧Below w.heap.size w w':=by
 have r:=D5 gf gf rdE a
 rw [au (n:=8) (by decide),au ha,yY ha] at r
 exact aw Mk mixed Tryz.func38 (by kernel_rfl) r (al ib2 al0) (by simp [aC]) (.inl (bE _ _)) w
def cCl (f:Nat→Nat) (e:Nat→Int):List Value→Option (List Prop × Value)
 | [A]=>some ([IsB A],.tuple #[bv (f (aj A)),.int .i64 (e (aj A))])
 | _=>none
def HN (f:Nat→Nat) (e:Nat→Int):Cx:=(Cx.none.pure 38 (cCl f e)).pure 65 gZer
end Go.Proofs.YtajehiidpecknaaGreatDoor
