import Derived.Test.YtajehiidpecknaaGreatDoorRefA
set_option linter.all false
namespace Go.Proofs.YtajehiidpecknaaGreatDoor.Sh.Q5
open Go Go.RowKit
attribute [local go_sem] ju jG nL jv EM CV Ja I1 FW H5 sS rV wV xS yg x9 qz tn
attribute [local go_sem ↓] Go.wp_at_zero Go.wp_at_succ
structure WRelP (w wr:World) (kb g Z:Nat) (f:Nat→BitVec 8) (st:St) (q:Nat) (W:Nat→BitVec 64) (k:Nat) (x:BitVec 64):Prop where
 base:ORel w wr kb g Z f st
 pos:kb<q∧g<q∧w.heap.size+2≤q
 row:wr.heap[q]? = some (.cells ((cJ W k).setIfInBounds k (U x)) 109 (0,0))
theorem zQ (W:Nat→BitVec 64) (k:Nat) (hk:k<80):(cJ W k).setIfInBounds k (U 0)=cJ W k:=by
 apply Array.ext_getElem?
 intro i
 rw [Array.getElem?_setIfInBounds]
 by_cases e:k=i
 ·subst e;rw [if_pos rfl,if_pos (by rw [aZ];exact hk),en W k k hk,upto,if_neg (Nat.lt_irrefl _)]
 ·rw [if_neg e]
theorem WRel.toP {w wr:World} {kb g Z:Nat} {f:Nat→BitVec 8} {st:St} {q:Nat} {W:Nat→BitVec 64} {k:Nat} (h:WRel w wr kb g Z f st q W k) (hk:k<80):WRelP w wr kb g Z f st q W k 0 :=
 ⟨h.base,h.pos,by rw [zQ W k hk];exact h.row⟩
theorem WRelP.cell {w wr:World} {kb g Z:Nat} {f:Nat→BitVec 8} {st:St} {q:Nat} {W:Nat→BitVec 64} {k:Nat} {x:BitVec 64} (h:WRelP w wr kb g Z f st q W k x) (hk:k<80):wr.cell? ⟨q,k,none⟩=some (U x):=by
 rw [cell_of_row wr _ k _ _ _ h.row,Array.getElem?_setIfInBounds,if_pos rfl,if_pos (by rw [aZ];exact hk)]
theorem WRelP.froz {w wr:World} {kb g Z:Nat} {f:Nat→BitVec 8} {st:St} {q:Nat} {W:Nat→BitVec 64} {k:Nat} {x:BitVec 64} (h:WRelP w wr kb g Z f st q W k x):wr.frozen? ⟨q,k,none⟩=false:=frozen_of_row _ _ _ _ _ h.row
theorem WRelP.put {w wr:World} {kb g Z:Nat} {f:Nat→BitVec 8} {st:St} {q:Nat} {W:Nat→BitVec 64} {k:Nat} {x y:BitVec 64} (h:WRelP w wr kb g Z f st q W k x):WRelP w (wr.setCell ⟨q,k,none⟩ (U y)) kb g Z f st q W k y :=
 ⟨h.base.setAbove q k _ h.pos,h.pos,by rw [heap_setCell_same _ _ _ _ _ _ h.row,Array.setIfInBounds_setIfInBounds]⟩
theorem WRelP.next {w wr:World} {kb g Z:Nat} {f:Nat→BitVec 8} {st:St} {q:Nat} {W:Nat→BitVec 64} {k:Nat} {x:BitVec 64} (h:WRelP w wr kb g Z f st q W k x) (hx:x=W k):WRel w wr kb g Z f st q W (k+1) :=
 ⟨h.base,h.pos,by rw [←ow,←hx];exact h.row⟩
theorem WRelP.drew {w wr:World} {kb g Z:Nat} {f:Nat→BitVec 8} {st:St} {q:Nat} {W:Nat→BitVec 64} {k:Nat} {x:BitVec 64} (h:WRelP w wr kb g Z f st q W k x):WRelP w { wr with drawn:=wr.drawn+1 } kb g Z f st q W k x:=⟨h.base.drewN 1,h.pos,h.row⟩
def xΩ (w:World) (kb g Z:Nat) (f:Nat→BitVec 8) (st:St) (q:Nat) (W:Nat→BitVec 64) (j k t:Nat) (X:BitVec 64) (Y:BitVec 8):Nat→(Nat→Value)→World→Prop
 | 0,_,wr=>wr.cell? ⟨q,k,none⟩=some (U X)∧wr.cell? ⟨g,128*j+8*k+t,none⟩=some (B Y)∧WRelP w wr kb g Z f st q W k X
 | _,_,wr=>WRelP w wr kb g Z f st q W k (X <<< 8 ||| Y.setWidth 64)
def xfn (q g Z c j k t:Nat) (X:BitVec 64) (Y:BitVec 8):Nat→Value
 | 0 => .int .i64 (k:Int)
 | 1 => .int .i64 (k:Int)
 | 2 => .pointer (some ⟨q,k,none⟩)
 | 3=>U X
 | 4=>U (X <<< 8)
 | 5 => .slice (some ⟨g,0,none⟩) Z c
 | 6 => .int .i64 (128*(j:Int))
 | 7 => .int .i64 (k:Int)
 | 8 => .int .i64 (8*(k:Int))
 | 9 => .int .i64 (128*(j:Int)+8*(k:Int))
 | 10 => .int .i64 (t:Int)
 | 11 => .int .i64 (128*(j:Int)+8*(k:Int)+(t:Int))
 | 12 => .pointer (some ⟨g,128*j+8*k+t,none⟩)
 | 13=>B Y
 | 14=>U (Y.setWidth 64)
 | 15=>U (X <<< 8 ||| Y.setWidth 64)
 | 16 => .pointer (some ⟨q,k,none⟩)
 | _=>undef
set_option maxRecDepth 100000 in
set_option maxHeartbeats 4000000 in
theorem AU (m:Nat→BitVec 8) (ad:Option Addr) (n cap:Nat) (hn:n<140737488354800) (w:World) (hm:Src w ad n cap m) :
  Calls Tryz.prog 40 #[.slice ad n cap] w fun e w'=>e = .returned (.agg (dm (gg aW cj m n)))∧Below w.heap.size w w':=by
 have HM:Hid (Src w ad n cap m):=hm
 clear hm
 have hz:=xY
 have hz8:=eP
 have HB0:Hid (∀ o1 o2:Obj,Below w.heap.size w ((w.alloc o1).alloc o2)):=fun o1 o2=>((Below.refl _ _).alloc (Nat.le_refl _) _).alloc (by simp) _
 go_enter Tryz.func40,Tryz.ntmps40
 go_wp2_with fail
 refine (Cg _).mono ?_
 rintro e w1 ⟨rfl,hb1⟩
 have hs1:w.heap.size+2≤w1.heap.size:=Nat.le_trans (by simp) hb1.size
 have HB1:Hid (Below (w.heap.size+2) ((w.alloc (.cells zb 29)).alloc (.cells cj.row 86)) w1):=hb1.mono (by simp)
 clear hb1
 go_wp2_with (refine fI rfl 109 _ _ rfl w1.heap.size 0 (cJ aW 80) rfl rfl (by rw [aZ];exact aw (heap_alloc_new _ _) 0 80 (by simp)) (by rw [aZ];kernel_rfl) (by exact kL _ 80) ?_;intro w2 hw2;have HW2:Hid (∃ C:Array Value,C.size=80∧w2=(w1.alloc (.cells C 109)).setCells w1.heap.size 0 (cJ aW 80).toList):=⟨_,rfl,hw2⟩;clear hw2)
 have BW2:Below w.heap.size w w2:=by
  obtain ⟨C,_,hw2⟩:=HW2.out
  rw [hw2]
  exact (HB0.out _ _).trans ((HB1.out.mono (by omega)).trans (af _ (by omega) _ _ _ ((Below.refl _ _).alloc (by omega) _)))
 refine (Cd m ad n cap hn w2 (HM.out.below BW2 (Nat.le_refl _))).mono ?_
 rintro e w3 ⟨v,rfl,ho⟩
 obtain ⟨Z,hZ⟩ : ∃ Z,Z=128*ga n:=⟨_,rfl⟩
 rw [←hZ] at ho
 have hZ0:0<Z:=by rw [hZ];unfold ga;omega
 obtain ⟨g,c,hv,-,-,hgc,-⟩:=ho.form hZ0
 have HOR:Hid (ORel w w3 w1.heap.size g Z (aG m n) cj):=by
  obtain ⟨C,hC,hw2⟩:=HW2.out
  exact ORel.start C hC HB1.out hw2 ho hZ0 hv
 rw [hv]
 have HZ:Hid (Z=128*ga n):=hZ
 have hZ1:(Z:Int)<140737488355000:=by rw [hZ];unfold ga;omega
 clear hZ ho hv BW2 HW2 HB1 hz HM
 generalize w1.heap.size=kb at HOR ⊢
 clear hs1
 go_wp2_with fail
 go_loopw [6] (fun i wr => ∃ j:Nat,128*j≤Z∧i = .int .i64 (128*(j:Int))∧ORel w wr kb g Z (aG m n) (blocks aW cj (aG m n) j)) (fun i _=>Z - (intOf i).toNat)
 case atStart=>exact ⟨0,by omega,rfl,HOR.out⟩
 case round =>
  obtain ⟨j,hj,rfl,hr⟩:=hrel
  have HRR:Hid (ORel w _ kb g Z (aG m n) (blocks aW cj (aG m n) j)):=hr
  clear hr HOR
  by_cases hlt:128*j<Z
  ·have hlt1:128*(j:Int)<(Z:Int):=by omega
   have hdvd:128*j+128≤Z:=by have:=HZ.out;omega
   obtain ⟨st,hst⟩ : ∃ st,st=blocks aW cj (aG m n) j:=⟨_,rfl⟩
   rw [←hst] at HRR
   have HST:Hid (st=blocks aW cj (aG m n) j):=hst
   clear hst
   obtain ⟨W,hW⟩ : ∃ W,W=cN (fun i=>aG m n (128*j+i)):=⟨_,rfl⟩
   have HSC:Hid (Sched (fun i=>aG m n (128*j+i)) W):=by rw [hW];exact eU _
   have HWD:Hid (W=cN (fun i=>aG m n (128*j+i))):=hW
   clear hW
   have HW0:Hid (WRel w (wr.alloc (.cells (List.replicate 80 (Value.int .u64 0)).toArray 109)) kb g Z (aG m n) st wr.heap.size W 0):=WRel.start HRR.out W
   go_wp2_with fail
   generalize wr.heap.size=qb at HW0 ⊢
   go_loopw [8,32] (fun _ i wq => ∃ k:Nat,k≤16∧i = .int .i64 k∧WRel w wq kb g Z (aG m n) st qb W k) (fun _ i _=>16 - (intOf i).toNat)
   case atStart=>exact ⟨0,by omega,rfl,HW0.out⟩
   case round =>
    obtain ⟨k,hk,rfl,hr⟩:=hrel
    have HR:Hid (WRel w _ kb g Z (aG m n) st qb W k):=hr
    clear HW0
    by_cases hlk:k<16
    ·clear hr
     have x0:(k:Int)<16:=by omega
     have x80:(k:Int)<80:=by omega
     obtain ⟨F,hF⟩ : ∃ F,F=fun i=>aG m n (128*j+8*k+i):=⟨_,rfl⟩
     have HWK:Hid (cM F 8=W k):=by
      show cM F 8=W k
      rw [Az,HSC.out.first k hlk,hF]
      exact oM fun i _=>by rw [Nat.add_assoc]
     have HF:Hid (∀ i,F i=aG m n (128*j+8*k+i)):=fun i=>by rw [hF]
     clear hF
     have HP0:Hid (WRelP w wr kb g Z (aG m n) st qb W k (cM F 0)):=HR.out.toP (by omega)
     go_wp2_with fail
     go_loopw [9,35] (fun _ i wq => ∃ t:Nat,t≤8∧i = .int .i64 t∧WRelP w wq kb g Z (aG m n) st qb W k (cM F t)) (fun _ i _=>8 - (intOf i).toNat)
     case atStart=>exact ⟨0,by omega,rfl,HP0.out⟩
     case round =>
      obtain ⟨t,ht,rfl,hr⟩:=hrel
      have HP:Hid (WRelP w _ kb g Z (aG m n) st qb W k (cM F t)):=hr
      clear HP0
      by_cases hlt8:t<8
      ·have x8:(t:Int)<8:=by omega
       have d0:=hr.base.msg (128*j+8*k+t) (by omega)
       rw [←HF.out t] at d0
       have c1:=hr.cell (by omega)
       have f1:=hr.froz
       have hgq:g≠qb:=by have:=hr.pos;omega
       clear hr
       obtain ⟨X,hX⟩ : ∃ X,X=cM F t:=⟨_,rfl⟩
       obtain ⟨Y,hY⟩ : ∃ Y,Y=F t:=⟨_,rfl⟩
       rw [←hX] at c1
       rw [←hY] at d0
       have HXY:Hid (X <<< 8 ||| Y.setWidth 64=cM F (t+1)):=by rw [hX,hY];rfl
       have HPX:Hid (WRelP w wr kb g Z (aG m n) st qb W k X):=by rw [hX];exact HP.out
       clear hX hY HP
       have y0:(0:Int)≤128*(j:Int)+8*(k:Int)+(t:Int):=by omega
       have y1:128*(j:Int)+8*(k:Int)+(t:Int)<(Z:Int):=by omega
       have w0:IntKind.i64.wrap (8*(k:Int))=8*(k:Int):=by simp [IntKind.wrap,IntKind.bits,IntKind.signed];omega
       have w1:IntKind.i64.wrap (128*(j:Int)+8*(k:Int))=128*(j:Int)+8*(k:Int):=by simp [IntKind.wrap,IntKind.bits,IntKind.signed];omega
       have w2':IntKind.i64.wrap (128*(j:Int)+8*(k:Int)+(t:Int))=128*(j:Int)+8*(k:Int)+(t:Int):=by simp [IntKind.wrap,IntKind.bits,IntKind.signed];omega
       have t0:(128*(j:Int)+8*(k:Int)+(t:Int)).toNat=128*j+8*k+t:=by omega
       go_wp2_with fail
       refine RT.wp_rgn' [17] (xfn qb g Z c j k t X Y) (fun _=>0) (xΩ w kb g Z (aG m n) st qb W j k t X Y) (by kernel_rfl) (by kernel_rfl) ?_ ?_ ?_
       ·exact ⟨c1,d0,HPX.out.drew⟩
       ·refine ⟨?_,?_,?_,?_,?_,?_,?_,?_,?_,?_,?_,?_,?_,?_,?_,?_,?_,?_,trivial⟩
        ·refine RT.ObT.pure rfl rfl rfl (fun a V hf hp ev he hc WW => ?_)
         have q8:ev (.tmp 8) = .int .i64 (k:Int):=(he (.tmp 8)).trans (hf 8 rfl)
         simp only [qF,qD,qE,execOp];rw [q8]
         first | (go_simp;done) | (go_simp;rfl)
        ·refine RT.ObT.pure rfl rfl rfl (fun a V hf hp ev he hc WW => ?_)
         have q8:ev (.tmp 8) = .int .i64 (k:Int):=(he (.tmp 8)).trans (hf 8 rfl)
         simp only [qF,qD,qE,execOp];rw [q8]
         first | (go_simp;done) | (go_simp;rfl)
        ·refine RT.ObT.pure rfl rfl rfl (fun a V hf hp ev he hc WW => ?_)
         have q7:ev (.tmp 7) = .pointer (some ⟨qb,0,none⟩):=(he (.tmp 7)).trans (hf 7 rfl)
         have q39:ev (.tmp 39) = .int .i64 (k:Int):=(he (.tmp 39)).trans (hp 1 39 rfl)
         simp only [qF,qD,qE,execOp];rw [q7,q39]
         first | (go_simp;done) | (go_simp;rfl)
        ·refine RT.ObT.silent rfl (fun a WW k0 V hO hf hp hk => ?_)
         have hk0:k0≤0:=hk
         obtain rfl:k0=0:=by omega
         have hcl:=hO.1
         refine RT.ob_val rfl (RT.wanted_none rfl) (fun ev he hc => ?_) ⟨rfl,hO⟩
         have qq:ev (.tmp 40) = .pointer (some ⟨qb,k,none⟩):=(he (.tmp 40)).trans (hp 2 40 rfl)
         simp only [qF,qD,qE,execOp];rw [qq];go_simp;rfl
        ·refine RT.ObT.pure rfl rfl rfl (fun a V hf hp ev he hc WW => ?_)
         have q41:ev (.tmp 41)=U X:=(he (.tmp 41)).trans (hp 3 41 rfl)
         simp only [qF,qD,qE,execOp];rw [q41]
         try simp only [hc]
         first | (go_simp;done) | (go_simp;rfl)
        ·refine RT.ObT.pure rfl rfl rfl (fun a V hf hp ev he hc WW => ?_)
         have q5:ev (.tmp 5) = .slice (some ⟨g,0,none⟩) Z c:=(he (.tmp 5)).trans (hf 5 rfl)
         simp only [qF,qD,qE,execOp];rw [q5]
         first | (go_simp;done) | (go_simp;rfl)
        ·refine RT.ObT.pure rfl rfl rfl (fun a V hf hp ev he hc WW => ?_)
         have q6:ev (.tmp 6) = .int .i64 (128*(j:Int)):=(he (.tmp 6)).trans (hf 6 rfl)
         simp only [qF,qD,qE,execOp];rw [q6]
         first | (go_simp;done) | (go_simp;rfl)
        ·refine RT.ObT.pure rfl rfl rfl (fun a V hf hp ev he hc WW => ?_)
         have q8:ev (.tmp 8) = .int .i64 (k:Int):=(he (.tmp 8)).trans (hf 8 rfl)
         simp only [qF,qD,qE,execOp];rw [q8]
         first | (go_simp;done) | (go_simp;rfl)
        ·refine RT.ObT.pure rfl rfl rfl (fun a V hf hp ev he hc WW => ?_)
         have q45:ev (.tmp 45) = .int .i64 (k:Int):=(he (.tmp 45)).trans (hp 7 45 rfl)
         simp only [qF,qD,qE,execOp];rw [q45]
         try simp only [hc]
         first | (go_simp;done) | (go_simp;rfl)
        ·refine RT.ObT.pure rfl rfl rfl (fun a V hf hp ev he hc WW => ?_)
         have q44:ev (.tmp 44) = .int .i64 (128*(j:Int)):=(he (.tmp 44)).trans (hp 6 44 rfl)
         have q46:ev (.tmp 46) = .int .i64 (8*(k:Int)):=(he (.tmp 46)).trans (hp 8 46 rfl)
         simp only [qF,qD,qE,execOp];rw [q44,q46]
         first | (go_simp;done) | (go_simp;rfl)
        ·refine RT.ObT.pure rfl rfl rfl (fun a V hf hp ev he hc WW => ?_)
         have q9:ev (.tmp 9) = .int .i64 (t:Int):=(he (.tmp 9)).trans (hf 9 rfl)
         simp only [qF,qD,qE,execOp];rw [q9]
         first | (go_simp;done) | (go_simp;rfl)
        ·refine RT.ObT.pure rfl rfl rfl (fun a V hf hp ev he hc WW => ?_)
         have q47:ev (.tmp 47) = .int .i64 (128*(j:Int)+8*(k:Int)):=(he (.tmp 47)).trans (hp 9 47 rfl)
         have q48:ev (.tmp 48) = .int .i64 (t:Int):=(he (.tmp 48)).trans (hp 10 48 rfl)
         simp only [qF,qD,qE,execOp];rw [q47,q48]
         first | (go_simp;done) | (go_simp;rfl)
        ·refine RT.ObT.pure rfl rfl rfl (fun a V hf hp ev he hc WW => ?_)
         have q43:ev (.tmp 43) = .slice (some ⟨g,0,none⟩) Z c:=(he (.tmp 43)).trans (hp 5 43 rfl)
         have q49:ev (.tmp 49) = .int .i64 (128*(j:Int)+8*(k:Int)+(t:Int)):=(he (.tmp 49)).trans (hp 11 49 rfl)
         simp only [qF,qD,qE,execOp];rw [q43,q49]
         first | (go_simp;done) | (go_simp;rfl)
        ·refine RT.ObT.silent rfl (fun a WW k0 V hO hf hp hk => ?_)
         have hk0:k0≤0:=hk
         obtain rfl:k0=0:=by omega
         have hcl:=hO.2.1
         refine RT.ob_val rfl (RT.wanted_none rfl) (fun ev he hc => ?_) ⟨rfl,hO⟩
         have qq:ev (.tmp 50) = .pointer (some ⟨g,128*j+8*k+t,none⟩):=(he (.tmp 50)).trans (hp 12 50 rfl)
         simp only [qF,qD,qE,execOp];rw [qq];go_simp;rfl
        ·refine RT.ObT.pure rfl rfl rfl (fun a V hf hp ev he hc WW => ?_)
         have q51:ev (.tmp 51)=B Y:=(he (.tmp 51)).trans (hp 13 51 rfl)
         simp only [qF,qD,qE,execOp];rw [q51]
         first | (go_simp;done) | (go_simp;rfl)
        ·refine RT.ObT.pure rfl rfl rfl (fun a V hf hp ev he hc WW => ?_)
         have q42:ev (.tmp 42)=U (X <<< 8):=(he (.tmp 42)).trans (hp 4 42 rfl)
         have q52:ev (.tmp 52)=U (Y.setWidth 64):=(he (.tmp 52)).trans (hp 14 52 rfl)
         simp only [qF,qD,qE,execOp];rw [q42,q52]
         first | (go_simp;done) | (go_simp;rfl)
        ·refine RT.ObT.pure rfl rfl rfl (fun a V hf hp ev he hc WW => ?_)
         have q7:ev (.tmp 7) = .pointer (some ⟨qb,0,none⟩):=(he (.tmp 7)).trans (hf 7 rfl)
         have q38:ev (.tmp 38) = .int .i64 (k:Int):=(he (.tmp 38)).trans (hp 0 38 rfl)
         simp only [qF,qD,qE,execOp];rw [q7,q38]
         first | (go_simp;done) | (go_simp;rfl)
        ·refine RT.ObT.loud (j:=0) rfl (fun a WW V hO hf hp => ?_)
         have e1:a.eval (.tmp 54) = .pointer (some ⟨qb,k,none⟩):=hp 16 54 rfl
         have e2:a.eval (.tmp 53)=U (X <<< 8 ||| Y.setWidth 64):=hp 15 53 rfl
         obtain ⟨o1,o2,o3⟩:=hO
         have o4:=o3.froz
         refine RT.ob_skip (w':=WW.setCell ⟨qb,k,none⟩ (U (X <<< 8 ||| Y.setWidth 64))) rfl (RT.wanted_none rfl) (fun ev he hc => ?_) ⟨_,rfl,o3.put⟩
         have h1:=(he (.tmp 54)).trans e1
         have h2:=(he (.tmp 53)).trans e2
         simp only [qF,qD,qE,execOp];rw [h1,h2];go_simp
       ·intro wx V hO
        have HO:Hid (WRelP w wx kb g Z (aG m n) st qb W k (cM F (t+1))):=by rw [←HXY.out];exact hO
        clear hO
        simp only [RT.lay,RT.val,RT.at',xfn,Act.put]
        go_wp2
        go_roundw
        case rel =>
         first | exact ⟨t+1,by omega,by go_num,HO.out⟩ | ((repeat apply Exists.intro);exact ⟨⟨t+1,by omega,by go_num,HO.out⟩,rfl⟩)
        case measure=>simp [intOf];omega
      ·obtain rfl:t=8:=by omega
       clear hr
       have HN8:Hid (WRel w wr kb g Z (aG m n) st qb W (k+1)):=HP.out.next HWK.out
       go_wp2
       go_roundw
       case rel =>
        first | exact ⟨k+1,by omega,by go_num,HN8.out⟩ | ((repeat apply Exists.intro);exact ⟨⟨k+1,by omega,by go_num,HN8.out⟩,rfl⟩)
       case measure=>simp [intOf];omega
    ·obtain rfl:k=16:=by omega
     clear hr
     go_wp2_with fail
     go_loopw [10] (fun i wq => ∃ k:Nat,16≤k∧k≤80∧i = .int .i64 k∧WRel w wq kb g Z (aG m n) st qb W k) (fun i _=>80 - (intOf i).toNat)
     case atStart=>exact ⟨16,by omega,by omega,rfl,HR.out⟩
     case round =>
      obtain ⟨k,hk1,hk,rfl,hr⟩:=hrel
      have HR2:Hid (WRel w _ kb g Z (aG m n) st qb W k):=hr
      clear HR
      by_cases hlk2:k<80
      ·have e1:(2:Int)≤(k:Int):=by omega
       have e2:(7:Int)≤(k:Int):=by omega
       have e3:(15:Int)≤(k:Int):=by omega
       have e4:(16:Int)≤(k:Int):=by omega
       have l0:(k:Int)<80:=by omega
       have l1:(k:Int) - 2<80:=by omega
       have l2:(k:Int) - 7<80:=by omega
       have l3:(k:Int) - 15<80:=by omega
       have l4:(k:Int) - 16<80:=by omega
       have w1':IntKind.i64.wrap ((k:Int) - 2)=(k:Int) - 2:=by simp [IntKind.wrap,IntKind.bits,IntKind.signed];omega
       have w2':IntKind.i64.wrap ((k:Int) - 7)=(k:Int) - 7:=by simp [IntKind.wrap,IntKind.bits,IntKind.signed];omega
       have w3':IntKind.i64.wrap ((k:Int) - 15)=(k:Int) - 15:=by simp [IntKind.wrap,IntKind.bits,IntKind.signed];omega
       have w4:IntKind.i64.wrap ((k:Int) - 16)=(k:Int) - 16:=by simp [IntKind.wrap,IntKind.bits,IntKind.signed];omega
       have n1:k - 2≠k:=by omega
       have n2:k - 7≠k:=by omega
       have n3:k - 15≠k:=by omega
       have n4:k - 16≠k:=by omega
       have t1:((k:Int) - 2).toNat=k - 2:=by omega
       have t2:((k:Int) - 7).toNat=k - 7:=by omega
       have t3:((k:Int) - 15).toNat=k - 15:=by omega
       have t4:((k:Int) - 16).toNat=k - 16:=by omega
       have c1:=hr.cell k (by omega)
       have f1:=hr.froz k
       have d1:=hr.cell (k - 2) (by omega)
       have d2:=hr.cell (k - 7) (by omega)
       have d3:=hr.cell (k - 15) (by omega)
       have d4:=hr.cell (k - 16) (by omega)
       rw [upto,if_pos (by omega)] at d1 d2 d3 d4
       clear hr
       go_wp2_with fail
       go_quiet ((go_at_call 79;exact Calls.quiet_of_same (zf _ _ (by decide) (by decide) _)))
       go_wp2_with fail
       obtain ⟨wq,hwq⟩ : ∃ wq,wq=wr.drewN nq:=⟨_,rfl⟩
       rw [←hwq]
       have HR3:Hid (WRel w wq kb g Z (aG m n) st qb W k):=by rw [hwq];exact HR2.out.drewN nq
       clear hwq c1 f1 d1 d2 d3 d4
       have c1:=HR3.out.cell k (by omega)
       have f1:=HR3.out.froz k
       have d1:=HR3.out.cell (k - 2) (by omega)
       have d2:=HR3.out.cell (k - 7) (by omega)
       have d3:=HR3.out.cell (k - 15) (by omega)
       have d4:=HR3.out.cell (k - 16) (by omega)
       rw [upto,if_pos (by omega)] at d1 d2 d3 d4
       go_quiet ((go_at_call 79;exact Calls.quiet_of_same (zf _ _ (by decide) (by decide) _)))
       go_wp2_with fail
       go_region_held3 (fun w'=>w'.cell? ⟨qb,k - 7,none⟩=some (U (W (k - 7)))∧w'.cell? ⟨qb,k - 16,none⟩=some (U (W (k - 16)))) (first | exact ⟨d2,d4⟩ | exact ⟨(jn _ _ _ _ _ n2).trans d2,(jn _ _ _ _ _ n4).trans d4⟩) (fail)
       have hl:(gD (W (k - 2)) 19 ^^^ gD (W (k - 2)) 61 ^^^ W (k - 2) >>> 6)+W (k - 7)+(gD (W (k - 15)) 1 ^^^ gD (W (k - 15)) 8 ^^^ W (k - 15) >>> 7)+W (k - 16)=W k:=(HSC.out.later k hk1 hlk2).symm
       rw [hl]
       clear hl
       go_wp2
       go_roundw
       case rel =>
        first | exact ⟨k+1,by omega,by omega,by go_num,(HR3.out.drewN _).set⟩ | ((repeat apply Exists.intro);exact ⟨⟨k+1,by omega,by omega,by go_num,(HR3.out.drewN _).set⟩,rfl⟩)
       case measure=>simp [intOf];omega
      ·obtain rfl:k=80:=by omega
       clear hr
       obtain ⟨sa,sb,sc,sd,se,sf,sg,sh⟩:=st
       have c0:wr.cell? ⟨w.heap.size+1,0,none⟩=some (U sa):=cell_of_row _ _ 0 _ _ _ HR2.out.base.hrow
       have c1:wr.cell? ⟨w.heap.size+1,1,none⟩=some (U sb):=cell_of_row _ _ 1 _ _ _ HR2.out.base.hrow
       have c2:wr.cell? ⟨w.heap.size+1,2,none⟩=some (U sc):=cell_of_row _ _ 2 _ _ _ HR2.out.base.hrow
       have c3:wr.cell? ⟨w.heap.size+1,3,none⟩=some (U sd):=cell_of_row _ _ 3 _ _ _ HR2.out.base.hrow
       have c4:wr.cell? ⟨w.heap.size+1,4,none⟩=some (U se):=cell_of_row _ _ 4 _ _ _ HR2.out.base.hrow
       have c5:wr.cell? ⟨w.heap.size+1,5,none⟩=some (U sf):=cell_of_row _ _ 5 _ _ _ HR2.out.base.hrow
       have c6:wr.cell? ⟨w.heap.size+1,6,none⟩=some (U sg):=cell_of_row _ _ 6 _ _ _ HR2.out.base.hrow
       have c7:wr.cell? ⟨w.heap.size+1,7,none⟩=some (U sh):=cell_of_row _ _ 7 _ _ _ HR2.out.base.hrow
       have HRS:Hid (RRel w (wr.alloc (.cells (St.row ⟨sa,sb,sc,sd,se,sf,sg,sh⟩) 86)) kb g Z (aG m n) ⟨sa,sb,sc,sd,se,sf,sg,sh⟩ qb W wr.heap.size ⟨sa,sb,sc,sd,se,sf,sg,sh⟩):=RRel.start HR2.out _
       go_wp2_with fail
       generalize wr.heap.size=pb at HRS ⊢
       clear c0 c1 c2 c3 c4 c5 c6 c7 HR2
       go_loopw [111] (fun i wq => ∃ (k:Nat) (r:St),k≤80∧i = .int .i64 k∧r=rounds aW W ⟨sa,sb,sc,sd,se,sf,sg,sh⟩ k∧RRel w wq kb g Z (aG m n) ⟨sa,sb,sc,sd,se,sf,sg,sh⟩ qb W pb r) (fun i _=>80 - (intOf i).toNat)
       case atStart=>exact ⟨0,_,by omega,rfl,rfl,HRS.out⟩
       case round =>
        obtain ⟨k,r,hk,rfl,hrr,hr⟩:=hrel
        obtain ⟨ra,rb,rc,rd,re,rf,rg,rh⟩:=r
        have HRD:Hid (⟨ra,rb,rc,rd,re,rf,rg,rh⟩=rounds aW W ⟨sa,sb,sc,sd,se,sf,sg,sh⟩ k):=hrr
        have HR4:Hid (RRel w _ kb g Z (aG m n) ⟨sa,sb,sc,sd,se,sf,sg,sh⟩ qb W pb ⟨ra,rb,rc,rd,re,rf,rg,rh⟩):=hr
        clear hr hrr HRS
        by_cases hlk3:k<80
        ·have x64:(k:Int)<80:=by omega
         have e0:wr.cell? ⟨pb,0,none⟩=some (U ra):=HR4.out.scell 0 (by omega)
         have e1:wr.cell? ⟨pb,1,none⟩=some (U rb):=HR4.out.scell 1 (by omega)
         have e2:wr.cell? ⟨pb,2,none⟩=some (U rc):=HR4.out.scell 2 (by omega)
         have e3:wr.cell? ⟨pb,3,none⟩=some (U rd):=HR4.out.scell 3 (by omega)
         have e4:wr.cell? ⟨pb,4,none⟩=some (U re):=HR4.out.scell 4 (by omega)
         have e5:wr.cell? ⟨pb,5,none⟩=some (U rf):=HR4.out.scell 5 (by omega)
         have e6:wr.cell? ⟨pb,6,none⟩=some (U rg):=HR4.out.scell 6 (by omega)
         have e7:wr.cell? ⟨pb,7,none⟩=some (U rh):=HR4.out.scell 7 (by omega)
         have kt:=HR4.out.base.base.ktab k hlk3
         have wt:=HR4.out.wcell k hlk3
         go_wp2_with fail
         go_quiet (fail)
         go_wp2_with fail
         obtain ⟨v1,hqv1⟩ : ∃ x,x=wr.drewN nq:=⟨_,rfl⟩
         rw [←hqv1]
         have HR5:Hid (RRel w v1 kb g Z (aG m n) ⟨sa,sb,sc,sd,se,sf,sg,sh⟩ qb W pb ⟨ra,rb,rc,rd,re,rf,rg,rh⟩):=by rw [hqv1];exact HR4.out.drewN nq
         clear hqv1 e0 e1 e2 e3 e4 e5 e6 e7 kt wt
         have e0:v1.cell? ⟨pb,0,none⟩=some (U ra):=HR5.out.scell 0 (by omega)
         have e1:v1.cell? ⟨pb,1,none⟩=some (U rb):=HR5.out.scell 1 (by omega)
         have e2:v1.cell? ⟨pb,2,none⟩=some (U rc):=HR5.out.scell 2 (by omega)
         have e3:v1.cell? ⟨pb,3,none⟩=some (U rd):=HR5.out.scell 3 (by omega)
         have e4:v1.cell? ⟨pb,4,none⟩=some (U re):=HR5.out.scell 4 (by omega)
         have e5:v1.cell? ⟨pb,5,none⟩=some (U rf):=HR5.out.scell 5 (by omega)
         have e6:v1.cell? ⟨pb,6,none⟩=some (U rg):=HR5.out.scell 6 (by omega)
         have e7:v1.cell? ⟨pb,7,none⟩=some (U rh):=HR5.out.scell 7 (by omega)
         have kt:=HR5.out.base.base.ktab k hlk3
         have wt:=HR5.out.wcell k hlk3
         go_quiet ((go_at_call 79;exact Calls.quiet_of_same (zf _ _ (by decide) (by decide) _)))
         go_wp2_with fail
         obtain ⟨v2,hqv2⟩ : ∃ x,x=v1.drewN nq:=⟨_,rfl⟩
         rw [←hqv2]
         have HR6:Hid (RRel w v2 kb g Z (aG m n) ⟨sa,sb,sc,sd,se,sf,sg,sh⟩ qb W pb ⟨ra,rb,rc,rd,re,rf,rg,rh⟩):=by rw [hqv2];exact HR5.out.drewN nq
         clear hqv2 e0 e1 e2 e3 e4 e5 e6 e7 kt wt
         have e0:v2.cell? ⟨pb,0,none⟩=some (U ra):=HR6.out.scell 0 (by omega)
         have e1:v2.cell? ⟨pb,1,none⟩=some (U rb):=HR6.out.scell 1 (by omega)
         have e2:v2.cell? ⟨pb,2,none⟩=some (U rc):=HR6.out.scell 2 (by omega)
         have e3:v2.cell? ⟨pb,3,none⟩=some (U rd):=HR6.out.scell 3 (by omega)
         have e4:v2.cell? ⟨pb,4,none⟩=some (U re):=HR6.out.scell 4 (by omega)
         have e5:v2.cell? ⟨pb,5,none⟩=some (U rf):=HR6.out.scell 5 (by omega)
         have e6:v2.cell? ⟨pb,6,none⟩=some (U rg):=HR6.out.scell 6 (by omega)
         have e7:v2.cell? ⟨pb,7,none⟩=some (U rh):=HR6.out.scell 7 (by omega)
         have kt:=HR6.out.base.base.ktab k hlk3
         have wt:=HR6.out.wcell k hlk3
         go_quiet ((go_at_call 79;exact Calls.quiet_of_same (zf _ _ (by decide) (by decide) _)))
         have k0:v2.frozen? ⟨pb,0,none⟩=false:=frozen_of_row _ _ _ _ _ HR6.out.row
         have k1:v2.frozen? ⟨pb,1,none⟩=false:=frozen_of_row _ _ _ _ _ HR6.out.row
         have k2:v2.frozen? ⟨pb,2,none⟩=false:=frozen_of_row _ _ _ _ _ HR6.out.row
         have k3:v2.frozen? ⟨pb,3,none⟩=false:=frozen_of_row _ _ _ _ _ HR6.out.row
         have k4:v2.frozen? ⟨pb,4,none⟩=false:=frozen_of_row _ _ _ _ _ HR6.out.row
         have k5:v2.frozen? ⟨pb,5,none⟩=false:=frozen_of_row _ _ _ _ _ HR6.out.row
         have k6:v2.frozen? ⟨pb,6,none⟩=false:=frozen_of_row _ _ _ _ _ HR6.out.row
         have k7:v2.frozen? ⟨pb,7,none⟩=false:=frozen_of_row _ _ _ _ _ HR6.out.row
         go_wp2
         go_roundw
         case rel =>
          first | exact ⟨k+1,step ⟨ra,rb,rc,rd,re,rf,rg,rh⟩ (aW k) (W k),by omega,by go_num,by rw [HRD.out];rfl,(HR6.out.drewN _).put (step ⟨ra,rb,rc,rd,re,rf,rg,rh⟩ (aW k) (W k))⟩ | ((repeat apply Exists.intro);exact ⟨⟨k+1,step ⟨ra,rb,rc,rd,re,rf,rg,rh⟩ (aW k) (W k),by omega,by go_num,by rw [HRD.out];rfl,(HR6.out.drewN _).put (step ⟨ra,rb,rc,rd,re,rf,rg,rh⟩ (aW k) (W k))⟩,rfl⟩)
         case measure=>simp [intOf];omega
        ·obtain rfl:k=80:=by omega
         go_wp2_with fail
         have HR0:Hid (RRel w _ kb g Z (aG m n) (part ⟨sa,sb,sc,sd,se,sf,sg,sh⟩ ⟨ra,rb,rc,rd,re,rf,rg,rh⟩ 0) qb W pb ⟨ra,rb,rc,rd,re,rf,rg,rh⟩):=(by rw [Ar];exact HR4.out)
         go_loopw [19,193] (fun _ i wq => ∃ k:Nat,k≤8∧i = .int .i64 k∧RRel w wq kb g Z (aG m n) (part ⟨sa,sb,sc,sd,se,sf,sg,sh⟩ ⟨ra,rb,rc,rd,re,rf,rg,rh⟩ k) qb W pb ⟨ra,rb,rc,rd,re,rf,rg,rh⟩) (fun _ i _=>8 - (intOf i).toNat)
         case atStart=>exact ⟨0,by omega,rfl,HR0.out⟩
         case round =>
          obtain ⟨k,hk,rfl,hr⟩:=hrel
          have HR7:Hid (RRel w _ kb g Z (aG m n) (part ⟨sa,sb,sc,sd,se,sf,sg,sh⟩ ⟨ra,rb,rc,rd,re,rf,rg,rh⟩ k) qb W pb ⟨ra,rb,rc,rd,re,rf,rg,rh⟩):=hr
          clear HR0 hr
          by_cases hlk4:k<8
          ·have x8:(k:Int)<8:=by omega
           have e0:=HR7.out.scell k hlk4
           have e1:=HR7.out.hcell k hlk4
           rw [te _ _ _ _ hlk4,if_neg (Nat.lt_irrefl _)] at e1
           have f1:wr.frozen? ⟨w.heap.size+1,k,none⟩=false:=frozen_of_row _ _ _ _ _ HR7.out.base.base.hrow
           generalize hA:St.at ⟨sa,sb,sc,sd,se,sf,sg,sh⟩ k=A at e1
           generalize hB:St.at ⟨ra,rb,rc,rd,re,rf,rg,rh⟩ k=C at e0
           have HN:Hid (RRel w (wr.setCell ⟨w.heap.size+1,k,none⟩ (U (A+C))) kb g Z (aG m n) (part ⟨sa,sb,sc,sd,se,sf,sg,sh⟩ ⟨ra,rb,rc,rd,re,rf,rg,rh⟩ (k+1)) qb W pb ⟨ra,rb,rc,rd,re,rf,rg,rh⟩):=by rw [←hA,←hB];exact HR7.out.seth
           clear hA hB
           go_wp2_with fail
           go_region
           go_wp2
           go_roundw
           case rel =>
            first | exact ⟨k+1,by omega,by go_num,HN.out⟩ | exact ⟨k+1,by omega,by go_num,HN.out.drewN 1⟩ | ((repeat apply Exists.intro);exact ⟨⟨k+1,by omega,by go_num,HN.out.drewN 1⟩,rfl⟩)
           case measure=>simp [intOf];omega
          ·obtain rfl:k=8:=by omega
           have HFIN:Hid (ORel w wr kb g Z (aG m n) (blocks aW cj (aG m n) (j+1))):=by
            have e:=HR7.out.base.base
            rw [wR,HRD.out,HST.out,HWD.out] at e
            exact e
           go_wp2
           go_roundw
           case rel =>
            first | exact ⟨j+1,by omega,by go_num,HFIN.out⟩ | ((repeat apply Exists.intro);exact ⟨⟨j+1,by omega,by go_num,HFIN.out⟩,rfl⟩)
           case measure=>simp [intOf];omega
  ·
   obtain ⟨st,hst⟩ : ∃ st,st=blocks aW cj (aG m n) j:=⟨_,rfl⟩
   rw [←hst] at HRR
   have hres:gg aW cj m n=st:=by
    have e:=HZ.out
    rw [hst,gg,show ga n=j by omega]
   have HRES:Hid (gg aW cj m n=st):=hres
   clear hst hres
   have hz:=xY
   have hge:decide (128*(j:Int)<(Z:Int))=false:=by simp;omega
   have HX0:Hid (XRel w (wr.alloc (.cells zb 29)) kb g Z (aG m n) st wr.heap.size 0):=XRel.start HRR.out
   go_wp2_with fail
   generalize wr.heap.size=qb at HX0 ⊢
   go_loopw [21,206] (fun _ i wq => ∃ k:Nat,k≤64∧i = .int .i64 k∧XRel w wq kb g Z (aG m n) st qb k) (fun _ i _=>64 - (intOf i).toNat)
   case atStart=>exact ⟨0,by omega,rfl,HX0.out⟩
   case round =>
    obtain ⟨k,hk,rfl,hr⟩:=hrel
    have HR:Hid (XRel w _ kb g Z (aG m n) st qb k):=hr
    clear HX0
    by_cases hlk:k<64
    ·obtain ⟨q,hq⟩ : ∃ q,q=k/8:=⟨_,rfl⟩
     obtain ⟨r,hr4⟩ : ∃ r,r=k % 8:=⟨_,rfl⟩
     have c1:=hr.cell k hlk
     have f1:=hr.froz k
     have hq8:q<8:=by omega
     have hc:=hr.hcell q hq8
     have x1:(k:Int)/8=(q:Int):=by omega
     have x2:(q:Int)<8:=by omega
     have x3:(k:Int)<64:=by omega
     have HQ:Hid (q=k/8):=hq
     have HB:Hid (∀ r',r'=k % 8→B ((st.at q >>> (56 - 8*r')).setWidth 8)=B (dj st k)):=fun r' h=>by rw [dj,hq,h]
     clear hr hq
     obtain rfl | rfl | rfl | rfl | rfl | rfl | rfl | rfl:r=0∨r=1∨r=2∨r=3∨r=4∨r=5∨r=6∨r=7:=by omega
     ·have x4:(k:Int) % 8=0:=by omega
      have HV:Hid (B ((st.at q >>> 56).setWidth 8)=B (dj st k)):=HB.out 0 hr4
      clear hr4 HB
      have HP:Hid (XRel w (wr.setCell ⟨qb,k,none⟩ (B ((st.at q >>> 56).setWidth 8))) kb g Z (aG m n) st qb (k+1)):=by rw [HV.out];exact HR.out.put hlk
      go_wp2
      exact ⟨⟨k+1,by omega,by go_num,HP.out⟩,by simp [intOf];omega⟩
     ·have x4:(k:Int) % 8=1:=by omega
      have HV:Hid (B ((st.at q >>> 48).setWidth 8)=B (dj st k)):=HB.out 1 hr4
      clear hr4 HB
      have HP:Hid (XRel w (wr.setCell ⟨qb,k,none⟩ (B ((st.at q >>> 48).setWidth 8))) kb g Z (aG m n) st qb (k+1)):=by rw [HV.out];exact HR.out.put hlk
      go_wp2
      exact ⟨⟨k+1,by omega,by go_num,HP.out⟩,by simp [intOf];omega⟩
     ·have x4:(k:Int) % 8=2:=by omega
      have HV:Hid (B ((st.at q >>> 40).setWidth 8)=B (dj st k)):=HB.out 2 hr4
      clear hr4 HB
      have HP:Hid (XRel w (wr.setCell ⟨qb,k,none⟩ (B ((st.at q >>> 40).setWidth 8))) kb g Z (aG m n) st qb (k+1)):=by rw [HV.out];exact HR.out.put hlk
      go_wp2
      exact ⟨⟨k+1,by omega,by go_num,HP.out⟩,by simp [intOf];omega⟩
     ·have x4:(k:Int) % 8=3:=by omega
      have HV:Hid (B ((st.at q >>> 32).setWidth 8)=B (dj st k)):=HB.out 3 hr4
      clear hr4 HB
      have HP:Hid (XRel w (wr.setCell ⟨qb,k,none⟩ (B ((st.at q >>> 32).setWidth 8))) kb g Z (aG m n) st qb (k+1)):=by rw [HV.out];exact HR.out.put hlk
      go_wp2
      exact ⟨⟨k+1,by omega,by go_num,HP.out⟩,by simp [intOf];omega⟩
     ·have x4:(k:Int) % 8=4:=by omega
      have HV:Hid (B ((st.at q >>> 24).setWidth 8)=B (dj st k)):=HB.out 4 hr4
      clear hr4 HB
      have HP:Hid (XRel w (wr.setCell ⟨qb,k,none⟩ (B ((st.at q >>> 24).setWidth 8))) kb g Z (aG m n) st qb (k+1)):=by rw [HV.out];exact HR.out.put hlk
      go_wp2
      exact ⟨⟨k+1,by omega,by go_num,HP.out⟩,by simp [intOf];omega⟩
     ·have x4:(k:Int) % 8=5:=by omega
      have HV:Hid (B ((st.at q >>> 16).setWidth 8)=B (dj st k)):=HB.out 5 hr4
      clear hr4 HB
      have HP:Hid (XRel w (wr.setCell ⟨qb,k,none⟩ (B ((st.at q >>> 16).setWidth 8))) kb g Z (aG m n) st qb (k+1)):=by rw [HV.out];exact HR.out.put hlk
      go_wp2
      exact ⟨⟨k+1,by omega,by go_num,HP.out⟩,by simp [intOf];omega⟩
     ·have x4:(k:Int) % 8=6:=by omega
      have HV:Hid (B ((st.at q >>> 8).setWidth 8)=B (dj st k)):=HB.out 6 hr4
      clear hr4 HB
      have HP:Hid (XRel w (wr.setCell ⟨qb,k,none⟩ (B ((st.at q >>> 8).setWidth 8))) kb g Z (aG m n) st qb (k+1)):=by rw [HV.out];exact HR.out.put hlk
      go_wp2
      exact ⟨⟨k+1,by omega,by go_num,HP.out⟩,by simp [intOf];omega⟩
     ·have x4:(k:Int) % 8=7:=by omega
      have HV:Hid (B ((st.at q).setWidth 8)=B (dj st k)):=(by have:=HB.out 7 hr4;show B _=B _;simpa using this)
      clear hr4 HB
      have HP:Hid (XRel w (wr.setCell ⟨qb,k,none⟩ (B ((st.at q).setWidth 8))) kb g Z (aG m n) st qb (k+1)):=by rw [HV.out];exact HR.out.put hlk
      go_wp2
      exact ⟨⟨k+1,by omega,by go_num,HP.out⟩,by simp [intOf];omega⟩
    ·obtain rfl:k=64:=by omega
     have HC:Hid (wr.rangeAt qb 0 (dm st).toList):=by
      have:=iO (w:=wr) (g:=qb) (o:=0) (n:=64) (fun i=>B (dj st i)) (fun i hi=>by rw [Nat.zero_add,hr.cell i hi,if_pos hi])
      exact this
     have HT:Hid (wr.there w.heap.size 0 (dm st).size):=by rw [bp];exact aw hr.base.res 0 64 (by rw [mR];omega)
     clear hr
     go_wp2_with (first | (refine wpList_load_mid rfl 29 _ rfl qb 0 rfl (dm st).toList _ HC.out Tryz.underlying29 rfl (by rw [Array.length_toList,bp];kernel_rfl) ?_) | (refine wpList_store_mid rfl 29 _ _ rfl w.heap.size 0 (dm st) rfl rfl HT.out (by rw [bp];kernel_rfl) (by exact iP _) ?_))
     rw [HRES.out]
     refine bodyPost_ret (v := .agg (dm st)) ?_ rfl ⟨rfl,?_⟩
     ·exact aN Tryz.results40 _ _ w.heap.size 0 (dm st).toList _ rfl (World.rangeAt_setCells_same _ _ _ _ HT.out) Tryz.underlying29 rfl (by rw [Array.length_toList,bp];kernel_rfl)
     ·exact af _ (Nat.le_refl _) _ _ _ HR.out.base.below
end Go.Proofs.YtajehiidpecknaaGreatDoor.Sh.Q5
