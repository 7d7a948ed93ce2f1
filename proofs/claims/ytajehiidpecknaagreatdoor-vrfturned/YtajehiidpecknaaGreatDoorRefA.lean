import Derived.Test.YtajehiidpecknaaGreatDoorShaG
import Derived.Deep.CutRange
import Derived.Lib.SlBytesConst
import Derived.Deep.AppendLies
import Derived.Laws.AppendOwnNone
import Derived.Great.BuildSlice
set_option linter.all false
namespace Go.Proofs.YtajehiidpecknaaGreatDoor.Sh
open Go Go.RowKit
attribute [local go_sem] ju jG nL jv jt dy
def bl (f:Nat→BitVec 8) (k:Nat):List Value:=(List.range k).map fun i=>B (f i)
theorem bY (f:Nat→BitVec 8) (k:Nat):(bl f k).length=k:=by simp [bl]
theorem uY (f g:Nat→BitVec 8) (k:Nat) (h : ∀ i,i<k→f i=g i):bl f k=bl g k:=by
 unfold bl
 exact List.map_congr_left fun i hi=>by rw [h i (by simpa using hi)]
theorem Lb (f:Nat→BitVec 8) (k:Nat) : ∀ v ∈ bl f k,v.oneCell'=true:=kV k f
structure Own (w wr:World) (v:Value) (k:Nat) (f:Nat→BitVec 8):Prop where
 below:Below w.heap.size w wr
 own:wr.ownsRow w.heap.size 5 1 v k (bl f k)
theorem Own.blk {w wr:World} {v:Value} {k:Nat} {f:Nat→BitVec 8} (h:Own w wr v k f) : ∀ b,v.ownBlock=some b→w.heap.size≤b:=by
 intro b hb
 rcases h.own.2 with ⟨rfl,_⟩ | ⟨g,cap,cur,rfl,hg,_⟩
 ·simp [Value.ownBlock] at hb
 ·simp [Value.ownBlock] at hb;omega
theorem jg : ∃ i,Tryz.prog.info? 5=some i∧i.zero=some (.int .u8 0)∧i.size=1∧i.bytes=1:=by
 have h1:(Tryz.prog.info? 5).map (·.size)=some 1:=by kernel_rfl
 have h2:(Tryz.prog.info? 5).map (·.bytes)=some 1:=by kernel_rfl
 have h3:(Tryz.prog.info? 5).map (·.zero)=some (some (.int .u8 0)):=by kernel_rfl
 cases hq:Tryz.prog.info? 5 with
 | none=>rw [hq] at h1;cases h1
 | some i =>
  rw [hq] at h1 h2 h3
  exact ⟨i,rfl,Option.some.inj h3,Option.some.inj h1,Option.some.inj h2⟩
theorem Own.alloc {w wr:World} {v:Value} {k:Nat} {f:Nat→BitVec 8} (h:Own w wr v k f) (o:Obj):Own w (wr.alloc o) v k f :=
 ⟨h.below.alloc (by have:=h.below.size;omega) o,h.own.alloc o⟩
theorem Own.congr {w wr:World} {v:Value} {k:Nat} {f g:Nat→BitVec 8} (h:Own w wr v k f) (hg : ∀ i,i<k→f i=g i):Own w wr v k g :=
 ⟨h.below,by rw [←uY f g k hg];exact h.own⟩
theorem bN {ops:Array Oper} {rest:List Oper} {o:Oper} {a:Act} {Q:Exit→Act→World→Prop} {w wr:World} (hgd:o.guard=none) (s x:Operand) (ho:o.op = .call { callee := .builtin .append,args := #[s,x],argTypes := #[23,23] })
  (v:Value) (k:Nat) (f:Nat→BitVec 8) (hs:a.eval s=v) (h0:Own w wr v k f) (ad:Addr) (m c:Nat) (hx:a.eval x = .slice (some ad) m c) (f':Nat→BitVec 8) (hf : ∀ i,i<k→f i=f' i)
  (hg : ∀ i,i<m→wr.cell? (ad.add i)=some (B (f' (k+i)))) (hk:k+m≤140737488355328)
  (h : ∀ v' w',Own w w' v' (k+m) f'→wr.heap.size≤w'.heap.size→wpList Tryz.prog ops Q rest (a.put o.dst v') w'):wpList Tryz.prog ops Q (o :: rest) a wr:=by
 obtain ⟨i,hi,hz,hsz,hby⟩:=jg
 have hb:=h0.below.size
 refine wpList_append_own_at wr hgd s x 23 ho w.heap.size 5 i (.int .u8 0) 1 1 Tryz.underlying23 hi hz hsz hby rfl (by decide) v k (bl f k) hs h0.own ad m c (bl (fun j=>f' (k+j)) m) hx (by rw [bY];omega) ?_ (Lb _ _) (by unfold maxLen;omega) (by omega) hb ?_
 ·intro j u hu
  obtain ⟨hj,hv⟩:=List.getElem?_eq_some_iff.1 hu
  rw [bY] at hj
  rw [hg j hj,←hv]
  simp [bl]
 ·intro v' w' h1 h2 h3 h4
  refine h v' w' ⟨h0.below.grown h2 hb (fun b hb'=>h0.blk b hb'),?_⟩ h2.size
  have e:bl f k ++ bl (fun j=>f' (k+j)) m=bl f' (k+m):=by
   rw [uY f f' k hf]
   apply List.ext_getElem?
   intro j
   by_cases hj:j<k
   ·rw [List.getElem?_append_left (by rw [bY];exact hj)]
    simp [bl,hj,show j<k+m by omega]
   ·rw [List.getElem?_append_right (by rw [bY];omega),bY]
    by_cases hj2:j<k+m
    ·simp [bl,show j - k<m by omega,hj2,show k+(j - k)=j by omega]
    ·rw [List.getElem?_eq_none (by rw [bY];omega),List.getElem?_eq_none (by rw [bY];omega)]
  rw [←e];exact h1
def Src (w:World) (ad:Option Addr) (n cap:Nat) (m:Nat→BitVec 8):Prop :=
 (n=0∧cap=0) ∨ ∃ b off,ad=some ⟨b,off,none⟩∧b<w.heap.size ∧ ∀ i,i<n→w.cell? ⟨b,off+i,none⟩=some (B (m i))
theorem Src.below {w w':World} {ad:Option Addr} {n cap B0:Nat} {m:Nat→BitVec 8} (h:Src w ad n cap m) (hb:Below B0 w w') (hB:w.heap.size≤B0):Src w' ad n cap m:=by
 rcases h with h | ⟨b,off,rfl,hlt,hm⟩
 ·exact .inl h
 ·exact .inr ⟨b,off,rfl,YI hlt hb.size,fun i hi=>(hb.cell (p:=⟨b,off+i,none⟩) (YI hlt hB)).trans (hm i hi)⟩
theorem Src.congr {w:World} {ad:Option Addr} {n cap:Nat} {m m':Nat→BitVec 8} (h:Src w ad n cap m) (he : ∀ i,i<n→m i=m' i):Src w ad n cap m':=by
 rcases h with h | ⟨b,off,rfl,hlt,hm⟩
 ·exact .inl h
 ·exact .inr ⟨b,off,rfl,hlt,fun i hi=>(he i hi) ▸ hm i hi⟩
theorem Fu {ops:Array Oper} {rest:List Oper} {o:Oper} {a:Act} {Q:Exit→Act→World→Prop} {w wr:World} (hgd:o.guard=none) (s x:Operand) (ho:o.op = .call { callee := .builtin .append,args := #[s,x],argTypes := #[23,23] })
  (v:Value) (k:Nat) (f:Nat→BitVec 8) (hs:a.eval s=v) (h0:Own w wr v k f) (ad:Option Addr) (m c:Nat) (hx:a.eval x = .slice ad m c) (f':Nat→BitVec 8) (hf : ∀ i,i<k→f i=f' i)
  (hg:Src wr ad m c (fun i=>f' (k+i))) (hk:k+m≤140737488355328)
  (h : ∀ v' w',Own w w' v' (k+m) f'→wr.heap.size≤w'.heap.size→wpList Tryz.prog ops Q rest (a.put o.dst v') w'):wpList Tryz.prog ops Q (o :: rest) a wr:=by
 rcases hg with ⟨rfl,rfl⟩ | ⟨b,off,rfl,_,hm⟩
 ·cases ad with
  | some A=>exact bN hgd s x ho v k f hs h0 A 0 0 hx f' hf (fun i hi=>absurd hi (Nat.not_lt_zero i)) hk h
  | none =>
  obtain ⟨i,hi,_⟩:=jg
  exact wpList_append_own_none hgd s x 23 ho w.heap.size 5 i 1 Tryz.underlying23 hi v k (bl f k) hs h0.own hx (h v wr (h0.congr hf) (Nat.le_refl _))
 ·exact bN hgd s x ho v k f hs h0 ⟨b,off,none⟩ m c hx f' hf (fun i hi=>by rw [bL];exact hm i hi) hk h
end Go.Proofs.YtajehiidpecknaaGreatDoor.Sh
namespace Go.Proofs.YtajehiidpecknaaGreatDoor.Sh
open Go Go.RowKit
attribute [local go_sem] y9 uz uU o9 vq vn vh EP
theorem Own.start (w:World) (f:Nat→BitVec 8):Own w (w.alloc (.cells #[] 5)) (.slice (some ⟨w.heap.size,0,none⟩) 0 0) 0 f :=
 ⟨(Below.refl _ _).alloc (Nat.le_refl _) _,rfl,Or.inr ⟨w.heap.size,0,#[],rfl,Nat.le_refl _,heap_alloc_new _ _,Nat.le_refl _,Nat.zero_le _,rfl,rfl⟩⟩
theorem Own.form {w wr:World} {v:Value} {k:Nat} {f:Nat→BitVec 8} (h:Own w wr v k f) (hk:0<k) : ∃ g cap,v = .slice (some ⟨g,0,none⟩) k cap∧w.heap.size≤g∧g<wr.heap.size∧k≤cap ∧ ∀ i,i<k→wr.cell? ⟨g,i,none⟩=some (B (f i)):=by
 rcases h.own.2 with ⟨_,h0⟩ | ⟨g,cap,cur,hv,hb,hg,hc,_,hs,ht⟩
 ·omega
 ·refine ⟨g,cap,hv,hb,(YM.1 hg).1,hc,fun i hi => ?_⟩
  rw [cell_of_row wr g i cur _ _ hg]
  have e:(cur.toList.take (k*1))[i]? = some (B (f i)):=by rw [ht];simp [bl,hi]
  rw [List.getElem?_take,if_pos (by omega),Array.getElem?_toList] at e
  exact e
theorem bH (wr:World) (x:Value) (y:BitVec 8) (hx:x=B y) : ∀ i,i<1→(wr.alloc (.cells #[x] 5)).cell? ((⟨wr.heap.size,0,none⟩:Addr).add i)=some (B y):=by
 intro i hi
 obtain rfl:i=0:=by omega
 rw [hx,bL,World.cell?_alloc_at _ _ _ _ rfl];rfl
end Go.Proofs.YtajehiidpecknaaGreatDoor.Sh
namespace Go.Proofs.YtajehiidpecknaaGreatDoor.Sh.Q5
open Go Go.RowKit
attribute [local go_sem] ju jG nL jv jt dy
theorem z6 (a b:BitVec 64):a ||| b=b ||| a:=BitVec.or_comm a b
set_option maxHeartbeats 400000 in
theorem zf (x:BitVec 64) (k:Int) (h1:1≤k) (h2:k≤63) (w:World) :
  Calls Tryz.prog 79 #[U x,.int .u64 k] w fun e w'=>e = .returned (U (gD x k.toNat))∧w'=w:=by
 obtain ⟨n,rfl⟩:=Int.eq_ofNat_of_zero_le (show 0≤k by omega)
 have hw:IntKind.u64.wrap (64 - (n:Int))=((64 - n:Nat):Int):=by rw [IntKind.wrap_u64];omega
 have m1:min n 64=n:=by omega
 have m2:min (64 - n) 64=64 - n:=by omega
 have HE:Hid (x >>> n ||| x <<< (64 - n)=gD x n):=by unfold gD;exact z6 _ _
 go_enter Tryz.func79,Tryz.ntmps79
 go_wp2
 go_ret
 exact ⟨congrArg (fun y=>Ending.returned (U y)) HE.out,rfl⟩
end Go.Proofs.YtajehiidpecknaaGreatDoor.Sh.Q5
namespace Go.Proofs.YtajehiidpecknaaGreatDoor.Sh.Q5
open Go Go.RowKit
attribute [local go_sem] y9 uz uU o9 vq vn vh EP
set_option maxRecDepth 100000 in
set_option maxHeartbeats 1000000 in
theorem Cd (m:Nat→BitVec 8) (ad:Option Addr) (n cap:Nat) (hn:n<140737488354800) (w:World) (hm:Src w ad n cap m) :
  Calls Tryz.prog 78 #[.slice ad n cap,.int .i64 128,.int .i64 16] w fun e w' => ∃ v,e = .returned v∧Own w w' v (128*ga n) (aG m n):=by
 have HM:Hid (Src w ad n cap m):=hm
 clear hm
 have hn1:(n:Int)<140737488354800:=by omega
 have HO:Hid (Own w (w.alloc (.cells #[] 5)) (.slice (some ⟨w.heap.size,0,none⟩) 0 0) 0 (aG m n)):=Own.start w _
 have HG:Hid (Src (w.alloc (.cells #[] 5)) ad n cap (fun i=>aG m n (0+i))) :=
  (HM.out.below ((Below.refl w.heap.size w).alloc (Nat.le_refl _) _) (Nat.le_refl _)).congr (fun i hi=>by rw [Nat.zero_add,aG,if_pos hi])
 go_enter Tryz.func78,Tryz.ntmps78
 have HC2:Hid (∀ W:World,∀ i,i<1→(W.alloc (.cells #[.int .u8 128] 5)).cell? ((⟨W.heap.size,0,none⟩:Addr).add i)=some (B (aG m n (n+i)))):=fun W i hi=>by
  rw [show n+i=n by omega,show aG m n n=128 by rw [aG,if_neg (by omega),if_pos rfl]];exact bH W _ 128 rfl i hi
 go_wp2_with (first | (at_builtin;refine Fu rfl (.tmp 10) (.tmp 11) rfl _ 0 (aG m n) rfl HO.out ad n cap rfl (aG m n) (fun _ _=>rfl) HG.out (by omega) ?_;intro v1 w1 h1 hs1;rw [Nat.zero_add] at h1;have H1:Hid (Own w w1 v1 n (aG m n)):=h1;clear h1) | (at_builtin;refine bN rfl (.tmp 13) (.tmp 14) rfl _ n (aG m n) rfl (Own.alloc H1.out _) ⟨w1.heap.size,0,none⟩ 1 1 rfl (aG m n) (fun _ _=>rfl) (HC2.out w1) (by omega) ?_;intro v2 w2 h2 hs2;have H2:Hid (Own w w2 v2 (n+1) (aG m n)):=h2;clear h2;obtain ⟨g2,cap2,hv2,-⟩:=H2.out.form (by omega);rw [hv2] at H2;rw [hv2];clear hv2 hs2))
 clear HC2 HG HO
 obtain ⟨Z,hZ⟩ : ∃ Z,Z=128*ga n:=⟨_,rfl⟩
 have hZ1:n+17≤Z∧Z≤n+144∧Z % 128=0:=by rw [hZ];unfold ga;omega
 have HZ:Hid (Z=128*ga n):=hZ
 have HZ1:Hid (n+17≤Z∧Z≤n+144∧Z % 128=0):=hZ1
 clear hZ hZ1
 go_loopw [7] (fun x wr => ∃ L g c:Nat,n+1≤L∧L+16≤Z∧x = .slice (some ⟨g,0,none⟩) L c∧Own w wr x L (aG m n)) (fun x _=>Z - lenOf x)
 case atStart=>exact ⟨n+1,g2,cap2,Nat.le_refl _,by have:=HZ1.out;omega,rfl,H2.out⟩
 case round =>
  obtain ⟨L,g,c,hL1,hL2,rfl,ho⟩:=hrel
  have HOW:Hid (Own w _ (.slice (some ⟨g,0,none⟩) L c) L (aG m n)):=ho
  clear ho H2 H1
  have hL3:(L:Int)<140737488355000:=by have:=HZ1.out;omega
  by_cases hz:L+16=Z
  ·have hb:(((L:Int)+16) % 128 != 0)=false:=by have:=HZ1.out;simp;omega
   have HZL:Hid (L+16=Z):=hz
   clear hz hL2
   obtain ⟨X,hX⟩ : ∃ X,X=BitVec.ofNat 64 (8*n):=⟨_,rfl⟩
   have hx:(n:Int)*8=ul X:=by
    rw [hX]
    show (n:Int)*8=((BitVec.ofNat 64 (8*n)).toNat:Int)
    rw [BitVec.toNat_ofNat];omega
   have HX:Hid (X=BitVec.ofNat 64 (8*n)):=hX
   clear hX
   have HP:Hid (∀ t,t<16→aG m n (L+t)=bQ n t):=fun t ht=>by
    have e1:=HZ.out
    have e2:=HZL.out
    rw [aG,if_neg (by omega),if_neg (by omega),if_neg (by omega),show L+t - (128*ga n - 16)=t by omega]
   go_wp2_with fail
   go_loopw [7,9] (fun x i wr => ∃ t g c:Nat,t≤16∧x = .slice (some ⟨g,0,none⟩) (L+t) c∧i = .int .i64 (15 - (t:Int))∧Own w wr x (L+t) (aG m n)) (fun _ i _=>(intOf i+1).toNat)
   case atStart=>exact ⟨0,g,c,by omega,rfl,rfl,HOW.out⟩
   case round =>
    obtain ⟨t,g,c,ht,rfl,rfl,ho⟩:=hrel
    have HOW2:Hid (Own w _ (.slice (some ⟨g,0,none⟩) (L+t) c) (L+t) (aG m n)):=ho
    clear ho HOW
    obtain rfl | rfl | rfl | rfl | rfl | rfl | rfl | rfl | rfl | rfl | rfl | rfl | rfl | rfl | rfl | rfl | rfl:t=0∨t=1∨t=2∨t=3∨t=4∨t=5∨t=6∨t=7∨t=8∨t=9∨t=10∨t=11∨t=12∨t=13∨t=14∨t=15∨t=16:=by omega
    ·have HC:Hid (∀ W:World,∀ i,i<1→(W.alloc (.cells #[.int .u8 0] 5)).cell? ((⟨W.heap.size,0,none⟩:Addr).add i)=some (B (aG m n (L+0+i)))):=fun W i hi=>by
      rw [show L+0+i=L+0 by omega,HP.out 0 (by omega),show bQ n 0=0 from rfl];exact bH W _ 0 rfl i hi
     go_wp2_with (at_builtin;refine bN rfl (.tmp 38) (.tmp 39) rfl _ (L+0) (aG m n) rfl (Own.alloc HOW2.out _) ⟨_,0,none⟩ 1 1 rfl (aG m n) (fun _ _=>rfl) (HC.out _) (by omega) ?_;intro v3 w3 h3 hs3;obtain ⟨g3,cap3,hv3,-⟩:=h3.form (by omega);have H3:Hid (Own w w3 v3 (L+0+1) (aG m n)):=h3;clear h3 hs3;rw [hv3] at H3;rw [hv3];clear hv3)
     first | exact ⟨⟨1,g3,cap3,by omega,rfl,rfl,H3.out⟩,by simp [intOf]⟩ | (go_roundw;(case rel=>exact ⟨1,g3,cap3,by omega,rfl,rfl,H3.out⟩);(case measure=>simp [intOf]))
    ·have HC:Hid (∀ W:World,∀ i,i<1→(W.alloc (.cells #[.int .u8 0] 5)).cell? ((⟨W.heap.size,0,none⟩:Addr).add i)=some (B (aG m n (L+1+i)))):=fun W i hi=>by
      rw [show L+1+i=L+1 by omega,HP.out 1 (by omega),show bQ n 1=0 from rfl];exact bH W _ 0 rfl i hi
     go_wp2_with (at_builtin;refine bN rfl (.tmp 38) (.tmp 39) rfl _ (L+1) (aG m n) rfl (Own.alloc HOW2.out _) ⟨_,0,none⟩ 1 1 rfl (aG m n) (fun _ _=>rfl) (HC.out _) (by omega) ?_;intro v3 w3 h3 hs3;obtain ⟨g3,cap3,hv3,-⟩:=h3.form (by omega);have H3:Hid (Own w w3 v3 (L+1+1) (aG m n)):=h3;clear h3 hs3;rw [hv3] at H3;rw [hv3];clear hv3)
     first | exact ⟨⟨2,g3,cap3,by omega,rfl,rfl,H3.out⟩,by simp [intOf]⟩ | (go_roundw;(case rel=>exact ⟨2,g3,cap3,by omega,rfl,rfl,H3.out⟩);(case measure=>simp [intOf]))
    ·have HC:Hid (∀ W:World,∀ i,i<1→(W.alloc (.cells #[.int .u8 0] 5)).cell? ((⟨W.heap.size,0,none⟩:Addr).add i)=some (B (aG m n (L+2+i)))):=fun W i hi=>by
      rw [show L+2+i=L+2 by omega,HP.out 2 (by omega),show bQ n 2=0 from rfl];exact bH W _ 0 rfl i hi
     go_wp2_with (at_builtin;refine bN rfl (.tmp 38) (.tmp 39) rfl _ (L+2) (aG m n) rfl (Own.alloc HOW2.out _) ⟨_,0,none⟩ 1 1 rfl (aG m n) (fun _ _=>rfl) (HC.out _) (by omega) ?_;intro v3 w3 h3 hs3;obtain ⟨g3,cap3,hv3,-⟩:=h3.form (by omega);have H3:Hid (Own w w3 v3 (L+2+1) (aG m n)):=h3;clear h3 hs3;rw [hv3] at H3;rw [hv3];clear hv3)
     first | exact ⟨⟨3,g3,cap3,by omega,rfl,rfl,H3.out⟩,by simp [intOf]⟩ | (go_roundw;(case rel=>exact ⟨3,g3,cap3,by omega,rfl,rfl,H3.out⟩);(case measure=>simp [intOf]))
    ·have HC:Hid (∀ W:World,∀ i,i<1→(W.alloc (.cells #[.int .u8 0] 5)).cell? ((⟨W.heap.size,0,none⟩:Addr).add i)=some (B (aG m n (L+3+i)))):=fun W i hi=>by
      rw [show L+3+i=L+3 by omega,HP.out 3 (by omega),show bQ n 3=0 from rfl];exact bH W _ 0 rfl i hi
     go_wp2_with (at_builtin;refine bN rfl (.tmp 38) (.tmp 39) rfl _ (L+3) (aG m n) rfl (Own.alloc HOW2.out _) ⟨_,0,none⟩ 1 1 rfl (aG m n) (fun _ _=>rfl) (HC.out _) (by omega) ?_;intro v3 w3 h3 hs3;obtain ⟨g3,cap3,hv3,-⟩:=h3.form (by omega);have H3:Hid (Own w w3 v3 (L+3+1) (aG m n)):=h3;clear h3 hs3;rw [hv3] at H3;rw [hv3];clear hv3)
     first | exact ⟨⟨4,g3,cap3,by omega,rfl,rfl,H3.out⟩,by simp [intOf]⟩ | (go_roundw;(case rel=>exact ⟨4,g3,cap3,by omega,rfl,rfl,H3.out⟩);(case measure=>simp [intOf]))
    ·have HC:Hid (∀ W:World,∀ i,i<1→(W.alloc (.cells #[.int .u8 0] 5)).cell? ((⟨W.heap.size,0,none⟩:Addr).add i)=some (B (aG m n (L+4+i)))):=fun W i hi=>by
      rw [show L+4+i=L+4 by omega,HP.out 4 (by omega),show bQ n 4=0 from rfl];exact bH W _ 0 rfl i hi
     go_wp2_with (at_builtin;refine bN rfl (.tmp 38) (.tmp 39) rfl _ (L+4) (aG m n) rfl (Own.alloc HOW2.out _) ⟨_,0,none⟩ 1 1 rfl (aG m n) (fun _ _=>rfl) (HC.out _) (by omega) ?_;intro v3 w3 h3 hs3;obtain ⟨g3,cap3,hv3,-⟩:=h3.form (by omega);have H3:Hid (Own w w3 v3 (L+4+1) (aG m n)):=h3;clear h3 hs3;rw [hv3] at H3;rw [hv3];clear hv3)
     first | exact ⟨⟨5,g3,cap3,by omega,rfl,rfl,H3.out⟩,by simp [intOf]⟩ | (go_roundw;(case rel=>exact ⟨5,g3,cap3,by omega,rfl,rfl,H3.out⟩);(case measure=>simp [intOf]))
    ·have HC:Hid (∀ W:World,∀ i,i<1→(W.alloc (.cells #[.int .u8 0] 5)).cell? ((⟨W.heap.size,0,none⟩:Addr).add i)=some (B (aG m n (L+5+i)))):=fun W i hi=>by
      rw [show L+5+i=L+5 by omega,HP.out 5 (by omega),show bQ n 5=0 from rfl];exact bH W _ 0 rfl i hi
     go_wp2_with (at_builtin;refine bN rfl (.tmp 38) (.tmp 39) rfl _ (L+5) (aG m n) rfl (Own.alloc HOW2.out _) ⟨_,0,none⟩ 1 1 rfl (aG m n) (fun _ _=>rfl) (HC.out _) (by omega) ?_;intro v3 w3 h3 hs3;obtain ⟨g3,cap3,hv3,-⟩:=h3.form (by omega);have H3:Hid (Own w w3 v3 (L+5+1) (aG m n)):=h3;clear h3 hs3;rw [hv3] at H3;rw [hv3];clear hv3)
     first | exact ⟨⟨6,g3,cap3,by omega,rfl,rfl,H3.out⟩,by simp [intOf]⟩ | (go_roundw;(case rel=>exact ⟨6,g3,cap3,by omega,rfl,rfl,H3.out⟩);(case measure=>simp [intOf]))
    ·have HC:Hid (∀ W:World,∀ i,i<1→(W.alloc (.cells #[.int .u8 0] 5)).cell? ((⟨W.heap.size,0,none⟩:Addr).add i)=some (B (aG m n (L+6+i)))):=fun W i hi=>by
      rw [show L+6+i=L+6 by omega,HP.out 6 (by omega),show bQ n 6=0 from rfl];exact bH W _ 0 rfl i hi
     go_wp2_with (at_builtin;refine bN rfl (.tmp 38) (.tmp 39) rfl _ (L+6) (aG m n) rfl (Own.alloc HOW2.out _) ⟨_,0,none⟩ 1 1 rfl (aG m n) (fun _ _=>rfl) (HC.out _) (by omega) ?_;intro v3 w3 h3 hs3;obtain ⟨g3,cap3,hv3,-⟩:=h3.form (by omega);have H3:Hid (Own w w3 v3 (L+6+1) (aG m n)):=h3;clear h3 hs3;rw [hv3] at H3;rw [hv3];clear hv3)
     first | exact ⟨⟨7,g3,cap3,by omega,rfl,rfl,H3.out⟩,by simp [intOf]⟩ | (go_roundw;(case rel=>exact ⟨7,g3,cap3,by omega,rfl,rfl,H3.out⟩);(case measure=>simp [intOf]))
    ·have HC:Hid (∀ W:World,∀ i,i<1→(W.alloc (.cells #[.int .u8 0] 5)).cell? ((⟨W.heap.size,0,none⟩:Addr).add i)=some (B (aG m n (L+7+i)))):=fun W i hi=>by
      rw [show L+7+i=L+7 by omega,HP.out 7 (by omega),show bQ n 7=0 from rfl];exact bH W _ 0 rfl i hi
     go_wp2_with (at_builtin;refine bN rfl (.tmp 38) (.tmp 39) rfl _ (L+7) (aG m n) rfl (Own.alloc HOW2.out _) ⟨_,0,none⟩ 1 1 rfl (aG m n) (fun _ _=>rfl) (HC.out _) (by omega) ?_;intro v3 w3 h3 hs3;obtain ⟨g3,cap3,hv3,-⟩:=h3.form (by omega);have H3:Hid (Own w w3 v3 (L+7+1) (aG m n)):=h3;clear h3 hs3;rw [hv3] at H3;rw [hv3];clear hv3)
     first | exact ⟨⟨8,g3,cap3,by omega,rfl,rfl,H3.out⟩,by simp [intOf]⟩ | (go_roundw;(case rel=>exact ⟨8,g3,cap3,by omega,rfl,rfl,H3.out⟩);(case measure=>simp [intOf]))
    ·have HC:Hid (∀ W:World,∀ i,i<1→(W.alloc (.cells #[.int .u8 (ub ((X >>> 56).setWidth 8))] 5)).cell? ((⟨W.heap.size,0,none⟩:Addr).add i)=some (B (aG m n (L+8+i)))):=fun W i hi=>by
      rw [show L+8+i=L+8 by omega,HP.out 8 (by omega)];exact bH W _ _ (by rw [bQ,if_neg (by omega),←HX.out]) i hi
     go_wp2_with (at_builtin;refine bN rfl (.tmp 41) (.tmp 48) rfl _ (L+8) (aG m n) rfl (Own.alloc HOW2.out _) ⟨_,0,none⟩ 1 1 rfl (aG m n) (fun _ _=>rfl) (HC.out _) (by omega) ?_;intro v3 w3 h3 hs3;obtain ⟨g3,cap3,hv3,-⟩:=h3.form (by omega);have H3:Hid (Own w w3 v3 (L+8+1) (aG m n)):=h3;clear h3 hs3;rw [hv3] at H3;rw [hv3];clear hv3)
     first | exact ⟨⟨9,g3,cap3,by omega,rfl,rfl,H3.out⟩,by simp [intOf]⟩ | (go_roundw;(case rel=>exact ⟨9,g3,cap3,by omega,rfl,rfl,H3.out⟩);(case measure=>simp [intOf]))
    ·have HC:Hid (∀ W:World,∀ i,i<1→(W.alloc (.cells #[.int .u8 (ub ((X >>> 48).setWidth 8))] 5)).cell? ((⟨W.heap.size,0,none⟩:Addr).add i)=some (B (aG m n (L+9+i)))):=fun W i hi=>by
      rw [show L+9+i=L+9 by omega,HP.out 9 (by omega)];exact bH W _ _ (by rw [bQ,if_neg (by omega),←HX.out]) i hi
     go_wp2_with (at_builtin;refine bN rfl (.tmp 41) (.tmp 48) rfl _ (L+9) (aG m n) rfl (Own.alloc HOW2.out _) ⟨_,0,none⟩ 1 1 rfl (aG m n) (fun _ _=>rfl) (HC.out _) (by omega) ?_;intro v3 w3 h3 hs3;obtain ⟨g3,cap3,hv3,-⟩:=h3.form (by omega);have H3:Hid (Own w w3 v3 (L+9+1) (aG m n)):=h3;clear h3 hs3;rw [hv3] at H3;rw [hv3];clear hv3)
     first | exact ⟨⟨10,g3,cap3,by omega,rfl,rfl,H3.out⟩,by simp [intOf]⟩ | (go_roundw;(case rel=>exact ⟨10,g3,cap3,by omega,rfl,rfl,H3.out⟩);(case measure=>simp [intOf]))
    ·have HC:Hid (∀ W:World,∀ i,i<1→(W.alloc (.cells #[.int .u8 (ub ((X >>> 40).setWidth 8))] 5)).cell? ((⟨W.heap.size,0,none⟩:Addr).add i)=some (B (aG m n (L+10+i)))):=fun W i hi=>by
      rw [show L+10+i=L+10 by omega,HP.out 10 (by omega)];exact bH W _ _ (by rw [bQ,if_neg (by omega),←HX.out]) i hi
     go_wp2_with (at_builtin;refine bN rfl (.tmp 41) (.tmp 48) rfl _ (L+10) (aG m n) rfl (Own.alloc HOW2.out _) ⟨_,0,none⟩ 1 1 rfl (aG m n) (fun _ _=>rfl) (HC.out _) (by omega) ?_;intro v3 w3 h3 hs3;obtain ⟨g3,cap3,hv3,-⟩:=h3.form (by omega);have H3:Hid (Own w w3 v3 (L+10+1) (aG m n)):=h3;clear h3 hs3;rw [hv3] at H3;rw [hv3];clear hv3)
     first | exact ⟨⟨11,g3,cap3,by omega,rfl,rfl,H3.out⟩,by simp [intOf]⟩ | (go_roundw;(case rel=>exact ⟨11,g3,cap3,by omega,rfl,rfl,H3.out⟩);(case measure=>simp [intOf]))
    ·have HC:Hid (∀ W:World,∀ i,i<1→(W.alloc (.cells #[.int .u8 (ub ((X >>> 32).setWidth 8))] 5)).cell? ((⟨W.heap.size,0,none⟩:Addr).add i)=some (B (aG m n (L+11+i)))):=fun W i hi=>by
      rw [show L+11+i=L+11 by omega,HP.out 11 (by omega)];exact bH W _ _ (by rw [bQ,if_neg (by omega),←HX.out]) i hi
     go_wp2_with (at_builtin;refine bN rfl (.tmp 41) (.tmp 48) rfl _ (L+11) (aG m n) rfl (Own.alloc HOW2.out _) ⟨_,0,none⟩ 1 1 rfl (aG m n) (fun _ _=>rfl) (HC.out _) (by omega) ?_;intro v3 w3 h3 hs3;obtain ⟨g3,cap3,hv3,-⟩:=h3.form (by omega);have H3:Hid (Own w w3 v3 (L+11+1) (aG m n)):=h3;clear h3 hs3;rw [hv3] at H3;rw [hv3];clear hv3)
     first | exact ⟨⟨12,g3,cap3,by omega,rfl,rfl,H3.out⟩,by simp [intOf]⟩ | (go_roundw;(case rel=>exact ⟨12,g3,cap3,by omega,rfl,rfl,H3.out⟩);(case measure=>simp [intOf]))
    ·have HC:Hid (∀ W:World,∀ i,i<1→(W.alloc (.cells #[.int .u8 (ub ((X >>> 24).setWidth 8))] 5)).cell? ((⟨W.heap.size,0,none⟩:Addr).add i)=some (B (aG m n (L+12+i)))):=fun W i hi=>by
      rw [show L+12+i=L+12 by omega,HP.out 12 (by omega)];exact bH W _ _ (by rw [bQ,if_neg (by omega),←HX.out]) i hi
     go_wp2_with (at_builtin;refine bN rfl (.tmp 41) (.tmp 48) rfl _ (L+12) (aG m n) rfl (Own.alloc HOW2.out _) ⟨_,0,none⟩ 1 1 rfl (aG m n) (fun _ _=>rfl) (HC.out _) (by omega) ?_;intro v3 w3 h3 hs3;obtain ⟨g3,cap3,hv3,-⟩:=h3.form (by omega);have H3:Hid (Own w w3 v3 (L+12+1) (aG m n)):=h3;clear h3 hs3;rw [hv3] at H3;rw [hv3];clear hv3)
     first | exact ⟨⟨13,g3,cap3,by omega,rfl,rfl,H3.out⟩,by simp [intOf]⟩ | (go_roundw;(case rel=>exact ⟨13,g3,cap3,by omega,rfl,rfl,H3.out⟩);(case measure=>simp [intOf]))
    ·have HC:Hid (∀ W:World,∀ i,i<1→(W.alloc (.cells #[.int .u8 (ub ((X >>> 16).setWidth 8))] 5)).cell? ((⟨W.heap.size,0,none⟩:Addr).add i)=some (B (aG m n (L+13+i)))):=fun W i hi=>by
      rw [show L+13+i=L+13 by omega,HP.out 13 (by omega)];exact bH W _ _ (by rw [bQ,if_neg (by omega),←HX.out]) i hi
     go_wp2_with (at_builtin;refine bN rfl (.tmp 41) (.tmp 48) rfl _ (L+13) (aG m n) rfl (Own.alloc HOW2.out _) ⟨_,0,none⟩ 1 1 rfl (aG m n) (fun _ _=>rfl) (HC.out _) (by omega) ?_;intro v3 w3 h3 hs3;obtain ⟨g3,cap3,hv3,-⟩:=h3.form (by omega);have H3:Hid (Own w w3 v3 (L+13+1) (aG m n)):=h3;clear h3 hs3;rw [hv3] at H3;rw [hv3];clear hv3)
     first | exact ⟨⟨14,g3,cap3,by omega,rfl,rfl,H3.out⟩,by simp [intOf]⟩ | (go_roundw;(case rel=>exact ⟨14,g3,cap3,by omega,rfl,rfl,H3.out⟩);(case measure=>simp [intOf]))
    ·have HC:Hid (∀ W:World,∀ i,i<1→(W.alloc (.cells #[.int .u8 (ub ((X >>> 8).setWidth 8))] 5)).cell? ((⟨W.heap.size,0,none⟩:Addr).add i)=some (B (aG m n (L+14+i)))):=fun W i hi=>by
      rw [show L+14+i=L+14 by omega,HP.out 14 (by omega)];exact bH W _ _ (by rw [bQ,if_neg (by omega),←HX.out]) i hi
     go_wp2_with (at_builtin;refine bN rfl (.tmp 41) (.tmp 48) rfl _ (L+14) (aG m n) rfl (Own.alloc HOW2.out _) ⟨_,0,none⟩ 1 1 rfl (aG m n) (fun _ _=>rfl) (HC.out _) (by omega) ?_;intro v3 w3 h3 hs3;obtain ⟨g3,cap3,hv3,-⟩:=h3.form (by omega);have H3:Hid (Own w w3 v3 (L+14+1) (aG m n)):=h3;clear h3 hs3;rw [hv3] at H3;rw [hv3];clear hv3)
     first | exact ⟨⟨15,g3,cap3,by omega,rfl,rfl,H3.out⟩,by simp [intOf]⟩ | (go_roundw;(case rel=>exact ⟨15,g3,cap3,by omega,rfl,rfl,H3.out⟩);(case measure=>simp [intOf]))
    ·have HC:Hid (∀ W:World,∀ i,i<1→(W.alloc (.cells #[.int .u8 (ub (X.setWidth 8))] 5)).cell? ((⟨W.heap.size,0,none⟩:Addr).add i)=some (B (aG m n (L+15+i)))):=fun W i hi=>by
      rw [show L+15+i=L+15 by omega,HP.out 15 (by omega)];exact bH W _ _ (by rw [bQ,if_neg (by omega),←HX.out];simp) i hi
     go_wp2_with (at_builtin;refine bN rfl (.tmp 41) (.tmp 48) rfl _ (L+15) (aG m n) rfl (Own.alloc HOW2.out _) ⟨_,0,none⟩ 1 1 rfl (aG m n) (fun _ _=>rfl) (HC.out _) (by omega) ?_;intro v3 w3 h3 hs3;obtain ⟨g3,cap3,hv3,-⟩:=h3.form (by omega);have H3:Hid (Own w w3 v3 (L+15+1) (aG m n)):=h3;clear h3 hs3;rw [hv3] at H3;rw [hv3];clear hv3)
     first | exact ⟨⟨16,g3,cap3,by omega,rfl,rfl,H3.out⟩,by simp [intOf]⟩ | (go_roundw;(case rel=>exact ⟨16,g3,cap3,by omega,rfl,rfl,H3.out⟩);(case measure=>simp [intOf]))
    ·go_wp2
     go_ret
     refine ⟨_,rfl,?_⟩
     rw [←HZ.out,←HZL.out];exact HOW2.out
  ·have hb:(((L:Int)+16) % 128 != 0)=true:=by have:=HZ1.out;simp;omega
   have HC:Hid (∀ W:World,∀ i,i<1→(W.alloc (.cells #[.int .u8 0] 5)).cell? ((⟨W.heap.size,0,none⟩:Addr).add i)=some (B (aG m n (L+i)))):=fun W i hi=>by
    have e1:=HZ.out
    rw [show L+i=L by omega,show aG m n L=0 by rw [aG,if_neg (by omega),if_neg (by omega),if_pos (by omega)]];exact bH W _ 0 rfl i hi
   have hL4:L+1+16≤Z:=by omega
   clear hz
   go_wp2_with (at_builtin;refine bN rfl (.tmp 23) (.tmp 24) rfl _ L (aG m n) rfl (Own.alloc HOW.out _) ⟨_,0,none⟩ 1 1 rfl (aG m n) (fun _ _=>rfl) (HC.out _) (by omega) ?_;intro v3 w3 h3 hs3;obtain ⟨g3,cap3,hv3,-⟩:=h3.form (by omega);have H3:Hid (Own w w3 v3 (L+1) (aG m n)):=h3;clear h3 hs3;rw [hv3] at H3;rw [hv3];clear hv3)
   exact ⟨⟨L+1,g3,cap3,by omega,hL4,rfl,H3.out⟩,by simp [lenOf];omega⟩
end Go.Proofs.YtajehiidpecknaaGreatDoor.Sh.Q5
namespace Go.Proofs.YtajehiidpecknaaGreatDoor.Sh.Q5
open Go Go.RowKit
set_option maxRecDepth 100000 in
set_option maxHeartbeats 1000000 in
theorem Cg (w:World):Calls Tryz.prog 77 #[] w fun e w'=>e = .returned (.agg (cJ aW 80))∧Below w.heap.size w w':=by
 have HT:Hid ((w.alloc (.cells (List.replicate 80 (Value.int .u64 0)).toArray 109)).there w.heap.size 0 (cJ aW 80).size):=aw (heap_alloc_new _ _) 0 _ (by rw [aZ];simp)
 have hz:=eP
 go_enter Tryz.func77,Tryz.ntmps77
 go_wp2_with (first | (refine wpList_buildTo rfl 109 _ rfl (some 1) rfl (cJ aW 80) (by kernel_rfl) ?_) | (refine wpList_store_mid rfl 109 _ _ rfl w.heap.size 0 (cJ aW 80) rfl rfl HT.out (by rw [aZ];kernel_rfl) (by exact kL _ _) ?_))
 refine bodyPost_ret (v := .agg (cJ aW 80)) ?_ rfl ⟨rfl,?_⟩
 ·exact aN Tryz.results77 _ _ w.heap.size 0 (cJ aW 80).toList _ rfl (World.rangeAt_setCells_same _ _ _ _ HT.out) Tryz.underlying109 rfl (by rw [Array.length_toList,aZ];kernel_rfl)
 ·exact af _ (Nat.le_refl _) _ _ _ ((Below.refl _ _).alloc (Nat.le_refl _) _)
end Go.Proofs.YtajehiidpecknaaGreatDoor.Sh.Q5
namespace Go.Proofs.YtajehiidpecknaaGreatDoor.Sh.Q5
open Go Go.RowKit
structure ORel (w wr:World) (kb g Z:Nat) (f:Nat→BitVec 8) (st:St):Prop where
 below:Below w.heap.size w wr
 res:wr.heap[w.heap.size]? = some (.cells zb 29 (0,0))
 hrow:wr.heap[w.heap.size+1]? = some (.cells st.row 86 (0,0))
 kpos:w.heap.size+2≤kb∧kb<wr.heap.size
 gpos:w.heap.size+2≤g∧g<wr.heap.size
 ktab : ∀ i,i<80→wr.cell? ⟨kb,i,none⟩=some (U (aW i))
 msg : ∀ i,i<Z→wr.cell? ⟨g,i,none⟩=some (B (f i))
theorem ORel.keep {w wr wr':World} {kb g Z:Nat} {f:Nat→BitVec 8} {st st':St} (h:ORel w wr kb g Z f st) (hs:wr.heap.size≤wr'.heap.size) (hb:Below w.heap.size w wr')
  (hk : ∀ k,k<wr.heap.size→k≠w.heap.size+1→wr'.heap[k]? = wr.heap[k]?) (hr:wr'.heap[w.heap.size+1]? = some (.cells st'.row 86 (0,0))):ORel w wr' kb g Z f st':=by
 have h1:=h.kpos
 have h2:=h.gpos
 refine ⟨hb,?_,hr,⟨h1.1,by omega⟩,⟨h2.1,by omega⟩,fun i hi => ?_,fun i hi => ?_⟩
 ·rw [hk _ (by omega) (by omega)];exact h.res
 ·rw [World.cell?_of_block (w:=wr) (a:=⟨kb,i,none⟩) (hk kb h1.2 (by omega))];exact h.ktab i hi
 ·rw [World.cell?_of_block (w:=wr) (a:=⟨g,i,none⟩) (hk g h2.2 (by omega))];exact h.msg i hi
theorem ORel.below' {w wr wr':World} {kb g Z:Nat} {f:Nat→BitVec 8} {st:St} (h:ORel w wr kb g Z f st) (hb:Below wr.heap.size wr wr'):ORel w wr' kb g Z f st :=
 h.keep hb.size (h.below.trans (hb.mono h.below.size)) (fun k hk _=>hb.block k hk) (by have:=h.kpos;rw [hb.block _ (by omega)];exact h.hrow)
structure WRel (w wr:World) (kb g Z:Nat) (f:Nat→BitVec 8) (st:St) (q:Nat) (W:Nat→BitVec 64) (k:Nat):Prop where
 base:ORel w wr kb g Z f st
 pos:kb<q∧g<q∧w.heap.size+2≤q
 row:wr.heap[q]? = some (.cells (cJ W k) 109 (0,0))
theorem WRel.start {w wr:World} {kb g Z:Nat} {f:Nat→BitVec 8} {st:St} (h:ORel w wr kb g Z f st) (W:Nat→BitVec 64):WRel w (wr.alloc (.cells (List.replicate 80 (Value.int .u64 0)).toArray 109)) kb g Z f st wr.heap.size W 0 :=
 ⟨h.below' ((Below.refl _ _).alloc (Nat.le_refl _) _),⟨h.kpos.2,h.gpos.2,by have:=h.kpos;omega⟩,by rw [qd];exact heap_alloc_new _ _⟩
theorem WRel.cell {w wr:World} {kb g Z:Nat} {f:Nat→BitVec 8} {st:St} {q:Nat} {W:Nat→BitVec 64} {k:Nat} (h:WRel w wr kb g Z f st q W k) (i:Nat) (hi:i<80):wr.cell? ⟨q,i,none⟩=some (U (upto W k i)):=by
 rw [cell_of_row wr _ i _ _ _ h.row];exact en W k i hi
theorem WRel.froz {w wr:World} {kb g Z:Nat} {f:Nat→BitVec 8} {st:St} {q:Nat} {W:Nat→BitVec 64} {k:Nat} (h:WRel w wr kb g Z f st q W k) (i:Nat):wr.frozen? ⟨q,i,none⟩=false:=frozen_of_row _ _ _ _ _ h.row
theorem ORel.setAbove {w wr:World} {kb g Z:Nat} {f:Nat→BitVec 8} {st:St} (h:ORel w wr kb g Z f st) (q i:Nat) (v:Value) (hq:kb<q∧g<q∧w.heap.size+2≤q):ORel w (wr.setCell ⟨q,i,none⟩ v) kb g Z f st:=by
 have h1:=h.kpos
 have h2:=h.gpos
 refine ⟨h.below.setCell (by simp only;omega) _,?_,?_,⟨h1.1,by rw [size_setCell];exact h1.2⟩,⟨h2.1,by rw [size_setCell];exact h2.2⟩,fun j hj => ?_,fun j hj => ?_⟩
 ·rw [heap_setCell_other _ _ _ _ (by simp only;omega)];exact h.res
 ·rw [heap_setCell_other _ _ _ _ (by simp only;omega)];exact h.hrow
 ·rw [iS _ _ _ _ _ _ (by omega)];exact h.ktab j hj
 ·rw [iS _ _ _ _ _ _ (by omega)];exact h.msg j hj
theorem WRel.set {w wr:World} {kb g Z:Nat} {f:Nat→BitVec 8} {st:St} {q:Nat} {W:Nat→BitVec 64} {k:Nat} (h:WRel w wr kb g Z f st q W k):WRel w (wr.setCell ⟨q,k,none⟩ (U (W k))) kb g Z f st q W (k+1) :=
 ⟨h.base.setAbove q k _ h.pos,h.pos,by rw [heap_setCell_same _ _ _ _ _ _ h.row,ow]⟩
theorem ORel.drewN {w wr:World} {kb g Z:Nat} {f:Nat→BitVec 8} {st:St} (h:ORel w wr kb g Z f st) (n:Nat):ORel w (wr.drewN n) kb g Z f st :=
 ⟨fG h.below n,h.res,h.hrow,h.kpos,h.gpos,h.ktab,h.msg⟩
theorem WRel.drewN {w wr:World} {kb g Z:Nat} {f:Nat→BitVec 8} {st:St} {q:Nat} {W:Nat→BitVec 64} {k:Nat} (h:WRel w wr kb g Z f st q W k) (n:Nat):WRel w (wr.drewN n) kb g Z f st q W k :=
 ⟨h.base.drewN n,h.pos,h.row⟩
structure RRel (w wr:World) (kb g Z:Nat) (f:Nat→BitVec 8) (st:St) (q:Nat) (W:Nat→BitVec 64) (p:Nat) (r:St):Prop where
 base:WRel w wr kb g Z f st q W 80
 pos:q<p
 row:wr.heap[p]? = some (.cells r.row 86 (0,0))
theorem RRel.start {w wr:World} {kb g Z:Nat} {f:Nat→BitVec 8} {st:St} {q:Nat} {W:Nat→BitVec 64} (h:WRel w wr kb g Z f st q W 80) (r:St):RRel w (wr.alloc (.cells r.row 86)) kb g Z f st q W wr.heap.size r:=by
 have hb:Below wr.heap.size wr (wr.alloc (.cells r.row 86)):=(Below.refl _ _).alloc (Nat.le_refl _) _
 have hq:q<wr.heap.size:=(YM.1 h.row).1
 exact ⟨⟨h.base.below' hb,h.pos,by rw [hb.block q hq];exact h.row⟩,hq,heap_alloc_new _ _⟩
theorem RRel.put {w wr:World} {kb g Z:Nat} {f:Nat→BitVec 8} {st:St} {q:Nat} {W:Nat→BitVec 64} {p:Nat} {r:St} (h:RRel w wr kb g Z f st q W p r) (t:St):RRel w (wr.setCells p 0 t.row.toList) kb g Z f st q W p t:=by
 have h1:=h.base.base.kpos
 have h2:=h.base.base.gpos
 have h3:=h.base.pos
 have h4:=h.pos
 have hq:q<wr.heap.size:=(YM.1 h.base.row).1
 have hh:=af (B0:=p) (a:=wr) p (Nat.le_refl _) t.row.toList 0 wr (Below.refl _ _)
 refine ⟨⟨⟨h.base.base.below.trans (hh.mono (by omega)),?_,?_,⟨h1.1,YI h1.2 hh.size⟩,⟨h2.1,YI h2.2 hh.size⟩,fun i hi => ?_,fun i hi => ?_⟩,h3,?_⟩,h4,kC h.row rfl t⟩
 ·rw [hh.block _ (by omega)];exact h.base.base.res
 ·rw [hh.block _ (by omega)];exact h.base.base.hrow
 ·rw [hh.cell (p:=⟨kb,i,none⟩) (by show kb<p;omega)];exact h.base.base.ktab i hi
 ·rw [hh.cell (p:=⟨g,i,none⟩) (by show g<p;omega)];exact h.base.base.msg i hi
 ·rw [hh.block _ (by omega)];exact h.base.row
theorem RRel.drewN {w wr:World} {kb g Z:Nat} {f:Nat→BitVec 8} {st:St} {q:Nat} {W:Nat→BitVec 64} {p:Nat} {r:St} (h:RRel w wr kb g Z f st q W p r) (n:Nat):RRel w (wr.drewN n) kb g Z f st q W p r :=
 ⟨h.base.drewN n,h.pos,h.row⟩
def St.mk8 (s:Nat→BitVec 64):St:=⟨s 0,s 1,s 2,s 3,s 4,s 5,s 6,s 7⟩
def part (s t:St) (i:Nat):St:=St.mk8 fun j=>if j<i then s.at j+t.at j else s.at j
theorem Ar (s t:St):part s t 0=s:=by cases s;rfl
theorem wR (s t:St):part s t 8=plus s t:=by cases s;cases t;rfl
theorem LH (s:Nat→BitVec 64) : ∀ i,i<8→(St.mk8 s).at i=s i
 | 0,_=>rfl
 | 1,_=>rfl
 | 2,_=>rfl
 | 3,_=>rfl
 | 4,_=>rfl
 | 5,_=>rfl
 | 6,_=>rfl
 | 7,_=>rfl
theorem Ge {s:St} {cs:Array Value} (hs:cs.size=8) (h : ∀ i,i<8→cs[i]? = some (U (s.at i))):cs=s.row:=by
 apply Array.ext_getElem?
 intro i
 by_cases hi:i<8
 ·rw [h i hi,kh s i hi]
 ·rw [Array.getElem?_eq_none (by omega),Array.getElem?_eq_none (by simp [St.row];omega)]
theorem te (s t:St) (i j:Nat) (hj:j<8):(part s t i).at j=if j<i then s.at j+t.at j else s.at j:=LH _ j hj
theorem Cv (s t:St) (i:Nat):(part s t i).row.setIfInBounds i (U (s.at i+t.at i))=(part s t (i+1)).row:=by
 refine Ge (by simp [St.row]) (fun j hj => ?_)
 rw [Array.getElem?_setIfInBounds,te _ _ _ _ hj]
 by_cases e:i=j
 ·subst e;rw [if_pos rfl,if_pos (by simp [St.row];omega),if_pos (by omega)]
 ·rw [if_neg e,kh _ j hj,te _ _ _ _ hj]
  by_cases h1:j<i
  ·rw [if_pos h1,if_pos (by omega)]
  ·rw [if_neg h1,if_neg (by omega)]
theorem ORel.start {w w1 w2 w3:World} {v:Value} {Z g c:Nat} {f:Nat→BitVec 8} (C:Array Value) (hC:C.size=80)
  (hb1:Below (w.heap.size+2) ((w.alloc (.cells zb 29)).alloc (.cells cj.row 86)) w1)
  (hw2:w2=(w1.alloc (.cells C 109)).setCells w1.heap.size 0 (cJ aW 80).toList) (ho:Own w2 w3 v Z f) (hZ:0<Z) (hv:v = .slice (some ⟨g,0,none⟩) Z c):ORel w w3 w1.heap.size g Z f cj:=by
 obtain ⟨g',c',hv',hg1,hg2,_,hcell⟩:=ho.form hZ
 rw [hv] at hv'
 cases hv'
 have hs:=hb1.size
 have hs0:((w.alloc (.cells zb 29)).alloc (.cells cj.row 86)).heap.size=w.heap.size+2:=by simp
 rw [hs0] at hs
 have b12:Below w1.heap.size w1 w2:=by rw [hw2];exact af _ (Nat.le_refl _) _ _ _ ((Below.refl _ _).alloc (Nat.le_refl _) _)
 have hz2:w1.heap.size<w2.heap.size:=by
  rw [hw2]
  have:=(af (B0:=0) (a:=w1.alloc (.cells C 109)) w1.heap.size (Nat.zero_le _) (cJ aW 80).toList 0 _ (Below.refl _ _)).size
  have e:(w1.alloc (.cells C 109)).heap.size=w1.heap.size+1:=by simp
  omega
 have b23:=ho.below
 have b13:Below w1.heap.size w1 w3:=b12.trans (b23.mono (by omega))
 have b03:Below (w.heap.size+2) ((w.alloc (.cells zb 29)).alloc (.cells cj.row 86)) w3:=hb1.trans (b13.mono hs)
 have bw:Below w.heap.size w w3:=(((Below.refl _ _).alloc (Nat.le_refl _) _).alloc (by simp) _).trans (b03.mono (by omega))
 have hs23:=b23.size
 refine ⟨bw,?_,?_,⟨hs,by omega⟩,⟨by omega,hg2⟩,fun i hi => ?_,hcell⟩
 ·rw [b03.block _ (by omega)];exact heap_alloc2_old _ _ _
 ·rw [b03.block _ (by omega)];exact heap_alloc2_new _ _ _
 ·rw [b23.cell (p:=⟨w1.heap.size,i,none⟩) hz2,hw2]
  have:=World.rangeAt_setCells_same (w1.alloc (.cells C 109)) w1.heap.size 0 (cJ aW 80).toList (aw (heap_alloc_new _ _) 0 _ (by rw [Array.length_toList,aZ,hC];omega)) i (U (aW i)) (by rw [Array.getElem?_toList,en _ _ _ hi,upto,if_pos hi])
  simpa using this
structure XRel (w wr:World) (kb g Z:Nat) (f:Nat→BitVec 8) (st:St) (q k:Nat):Prop where
 base:ORel w wr kb g Z f st
 pos:kb<q∧g<q∧w.heap.size+2≤q
 cell : ∀ i,i<64→wr.cell? ⟨q,i,none⟩=some (if i<k then B (dj st i) else B 0)
 froz : ∀ i,wr.frozen? ⟨q,i,none⟩=false
theorem XRel.start {w wr:World} {kb g Z:Nat} {f:Nat→BitVec 8} {st:St} (h:ORel w wr kb g Z f st):XRel w (wr.alloc (.cells zb 29)) kb g Z f st wr.heap.size 0 :=
 ⟨h.below' ((Below.refl _ _).alloc (Nat.le_refl _) _),⟨h.kpos.2,h.gpos.2,by have:=h.kpos;omega⟩,fun i hi=>by rw [World.cell?_alloc_at _ _ _ _ rfl,zb,List.getElem?_toArray,List.getElem?_replicate,if_pos hi,if_neg (Nat.not_lt_zero i)];rfl,fun i=>World.frozen?_alloc_at _ _ _ _ rfl⟩
theorem XRel.hcell {w wr:World} {kb g Z:Nat} {f:Nat→BitVec 8} {st:St} {q k:Nat} (h:XRel w wr kb g Z f st q k) (i:Nat) (hi:i<8):wr.cell? ⟨w.heap.size+1,i,none⟩=some (U (st.at i)):=by
 rw [cell_of_row wr _ i _ _ _ h.base.hrow];exact kh st i hi
theorem XRel.put {w wr:World} {kb g Z:Nat} {f:Nat→BitVec 8} {st:St} {q k:Nat} (h:XRel w wr kb g Z f st q k) (hk:k<64):XRel w (wr.setCell ⟨q,k,none⟩ (B (dj st k))) kb g Z f st q (k+1):=by
 refine ⟨h.base.setAbove q k _ h.pos,h.pos,fun i hi => ?_,fun i => ?_⟩
 ·have ht:wr.there q k 1:=fun j hj=>⟨by rw [show k+j=k by omega,h.cell k hk];rfl,h.froz _⟩
  have:=jE wr q k i [B (dj st k)] ht
  rw [World.setCells,World.setCells] at this
  rw [this,List.length_singleton]
  by_cases e:i=k
  ·subst e;rw [if_pos (by omega),if_pos (by omega),Nat.sub_self];rfl
  ·have hne : ¬ (k≤i∧i<k+1):=by omega
   rw [if_neg hne,h.cell i hi]
   by_cases h1:i<k
   ·rw [if_pos h1,if_pos (by omega)]
   ·rw [if_neg h1,if_neg (by omega)]
 ·have:=World.frozen?_setCells q [B (dj st k)] k wr ⟨q,i,none⟩
  rw [World.setCells,World.setCells] at this
  rw [this];exact h.froz i
theorem RRel.scell {w wr:World} {kb g Z:Nat} {f:Nat→BitVec 8} {st:St} {q:Nat} {W:Nat→BitVec 64} {p:Nat} {r:St} (h:RRel w wr kb g Z f st q W p r) (i:Nat) (hi:i<8):wr.cell? ⟨p,i,none⟩=some (U (r.at i)):=by
 rw [cell_of_row wr _ i _ _ _ h.row];exact kh r i hi
theorem RRel.hcell {w wr:World} {kb g Z:Nat} {f:Nat→BitVec 8} {st:St} {q:Nat} {W:Nat→BitVec 64} {p:Nat} {r:St} (h:RRel w wr kb g Z f st q W p r) (i:Nat) (hi:i<8):wr.cell? ⟨w.heap.size+1,i,none⟩=some (U (st.at i)):=by
 rw [cell_of_row wr _ i _ _ _ h.base.base.hrow];exact kh st i hi
theorem RRel.wcell {w wr:World} {kb g Z:Nat} {f:Nat→BitVec 8} {st:St} {q:Nat} {W:Nat→BitVec 64} {p:Nat} {r:St} (h:RRel w wr kb g Z f st q W p r) (i:Nat) (hi:i<80):wr.cell? ⟨q,i,none⟩=some (U (W i)):=by
 rw [h.base.cell i hi,upto,if_pos hi]
theorem RRel.seth {w wr:World} {kb g Z:Nat} {f:Nat→BitVec 8} {s:St} {q:Nat} {W:Nat→BitVec 64} {p:Nat} {r:St} {i:Nat} (h:RRel w wr kb g Z f (part s r i) q W p r):RRel w (wr.setCell ⟨w.heap.size+1,i,none⟩ (U (s.at i+r.at i))) kb g Z f (part s r (i+1)) q W p r:=by
 have h1:=h.base.base.kpos
 have h2:=h.base.base.gpos
 have h3:=h.base.pos
 have h4:=h.pos
 have hk : ∀ k,k≠w.heap.size+1→(wr.setCell ⟨w.heap.size+1,i,none⟩ (U (s.at i+r.at i))).heap[k]? = wr.heap[k]? := fun k hk=>heap_setCell_other _ _ _ _ hk
 refine ⟨⟨h.base.base.keep (by rw [size_setCell];exact Nat.le_refl _) (h.base.base.below.setCell (by simp) _) (fun k _ hne=>hk k hne) ?_,h3,?_⟩,h4,?_⟩
 ·rw [heap_setCell_same _ _ _ _ _ _ h.base.base.hrow,Cv]
 ·rw [hk q (by omega)];exact h.base.row
 ·rw [hk p (by omega)];exact h.row
end Go.Proofs.YtajehiidpecknaaGreatDoor.Sh.Q5
