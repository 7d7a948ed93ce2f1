/- The reference's own small functions: 'rotr32', 'k256', and a message with what is laid behind it: 'padded'. -/
import Derived.Test.YtajehiidpecknaaGreatDoorShaG
import Derived.Deep.CutRange
import Derived.Lib.SlBytesConst
import Derived.Deep.AppendLies
import Derived.Laws.AppendOwnNone
set_option linter.all false
namespace Go.Proofs.YtajehiidpecknaaGreatDoor.Sh
open Go Go.RowKit
attribute [local go_sem] iP iJ mP iQ iK dn
def bl (f:Nat→BitVec 8) (k:Nat):List Value:=(List.range k).map fun i=>B (f i)
theorem bL (f:Nat→BitVec 8) (k:Nat):(bl f k).length=k:=by simp [bl]
theorem rH (f g:Nat→BitVec 8) (k:Nat) (h : ∀ i,i<k→f i=g i):bl f k=bl g k:=by
 unfold bl
 exact List.map_congr_left fun i hi=>by rw [h i (by simpa using hi)]
theorem H4 (f:Nat→BitVec 8) (k:Nat) : ∀ v ∈ bl f k,v.oneCell'=true:=kj k f
structure Own (w wr:World) (v:Value) (k:Nat) (f:Nat→BitVec 8):Prop where
 below:Below w.heap.size w wr
 own:wr.ownsRow w.heap.size 5 1 v k (bl f k)
theorem Own.blk {w wr:World} {v:Value} {k:Nat} {f:Nat→BitVec 8} (h:Own w wr v k f) : ∀ b,v.ownBlock=some b→w.heap.size≤b:=by
 intro b hb
 rcases h.own.2 with ⟨rfl,_⟩ | ⟨g,cap,cur,rfl,hg,_⟩
 ·simp [Value.ownBlock] at hb
 ·simp [Value.ownBlock] at hb;omega
theorem iz : ∃ i,Tryz.prog.info? 5=some i∧i.zero=some (.int .u8 0)∧i.size=1∧i.bytes=1:=by
 have h1:(Tryz.prog.info? 5).map (·.size)=some 1:=by kernel_rfl
 have h2:(Tryz.prog.info? 5).map (·.bytes)=some 1:=by kernel_rfl
 have h3:(Tryz.prog.info? 5).map (·.zero)=some (some (.int .u8 0)):=by kernel_rfl
 cases hq:Tryz.prog.info? 5 with
 | none=>rw [hq] at h1;cases h1
 | some i =>
  rw [hq] at h1 h2 h3
  exact ⟨i,rfl,Option.some.inj h3,Option.some.inj h1,Option.some.inj h2⟩
theorem Own.alloc {w wr:World} {v:Value} {k:Nat} {f:Nat→BitVec 8} (h:Own w wr v k f) (o:Obj):Own w (wr.alloc o) v k f :=
 ⟨h.below.alloc (by have:=h.below.size;omega) o,h.own.alloc o⟩
theorem Own.congr {w wr:World} {v:Value} {k:Nat} {f g:Nat→BitVec 8} (h:Own w wr v k f) (hg : ∀ i,i<k→f i=g i):Own w wr v k g :=
 ⟨h.below,by rw [←rH f g k hg];exact h.own⟩
theorem bz {ops:Array Oper} {rest:List Oper} {o:Oper} {a:Act} {Q:Exit→Act→World→Prop} {w wr:World} (hgd:o.guard=none) (s x:Operand) (ho:o.op = .call { callee := .builtin .append,args := #[s,x],argTypes := #[23,23] })
  (v:Value) (k:Nat) (f:Nat→BitVec 8) (hs:a.eval s=v) (h0:Own w wr v k f) (ad:Addr) (m c:Nat) (hx:a.eval x = .slice (some ad) m c) (f':Nat→BitVec 8) (hf : ∀ i,i<k→f i=f' i)
  (hg : ∀ i,i<m→wr.cell? (ad.add i)=some (B (f' (k+i)))) (hk:k+m≤140737488355328)
  (h : ∀ v' w',Own w w' v' (k+m) f'→wr.heap.size≤w'.heap.size→wpList Tryz.prog ops Q rest (a.put o.dst v') w'):wpList Tryz.prog ops Q (o :: rest) a wr:=by
 obtain ⟨i,hi,hz,hsz,hby⟩:=iz
 have hb:=h0.below.size
 refine wpList_append_own_at wr hgd s x 23 ho w.heap.size 5 i (.int .u8 0) 1 1 Tryz.underlying23 hi hz hsz hby rfl (by decide) v k (bl f k) hs h0.own ad m c (bl (fun j=>f' (k+j)) m) hx (by rw [bL];omega) ?_ (H4 _ _) (by unfold maxLen;omega) (by omega) hb ?_
 ·intro j u hu
  obtain ⟨hj,hv⟩:=List.getElem?_eq_some_iff.1 hu
  rw [bL] at hj
  rw [hg j hj,←hv]
  simp [bl]
 ·intro v' w' h1 h2 h3 h4
  refine h v' w' ⟨h0.below.grown h2 hb (fun b hb'=>h0.blk b hb'),?_⟩ h2.size
  have e:bl f k ++ bl (fun j=>f' (k+j)) m=bl f' (k+m):=by
   rw [rH f f' k hf]
   apply List.ext_getElem?
   intro j
   by_cases hj:j<k
   ·rw [List.getElem?_append_left (by rw [bL];exact hj)]
    simp [bl,hj,show j<k+m by omega]
   ·rw [List.getElem?_append_right (by rw [bL];omega),bL]
    by_cases hj2:j<k+m
    ·simp [bl,show j - k<m by omega,hj2,show k+(j - k)=j by omega]
    ·rw [List.getElem?_eq_none (by rw [bL];omega),List.getElem?_eq_none (by rw [bL];omega)]
  rw [←e];exact h1
def Src (w:World) (ad:Option Addr) (n cap:Nat) (m:Nat→BitVec 8):Prop :=
 (n=0∧cap=0) ∨ ∃ b off,ad=some ⟨b,off,none⟩∧b<w.heap.size ∧ ∀ i,i<n→w.cell? ⟨b,off+i,none⟩=some (B (m i))
theorem Src.below {w w':World} {ad:Option Addr} {n cap B0:Nat} {m:Nat→BitVec 8} (h:Src w ad n cap m) (hb:Below B0 w w') (hB:w.heap.size≤B0):Src w' ad n cap m:=by
 rcases h with h | ⟨b,off,rfl,hlt,hm⟩
 ·exact .inl h
 ·exact .inr ⟨b,off,rfl,Nat.lt_of_lt_of_le hlt hb.size,fun i hi=>(hb.cell (p:=⟨b,off+i,none⟩) (Nat.lt_of_lt_of_le hlt hB)).trans (hm i hi)⟩
theorem Src.congr {w:World} {ad:Option Addr} {n cap:Nat} {m m':Nat→BitVec 8} (h:Src w ad n cap m) (he : ∀ i,i<n→m i=m' i):Src w ad n cap m':=by
 rcases h with h | ⟨b,off,rfl,hlt,hm⟩
 ·exact .inl h
 ·exact .inr ⟨b,off,rfl,hlt,fun i hi=>(he i hi) ▸ hm i hi⟩
theorem DV {ops:Array Oper} {rest:List Oper} {o:Oper} {a:Act} {Q:Exit→Act→World→Prop} {w wr:World} (hgd:o.guard=none) (s x:Operand) (ho:o.op = .call { callee := .builtin .append,args := #[s,x],argTypes := #[23,23] })
  (v:Value) (k:Nat) (f:Nat→BitVec 8) (hs:a.eval s=v) (h0:Own w wr v k f) (ad:Option Addr) (m c:Nat) (hx:a.eval x = .slice ad m c) (f':Nat→BitVec 8) (hf : ∀ i,i<k→f i=f' i)
  (hg:Src wr ad m c (fun i=>f' (k+i))) (hk:k+m≤140737488355328)
  (h : ∀ v' w',Own w w' v' (k+m) f'→wr.heap.size≤w'.heap.size→wpList Tryz.prog ops Q rest (a.put o.dst v') w'):wpList Tryz.prog ops Q (o :: rest) a wr:=by
 rcases hg with ⟨rfl,rfl⟩ | ⟨b,off,rfl,_,hm⟩
 ·cases ad with
  | some A=>exact bz hgd s x ho v k f hs h0 A 0 0 hx f' hf (fun i hi=>absurd hi (Nat.not_lt_zero i)) hk h
  | none =>
  obtain ⟨i,hi,_⟩:=iz
  exact wpList_append_own_none hgd s x 23 ho w.heap.size 5 i 1 Tryz.underlying23 hi v k (bl f k) hs h0.own hx (h v wr (h0.congr hf) (Nat.le_refl _))
 ·exact bz hgd s x ho v k f hs h0 ⟨b,off,none⟩ m c hx f' hf (fun i hi=>by rw [bu];exact hm i hi) hk h
end Go.Proofs.YtajehiidpecknaaGreatDoor.Sh
namespace Go.Proofs.YtajehiidpecknaaGreatDoor.Sh
open Go Go.RowKit
attribute [local go_sem] wT tB tG mw tz tI sr AN
theorem Own.start (w:World) (f:Nat→BitVec 8):Own w (w.alloc (.cells #[] 5)) (.slice (some ⟨w.heap.size,0,none⟩) 0 0) 0 f :=
 ⟨(Below.refl _ _).alloc (Nat.le_refl _) _,rfl,Or.inr ⟨w.heap.size,0,#[],rfl,Nat.le_refl _,heap_alloc_new _ _,Nat.le_refl _,Nat.zero_le _,rfl,rfl⟩⟩
theorem Own.form {w wr:World} {v:Value} {k:Nat} {f:Nat→BitVec 8} (h:Own w wr v k f) (hk:0<k) : ∃ g cap,v = .slice (some ⟨g,0,none⟩) k cap∧w.heap.size≤g∧g<wr.heap.size∧k≤cap ∧ ∀ i,i<k→wr.cell? ⟨g,i,none⟩=some (B (f i)):=by
 rcases h.own.2 with ⟨_,h0⟩ | ⟨g,cap,cur,hv,hb,hg,hc,_,hs,ht⟩
 ·omega
 ·refine ⟨g,cap,hv,hb,(Array.getElem?_eq_some_iff.1 hg).1,hc,fun i hi => ?_⟩
  rw [cell_of_row wr g i cur _ _ hg]
  have e:(cur.toList.take (k*1))[i]? = some (B (f i)):=by rw [ht];simp [bl,hi]
  rw [List.getElem?_take,if_pos (by omega),Array.getElem?_toList] at e
  exact e
theorem bo (wr:World) (x:Value) (y:BitVec 8) (hx:x=B y) : ∀ i,i<1→(wr.alloc (.cells #[x] 5)).cell? ((⟨wr.heap.size,0,none⟩:Addr).add i)=some (B y):=by
 intro i hi
 obtain rfl:i=0:=by omega
 rw [hx,bu,World.cell?_alloc_at _ _ _ _ rfl];rfl
end Go.Proofs.YtajehiidpecknaaGreatDoor.Sh
namespace Go.Proofs.YtajehiidpecknaaGreatDoor.Sh.Q5
open Go Go.RowKit
attribute [local go_sem] iP iJ mP iQ iK dn
theorem xB (a b:BitVec 64):a ||| b=b ||| a:=BitVec.or_comm a b
set_option maxHeartbeats 400000 in
theorem v8 (x:BitVec 64) (k:Int) (h1:1≤k) (h2:k≤63) (w:World) :
  Calls Tryz.prog 79 #[U x,.int .u64 k] w fun e w'=>e = .returned (U (fJ x k.toNat))∧w'=w:=by
 obtain ⟨n,rfl⟩:=Int.eq_ofNat_of_zero_le (show 0≤k by omega)
 have hw:IntKind.u64.wrap (64 - (n:Int))=((64 - n:Nat):Int):=by rw [IntKind.wrap_u64];omega
 have m1:min n 64=n:=by omega
 have m2:min (64 - n) 64=64 - n:=by omega
 have HE:Hid (x >>> n ||| x <<< (64 - n)=fJ x n):=by unfold fJ;exact xB _ _
 go_enter Tryz.func79,Tryz.ntmps79
 go_wp2
 go_ret
 exact ⟨congrArg (fun y=>Ending.returned (U y)) HE.out,rfl⟩
end Go.Proofs.YtajehiidpecknaaGreatDoor.Sh.Q5
namespace Go.Proofs.YtajehiidpecknaaGreatDoor.Sh.Q5
open Go Go.RowKit
attribute [local go_sem] wT tB tG mw tz tI sr AN
set_option maxRecDepth 100000 in
set_option maxHeartbeats 1000000 in
theorem zj (m:Nat→BitVec 8) (ad:Option Addr) (n cap:Nat) (hn:n<140737488354800) (w:World) (hm:Src w ad n cap m) :
  Calls Tryz.prog 78 #[.slice ad n cap,.int .i64 128,.int .i64 16] w fun e w' => ∃ v,e = .returned v∧Own w w' v (128*ft n) (aw m n):=by
 have HM:Hid (Src w ad n cap m):=hm
 clear hm
 have hn1:(n:Int)<140737488354800:=by omega
 have HO:Hid (Own w (w.alloc (.cells #[] 5)) (.slice (some ⟨w.heap.size,0,none⟩) 0 0) 0 (aw m n)):=Own.start w _
 have HG:Hid (Src (w.alloc (.cells #[] 5)) ad n cap (fun i=>aw m n (0+i))) :=
  (HM.out.below ((Below.refl w.heap.size w).alloc (Nat.le_refl _) _) (Nat.le_refl _)).congr (fun i hi=>by rw [Nat.zero_add,aw,if_pos hi])
 go_enter Tryz.func78,Tryz.ntmps78
 have HC2:Hid (∀ W:World,∀ i,i<1→(W.alloc (.cells #[.int .u8 128] 5)).cell? ((⟨W.heap.size,0,none⟩:Addr).add i)=some (B (aw m n (n+i)))):=fun W i hi=>by
  rw [show n+i=n by omega,show aw m n n=128 by rw [aw,if_neg (by omega),if_pos rfl]];exact bo W _ 128 rfl i hi
 go_wp2_with (first | (at_builtin;refine DV rfl (.tmp 10) (.tmp 11) rfl _ 0 (aw m n) rfl HO.out ad n cap rfl (aw m n) (fun _ _=>rfl) HG.out (by omega) ?_;intro v1 w1 h1 hs1;rw [Nat.zero_add] at h1;have H1:Hid (Own w w1 v1 n (aw m n)):=h1;clear h1) | (at_builtin;refine bz rfl (.tmp 13) (.tmp 14) rfl _ n (aw m n) rfl (Own.alloc H1.out _) ⟨w1.heap.size,0,none⟩ 1 1 rfl (aw m n) (fun _ _=>rfl) (HC2.out w1) (by omega) ?_;intro v2 w2 h2 hs2;have H2:Hid (Own w w2 v2 (n+1) (aw m n)):=h2;clear h2;obtain ⟨g2,cap2,hv2,-⟩:=H2.out.form (by omega);rw [hv2] at H2;rw [hv2];clear hv2 hs2))
 clear HC2 HG HO
 obtain ⟨Z,hZ⟩ : ∃ Z,Z=128*ft n:=⟨_,rfl⟩
 have hZ1:n+17≤Z∧Z≤n+144∧Z % 128=0:=by rw [hZ];unfold ft;omega
 have HZ:Hid (Z=128*ft n):=hZ
 have HZ1:Hid (n+17≤Z∧Z≤n+144∧Z % 128=0):=hZ1
 clear hZ hZ1
 go_loopw [7] (fun x wr => ∃ L g c:Nat,n+1≤L∧L+16≤Z∧x = .slice (some ⟨g,0,none⟩) L c∧Own w wr x L (aw m n)) (fun x _=>Z - lenOf x)
 case atStart=>exact ⟨n+1,g2,cap2,Nat.le_refl _,by have:=HZ1.out;omega,rfl,H2.out⟩
 case round =>
  obtain ⟨L,g,c,hL1,hL2,rfl,ho⟩:=hrel
  have HOW:Hid (Own w _ (.slice (some ⟨g,0,none⟩) L c) L (aw m n)):=ho
  clear ho H2 H1
  have hL3:(L:Int)<140737488355000:=by have:=HZ1.out;omega
  by_cases hz:L+16=Z
  ·have hb:(((L:Int)+16) % 128 != 0)=false:=by have:=HZ1.out;simp;omega
   have HZL:Hid (L+16=Z):=hz
   clear hz hL2
   obtain ⟨X,hX⟩ : ∃ X,X=BitVec.ofNat 64 (8*n):=⟨_,rfl⟩
   have hx:(n:Int)*8=ul X:=by
    rw [hX]
    show (n:Int)*8=((BitVec.ofNat 64 (8*n)).toNat:Int)
    rw [BitVec.toNat_ofNat];omega
   have HX:Hid (X=BitVec.ofNat 64 (8*n)):=hX
   clear hX
   have HP:Hid (∀ t,t<16→aw m n (L+t)=bB n t):=fun t ht=>by
    have e1:=HZ.out
    have e2:=HZL.out
    rw [aw,if_neg (by omega),if_neg (by omega),if_neg (by omega),show L+t - (128*ft n - 16)=t by omega]
   go_wp2_with fail
   go_loopw [7,9] (fun x i wr => ∃ t g c:Nat,t≤16∧x = .slice (some ⟨g,0,none⟩) (L+t) c∧i = .int .i64 (15 - (t:Int))∧Own w wr x (L+t) (aw m n)) (fun _ i _=>(intOf i+1).toNat)
   case atStart=>exact ⟨0,g,c,by omega,rfl,rfl,HOW.out⟩
   case round =>
    obtain ⟨t,g,c,ht,rfl,rfl,ho⟩:=hrel
    have HOW2:Hid (Own w _ (.slice (some ⟨g,0,none⟩) (L+t) c) (L+t) (aw m n)):=ho
    clear ho HOW
    obtain rfl | rfl | rfl | rfl | rfl | rfl | rfl | rfl | rfl | rfl | rfl | rfl | rfl | rfl | rfl | rfl | rfl:t=0∨t=1∨t=2∨t=3∨t=4∨t=5∨t=6∨t=7∨t=8∨t=9∨t=10∨t=11∨t=12∨t=13∨t=14∨t=15∨t=16:=by omega
    ·have HC:Hid (∀ W:World,∀ i,i<1→(W.alloc (.cells #[.int .u8 0] 5)).cell? ((⟨W.heap.size,0,none⟩:Addr).add i)=some (B (aw m n (L+0+i)))):=fun W i hi=>by
      rw [show L+0+i=L+0 by omega,HP.out 0 (by omega),show bB n 0=0 from rfl];exact bo W _ 0 rfl i hi
     go_wp2_with (at_builtin;refine bz rfl (.tmp 38) (.tmp 39) rfl _ (L+0) (aw m n) rfl (Own.alloc HOW2.out _) ⟨_,0,none⟩ 1 1 rfl (aw m n) (fun _ _=>rfl) (HC.out _) (by omega) ?_;intro v3 w3 h3 hs3;obtain ⟨g3,cap3,hv3,-⟩:=h3.form (by omega);have H3:Hid (Own w w3 v3 (L+0+1) (aw m n)):=h3;clear h3 hs3;rw [hv3] at H3;rw [hv3];clear hv3)
     first | exact ⟨⟨1,g3,cap3,by omega,rfl,rfl,H3.out⟩,by simp [intOf]⟩ | (go_roundw;(case rel=>exact ⟨1,g3,cap3,by omega,rfl,rfl,H3.out⟩);(case measure=>simp [intOf]))
    ·have HC:Hid (∀ W:World,∀ i,i<1→(W.alloc (.cells #[.int .u8 0] 5)).cell? ((⟨W.heap.size,0,none⟩:Addr).add i)=some (B (aw m n (L+1+i)))):=fun W i hi=>by
      rw [show L+1+i=L+1 by omega,HP.out 1 (by omega),show bB n 1=0 from rfl];exact bo W _ 0 rfl i hi
     go_wp2_with (at_builtin;refine bz rfl (.tmp 38) (.tmp 39) rfl _ (L+1) (aw m n) rfl (Own.alloc HOW2.out _) ⟨_,0,none⟩ 1 1 rfl (aw m n) (fun _ _=>rfl) (HC.out _) (by omega) ?_;intro v3 w3 h3 hs3;obtain ⟨g3,cap3,hv3,-⟩:=h3.form (by omega);have H3:Hid (Own w w3 v3 (L+1+1) (aw m n)):=h3;clear h3 hs3;rw [hv3] at H3;rw [hv3];clear hv3)
     first | exact ⟨⟨2,g3,cap3,by omega,rfl,rfl,H3.out⟩,by simp [intOf]⟩ | (go_roundw;(case rel=>exact ⟨2,g3,cap3,by omega,rfl,rfl,H3.out⟩);(case measure=>simp [intOf]))
    ·have HC:Hid (∀ W:World,∀ i,i<1→(W.alloc (.cells #[.int .u8 0] 5)).cell? ((⟨W.heap.size,0,none⟩:Addr).add i)=some (B (aw m n (L+2+i)))):=fun W i hi=>by
      rw [show L+2+i=L+2 by omega,HP.out 2 (by omega),show bB n 2=0 from rfl];exact bo W _ 0 rfl i hi
     go_wp2_with (at_builtin;refine bz rfl (.tmp 38) (.tmp 39) rfl _ (L+2) (aw m n) rfl (Own.alloc HOW2.out _) ⟨_,0,none⟩ 1 1 rfl (aw m n) (fun _ _=>rfl) (HC.out _) (by omega) ?_;intro v3 w3 h3 hs3;obtain ⟨g3,cap3,hv3,-⟩:=h3.form (by omega);have H3:Hid (Own w w3 v3 (L+2+1) (aw m n)):=h3;clear h3 hs3;rw [hv3] at H3;rw [hv3];clear hv3)
     first | exact ⟨⟨3,g3,cap3,by omega,rfl,rfl,H3.out⟩,by simp [intOf]⟩ | (go_roundw;(case rel=>exact ⟨3,g3,cap3,by omega,rfl,rfl,H3.out⟩);(case measure=>simp [intOf]))
    ·have HC:Hid (∀ W:World,∀ i,i<1→(W.alloc (.cells #[.int .u8 0] 5)).cell? ((⟨W.heap.size,0,none⟩:Addr).add i)=some (B (aw m n (L+3+i)))):=fun W i hi=>by
      rw [show L+3+i=L+3 by omega,HP.out 3 (by omega),show bB n 3=0 from rfl];exact bo W _ 0 rfl i hi
     go_wp2_with (at_builtin;refine bz rfl (.tmp 38) (.tmp 39) rfl _ (L+3) (aw m n) rfl (Own.alloc HOW2.out _) ⟨_,0,none⟩ 1 1 rfl (aw m n) (fun _ _=>rfl) (HC.out _) (by omega) ?_;intro v3 w3 h3 hs3;obtain ⟨g3,cap3,hv3,-⟩:=h3.form (by omega);have H3:Hid (Own w w3 v3 (L+3+1) (aw m n)):=h3;clear h3 hs3;rw [hv3] at H3;rw [hv3];clear hv3)
     first | exact ⟨⟨4,g3,cap3,by omega,rfl,rfl,H3.out⟩,by simp [intOf]⟩ | (go_roundw;(case rel=>exact ⟨4,g3,cap3,by omega,rfl,rfl,H3.out⟩);(case measure=>simp [intOf]))
    ·have HC:Hid (∀ W:World,∀ i,i<1→(W.alloc (.cells #[.int .u8 0] 5)).cell? ((⟨W.heap.size,0,none⟩:Addr).add i)=some (B (aw m n (L+4+i)))):=fun W i hi=>by
      rw [show L+4+i=L+4 by omega,HP.out 4 (by omega),show bB n 4=0 from rfl];exact bo W _ 0 rfl i hi
     go_wp2_with (at_builtin;refine bz rfl (.tmp 38) (.tmp 39) rfl _ (L+4) (aw m n) rfl (Own.alloc HOW2.out _) ⟨_,0,none⟩ 1 1 rfl (aw m n) (fun _ _=>rfl) (HC.out _) (by omega) ?_;intro v3 w3 h3 hs3;obtain ⟨g3,cap3,hv3,-⟩:=h3.form (by omega);have H3:Hid (Own w w3 v3 (L+4+1) (aw m n)):=h3;clear h3 hs3;rw [hv3] at H3;rw [hv3];clear hv3)
     first | exact ⟨⟨5,g3,cap3,by omega,rfl,rfl,H3.out⟩,by simp [intOf]⟩ | (go_roundw;(case rel=>exact ⟨5,g3,cap3,by omega,rfl,rfl,H3.out⟩);(case measure=>simp [intOf]))
    ·have HC:Hid (∀ W:World,∀ i,i<1→(W.alloc (.cells #[.int .u8 0] 5)).cell? ((⟨W.heap.size,0,none⟩:Addr).add i)=some (B (aw m n (L+5+i)))):=fun W i hi=>by
      rw [show L+5+i=L+5 by omega,HP.out 5 (by omega),show bB n 5=0 from rfl];exact bo W _ 0 rfl i hi
     go_wp2_with (at_builtin;refine bz rfl (.tmp 38) (.tmp 39) rfl _ (L+5) (aw m n) rfl (Own.alloc HOW2.out _) ⟨_,0,none⟩ 1 1 rfl (aw m n) (fun _ _=>rfl) (HC.out _) (by omega) ?_;intro v3 w3 h3 hs3;obtain ⟨g3,cap3,hv3,-⟩:=h3.form (by omega);have H3:Hid (Own w w3 v3 (L+5+1) (aw m n)):=h3;clear h3 hs3;rw [hv3] at H3;rw [hv3];clear hv3)
     first | exact ⟨⟨6,g3,cap3,by omega,rfl,rfl,H3.out⟩,by simp [intOf]⟩ | (go_roundw;(case rel=>exact ⟨6,g3,cap3,by omega,rfl,rfl,H3.out⟩);(case measure=>simp [intOf]))
    ·have HC:Hid (∀ W:World,∀ i,i<1→(W.alloc (.cells #[.int .u8 0] 5)).cell? ((⟨W.heap.size,0,none⟩:Addr).add i)=some (B (aw m n (L+6+i)))):=fun W i hi=>by
      rw [show L+6+i=L+6 by omega,HP.out 6 (by omega),show bB n 6=0 from rfl];exact bo W _ 0 rfl i hi
     go_wp2_with (at_builtin;refine bz rfl (.tmp 38) (.tmp 39) rfl _ (L+6) (aw m n) rfl (Own.alloc HOW2.out _) ⟨_,0,none⟩ 1 1 rfl (aw m n) (fun _ _=>rfl) (HC.out _) (by omega) ?_;intro v3 w3 h3 hs3;obtain ⟨g3,cap3,hv3,-⟩:=h3.form (by omega);have H3:Hid (Own w w3 v3 (L+6+1) (aw m n)):=h3;clear h3 hs3;rw [hv3] at H3;rw [hv3];clear hv3)
     first | exact ⟨⟨7,g3,cap3,by omega,rfl,rfl,H3.out⟩,by simp [intOf]⟩ | (go_roundw;(case rel=>exact ⟨7,g3,cap3,by omega,rfl,rfl,H3.out⟩);(case measure=>simp [intOf]))
    ·have HC:Hid (∀ W:World,∀ i,i<1→(W.alloc (.cells #[.int .u8 0] 5)).cell? ((⟨W.heap.size,0,none⟩:Addr).add i)=some (B (aw m n (L+7+i)))):=fun W i hi=>by
      rw [show L+7+i=L+7 by omega,HP.out 7 (by omega),show bB n 7=0 from rfl];exact bo W _ 0 rfl i hi
     go_wp2_with (at_builtin;refine bz rfl (.tmp 38) (.tmp 39) rfl _ (L+7) (aw m n) rfl (Own.alloc HOW2.out _) ⟨_,0,none⟩ 1 1 rfl (aw m n) (fun _ _=>rfl) (HC.out _) (by omega) ?_;intro v3 w3 h3 hs3;obtain ⟨g3,cap3,hv3,-⟩:=h3.form (by omega);have H3:Hid (Own w w3 v3 (L+7+1) (aw m n)):=h3;clear h3 hs3;rw [hv3] at H3;rw [hv3];clear hv3)
     first | exact ⟨⟨8,g3,cap3,by omega,rfl,rfl,H3.out⟩,by simp [intOf]⟩ | (go_roundw;(case rel=>exact ⟨8,g3,cap3,by omega,rfl,rfl,H3.out⟩);(case measure=>simp [intOf]))
    ·have HC:Hid (∀ W:World,∀ i,i<1→(W.alloc (.cells #[.int .u8 (ub ((X >>> 56).setWidth 8))] 5)).cell? ((⟨W.heap.size,0,none⟩:Addr).add i)=some (B (aw m n (L+8+i)))):=fun W i hi=>by
      rw [show L+8+i=L+8 by omega,HP.out 8 (by omega)];exact bo W _ _ (by rw [bB,if_neg (by omega),←HX.out]) i hi
     go_wp2_with (at_builtin;refine bz rfl (.tmp 41) (.tmp 48) rfl _ (L+8) (aw m n) rfl (Own.alloc HOW2.out _) ⟨_,0,none⟩ 1 1 rfl (aw m n) (fun _ _=>rfl) (HC.out _) (by omega) ?_;intro v3 w3 h3 hs3;obtain ⟨g3,cap3,hv3,-⟩:=h3.form (by omega);have H3:Hid (Own w w3 v3 (L+8+1) (aw m n)):=h3;clear h3 hs3;rw [hv3] at H3;rw [hv3];clear hv3)
     first | exact ⟨⟨9,g3,cap3,by omega,rfl,rfl,H3.out⟩,by simp [intOf]⟩ | (go_roundw;(case rel=>exact ⟨9,g3,cap3,by omega,rfl,rfl,H3.out⟩);(case measure=>simp [intOf]))
    ·have HC:Hid (∀ W:World,∀ i,i<1→(W.alloc (.cells #[.int .u8 (ub ((X >>> 48).setWidth 8))] 5)).cell? ((⟨W.heap.size,0,none⟩:Addr).add i)=some (B (aw m n (L+9+i)))):=fun W i hi=>by
      rw [show L+9+i=L+9 by omega,HP.out 9 (by omega)];exact bo W _ _ (by rw [bB,if_neg (by omega),←HX.out]) i hi
     go_wp2_with (at_builtin;refine bz rfl (.tmp 41) (.tmp 48) rfl _ (L+9) (aw m n) rfl (Own.alloc HOW2.out _) ⟨_,0,none⟩ 1 1 rfl (aw m n) (fun _ _=>rfl) (HC.out _) (by omega) ?_;intro v3 w3 h3 hs3;obtain ⟨g3,cap3,hv3,-⟩:=h3.form (by omega);have H3:Hid (Own w w3 v3 (L+9+1) (aw m n)):=h3;clear h3 hs3;rw [hv3] at H3;rw [hv3];clear hv3)
     first | exact ⟨⟨10,g3,cap3,by omega,rfl,rfl,H3.out⟩,by simp [intOf]⟩ | (go_roundw;(case rel=>exact ⟨10,g3,cap3,by omega,rfl,rfl,H3.out⟩);(case measure=>simp [intOf]))
    ·have HC:Hid (∀ W:World,∀ i,i<1→(W.alloc (.cells #[.int .u8 (ub ((X >>> 40).setWidth 8))] 5)).cell? ((⟨W.heap.size,0,none⟩:Addr).add i)=some (B (aw m n (L+10+i)))):=fun W i hi=>by
      rw [show L+10+i=L+10 by omega,HP.out 10 (by omega)];exact bo W _ _ (by rw [bB,if_neg (by omega),←HX.out]) i hi
     go_wp2_with (at_builtin;refine bz rfl (.tmp 41) (.tmp 48) rfl _ (L+10) (aw m n) rfl (Own.alloc HOW2.out _) ⟨_,0,none⟩ 1 1 rfl (aw m n) (fun _ _=>rfl) (HC.out _) (by omega) ?_;intro v3 w3 h3 hs3;obtain ⟨g3,cap3,hv3,-⟩:=h3.form (by omega);have H3:Hid (Own w w3 v3 (L+10+1) (aw m n)):=h3;clear h3 hs3;rw [hv3] at H3;rw [hv3];clear hv3)
     first | exact ⟨⟨11,g3,cap3,by omega,rfl,rfl,H3.out⟩,by simp [intOf]⟩ | (go_roundw;(case rel=>exact ⟨11,g3,cap3,by omega,rfl,rfl,H3.out⟩);(case measure=>simp [intOf]))
    ·have HC:Hid (∀ W:World,∀ i,i<1→(W.alloc (.cells #[.int .u8 (ub ((X >>> 32).setWidth 8))] 5)).cell? ((⟨W.heap.size,0,none⟩:Addr).add i)=some (B (aw m n (L+11+i)))):=fun W i hi=>by
      rw [show L+11+i=L+11 by omega,HP.out 11 (by omega)];exact bo W _ _ (by rw [bB,if_neg (by omega),←HX.out]) i hi
     go_wp2_with (at_builtin;refine bz rfl (.tmp 41) (.tmp 48) rfl _ (L+11) (aw m n) rfl (Own.alloc HOW2.out _) ⟨_,0,none⟩ 1 1 rfl (aw m n) (fun _ _=>rfl) (HC.out _) (by omega) ?_;intro v3 w3 h3 hs3;obtain ⟨g3,cap3,hv3,-⟩:=h3.form (by omega);have H3:Hid (Own w w3 v3 (L+11+1) (aw m n)):=h3;clear h3 hs3;rw [hv3] at H3;rw [hv3];clear hv3)
     first | exact ⟨⟨12,g3,cap3,by omega,rfl,rfl,H3.out⟩,by simp [intOf]⟩ | (go_roundw;(case rel=>exact ⟨12,g3,cap3,by omega,rfl,rfl,H3.out⟩);(case measure=>simp [intOf]))
    ·have HC:Hid (∀ W:World,∀ i,i<1→(W.alloc (.cells #[.int .u8 (ub ((X >>> 24).setWidth 8))] 5)).cell? ((⟨W.heap.size,0,none⟩:Addr).add i)=some (B (aw m n (L+12+i)))):=fun W i hi=>by
      rw [show L+12+i=L+12 by omega,HP.out 12 (by omega)];exact bo W _ _ (by rw [bB,if_neg (by omega),←HX.out]) i hi
     go_wp2_with (at_builtin;refine bz rfl (.tmp 41) (.tmp 48) rfl _ (L+12) (aw m n) rfl (Own.alloc HOW2.out _) ⟨_,0,none⟩ 1 1 rfl (aw m n) (fun _ _=>rfl) (HC.out _) (by omega) ?_;intro v3 w3 h3 hs3;obtain ⟨g3,cap3,hv3,-⟩:=h3.form (by omega);have H3:Hid (Own w w3 v3 (L+12+1) (aw m n)):=h3;clear h3 hs3;rw [hv3] at H3;rw [hv3];clear hv3)
     first | exact ⟨⟨13,g3,cap3,by omega,rfl,rfl,H3.out⟩,by simp [intOf]⟩ | (go_roundw;(case rel=>exact ⟨13,g3,cap3,by omega,rfl,rfl,H3.out⟩);(case measure=>simp [intOf]))
    ·have HC:Hid (∀ W:World,∀ i,i<1→(W.alloc (.cells #[.int .u8 (ub ((X >>> 16).setWidth 8))] 5)).cell? ((⟨W.heap.size,0,none⟩:Addr).add i)=some (B (aw m n (L+13+i)))):=fun W i hi=>by
      rw [show L+13+i=L+13 by omega,HP.out 13 (by omega)];exact bo W _ _ (by rw [bB,if_neg (by omega),←HX.out]) i hi
     go_wp2_with (at_builtin;refine bz rfl (.tmp 41) (.tmp 48) rfl _ (L+13) (aw m n) rfl (Own.alloc HOW2.out _) ⟨_,0,none⟩ 1 1 rfl (aw m n) (fun _ _=>rfl) (HC.out _) (by omega) ?_;intro v3 w3 h3 hs3;obtain ⟨g3,cap3,hv3,-⟩:=h3.form (by omega);have H3:Hid (Own w w3 v3 (L+13+1) (aw m n)):=h3;clear h3 hs3;rw [hv3] at H3;rw [hv3];clear hv3)
     first | exact ⟨⟨14,g3,cap3,by omega,rfl,rfl,H3.out⟩,by simp [intOf]⟩ | (go_roundw;(case rel=>exact ⟨14,g3,cap3,by omega,rfl,rfl,H3.out⟩);(case measure=>simp [intOf]))
    ·have HC:Hid (∀ W:World,∀ i,i<1→(W.alloc (.cells #[.int .u8 (ub ((X >>> 8).setWidth 8))] 5)).cell? ((⟨W.heap.size,0,none⟩:Addr).add i)=some (B (aw m n (L+14+i)))):=fun W i hi=>by
      rw [show L+14+i=L+14 by omega,HP.out 14 (by omega)];exact bo W _ _ (by rw [bB,if_neg (by omega),←HX.out]) i hi
     go_wp2_with (at_builtin;refine bz rfl (.tmp 41) (.tmp 48) rfl _ (L+14) (aw m n) rfl (Own.alloc HOW2.out _) ⟨_,0,none⟩ 1 1 rfl (aw m n) (fun _ _=>rfl) (HC.out _) (by omega) ?_;intro v3 w3 h3 hs3;obtain ⟨g3,cap3,hv3,-⟩:=h3.form (by omega);have H3:Hid (Own w w3 v3 (L+14+1) (aw m n)):=h3;clear h3 hs3;rw [hv3] at H3;rw [hv3];clear hv3)
     first | exact ⟨⟨15,g3,cap3,by omega,rfl,rfl,H3.out⟩,by simp [intOf]⟩ | (go_roundw;(case rel=>exact ⟨15,g3,cap3,by omega,rfl,rfl,H3.out⟩);(case measure=>simp [intOf]))
    ·have HC:Hid (∀ W:World,∀ i,i<1→(W.alloc (.cells #[.int .u8 (ub (X.setWidth 8))] 5)).cell? ((⟨W.heap.size,0,none⟩:Addr).add i)=some (B (aw m n (L+15+i)))):=fun W i hi=>by
      rw [show L+15+i=L+15 by omega,HP.out 15 (by omega)];exact bo W _ _ (by rw [bB,if_neg (by omega),←HX.out];simp) i hi
     go_wp2_with (at_builtin;refine bz rfl (.tmp 41) (.tmp 48) rfl _ (L+15) (aw m n) rfl (Own.alloc HOW2.out _) ⟨_,0,none⟩ 1 1 rfl (aw m n) (fun _ _=>rfl) (HC.out _) (by omega) ?_;intro v3 w3 h3 hs3;obtain ⟨g3,cap3,hv3,-⟩:=h3.form (by omega);have H3:Hid (Own w w3 v3 (L+15+1) (aw m n)):=h3;clear h3 hs3;rw [hv3] at H3;rw [hv3];clear hv3)
     first | exact ⟨⟨16,g3,cap3,by omega,rfl,rfl,H3.out⟩,by simp [intOf]⟩ | (go_roundw;(case rel=>exact ⟨16,g3,cap3,by omega,rfl,rfl,H3.out⟩);(case measure=>simp [intOf]))
    ·go_wp2
     go_ret
     refine ⟨_,rfl,?_⟩
     rw [←HZ.out,←HZL.out];exact HOW2.out
  ·have hb:(((L:Int)+16) % 128 != 0)=true:=by have:=HZ1.out;simp;omega
   have HC:Hid (∀ W:World,∀ i,i<1→(W.alloc (.cells #[.int .u8 0] 5)).cell? ((⟨W.heap.size,0,none⟩:Addr).add i)=some (B (aw m n (L+i)))):=fun W i hi=>by
    have e1:=HZ.out
    rw [show L+i=L by omega,show aw m n L=0 by rw [aw,if_neg (by omega),if_neg (by omega),if_pos (by omega)]];exact bo W _ 0 rfl i hi
   have hL4:L+1+16≤Z:=by omega
   clear hz
   go_wp2_with (at_builtin;refine bz rfl (.tmp 23) (.tmp 24) rfl _ L (aw m n) rfl (Own.alloc HOW.out _) ⟨_,0,none⟩ 1 1 rfl (aw m n) (fun _ _=>rfl) (HC.out _) (by omega) ?_;intro v3 w3 h3 hs3;obtain ⟨g3,cap3,hv3,-⟩:=h3.form (by omega);have H3:Hid (Own w w3 v3 (L+1) (aw m n)):=h3;clear h3 hs3;rw [hv3] at H3;rw [hv3];clear hv3)
   exact ⟨⟨L+1,g3,cap3,by omega,hL4,rfl,H3.out⟩,by simp [lenOf];omega⟩
end Go.Proofs.YtajehiidpecknaaGreatDoor.Sh.Q5
