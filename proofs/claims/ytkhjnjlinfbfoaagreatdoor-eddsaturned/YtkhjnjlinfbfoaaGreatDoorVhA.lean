/- SHA-512 of lists of integers: what the program and the reference answer. -/
import Derived.Test.YtkhjnjlinfbfoaaGreatDoorWirA
import Derived.Test.YtkhjnjlinfbfoaaGreatDoorQ5S
import Derived.Test.YtkhjnjlinfbfoaaGreatDoorQ5RE
import Derived.Test.YtkhjnjlinfbfoaaGreatDoorPoiTC
import Derived.Test.YtkhjnjlinfbfoaaGreatDoorScpB
import Derived.Test.YtkhjnjlinfbfoaaGreatDoorScrB
import Derived.Test.YtkhjnjlinfbfoaaGreatDoorVkA
import Derived.Test.YtkhjnjlinfbfoaaGreatDoorMemG
set_option linter.unusedSimpArgs false
set_option linter.unusedVariables false
namespace Go.Proofs.YtkhjnjlinfbfoaaGreatDoor.Wi
open Go Go.RowKit
set_option maxRecDepth 100000
def hm (xs:List Int):Nat→BitVec 8:=fun i=>BitVec.ofInt 8 (gi xs i)
def row64 (S:Sh.Q5.St):List Int:=(List.range 64).map fun i=>Sh.ub (Sh.Q5.sbyte S i)
def h5 (xs:List Int):List Int:=row64 (Sh.Q5.sumSt Sh.Q5.K512 Sh.Q5.H512 (hm xs) xs.length)
theorem row64_length (S:Sh.Q5.St):(row64 S).length=64:=by simp [row64]
theorem h5_length (xs:List Int):(h5 xs).length=64:=row64_length _
theorem srow_bv (S:Sh.Q5.St):Sh.Q5.srow S=(bv (row64 S)).toArray:=by
 unfold Sh.Q5.srow bv row64
 rw [List.map_map];rfl
theorem row64_byt (S:Sh.Q5.St):Byt (row64 S):=by
 intro z hz
 obtain ⟨i,_,rfl⟩:=List.mem_map.1 hz
 have:=(Sh.Q5.sbyte S i).isLt
 unfold Sh.ub;omega
theorem h5_byt (xs:List Int):Byt (h5 xs):=row64_byt _
structure Sq (w:World) (v:Value) (xs:List Int):Prop where
 sl:Sl w v xs
 some' : ∀ A l c,v = .slice (some A) l c→c≠0→A.spot=none∧A.block<w.heap.size
 none' : ∀ l c,v = .slice none l c→c=0
theorem Ow.sq {B0:Nat} {w:World} {v:Value} {xs:List Int} (h:Ow B0 w v xs):Sq w v xs:=by
 refine ⟨h.sl,fun A l c e _ => ?_,fun l c e => ?_⟩
 ·rcases h.2 with ⟨rfl,h0⟩ | ⟨g,cap,cur,hv,hb,hg,hc,_,hs,ht⟩
  ·cases e
  ·rw [hv] at e;cases e;exact ⟨rfl,(Array.getElem?_eq_some_iff.1 hg).1⟩
 ·rcases h.2 with ⟨rfl,h0⟩ | ⟨g,cap,cur,hv,hb,hg,hc,_,hs,ht⟩
  ·cases e;rfl
  ·rw [hv] at e;cases e
theorem Sl.sq {w:World} {v:Value} {xs:List Int} (h:Sl w v xs) (h0:xs≠[]):Sq w v xs:=by
 obtain ⟨ad,cap,rfl,hc,h⟩:=h
 rcases h with ⟨e,_⟩ | ⟨b,o,rfl,hlt,hm⟩
 ·exact absurd e h0
 ·exact ⟨⟨_,cap,rfl,hc,.inr ⟨b,o,rfl,hlt,hm⟩⟩,fun A l c e _=>by cases e;exact ⟨rfl,hlt⟩,fun l c e=>by cases e⟩
theorem byte_of (z:Int) (h0:0≤z) (h1:z≤255):Value.int .u8 z=Sh.B (BitVec.ofInt 8 z):=by
 show Value.int .u8 z=Value.int .u8 (Sh.ub (BitVec.ofInt 8 z))
 congr 1
 rw [Sh.ub,BitVec.toNat_ofInt]
 omega
theorem Sq.src {w:World} {v:Value} {xs:List Int} (h:Sq w v xs) (hb:Byt xs) : ∃ ad cap,v = .slice ad xs.length cap∧xs.length≤cap∧Sh.Src w ad xs.length cap (hm xs):=by
 obtain ⟨ad,cap,rfl,hc,hcell⟩:=h.sl
 refine ⟨ad,cap,rfl,hc,?_⟩
 cases ad with
 | none =>
  obtain rfl:=h.none' _ _ rfl
  exact .inl ⟨by omega,rfl⟩
 | some A =>
  by_cases hc0:cap=0
  ·subst hc0;exact .inl ⟨by omega,rfl⟩
  obtain ⟨h1,h2⟩:=h.some' A _ _ rfl hc0
  obtain ⟨b,o,sp⟩:=A
  simp only at h1 h2;subst h1
  refine .inr ⟨b,o,rfl,h2,fun i hi => ?_⟩
  rcases hcell with ⟨rfl,_⟩ | ⟨b',o',he,_,hm'⟩
  ·simp at hi
  ·cases he
   rw [hm' i hi]
   have:=hb.get hi
   exact congrArg some (byte_of _ this.1 this.2)
theorem Sq.bytes {w:World} {v:Value} {xs:List Int} (h:Sq w v xs) (hb:Byt xs):Sh.Bytes w v xs.length (hm xs) w.heap.size:=by
 obtain ⟨ad,cap,rfl,hc,h1⟩:=h.src hb
 rcases h1 with ⟨h0,rfl⟩ | ⟨b,o,rfl,hlt,hm'⟩
 ·rw [h0];exact .inl ⟨⟨ad,rfl⟩,rfl⟩
 ·exact .inr ⟨b,o,cap,rfl,hc,hlt,Nat.ne_of_lt hlt,hm'⟩
abbrev Tb (w:World):Prop:=Sh.Q5.Tabs w
theorem Tb.below {w w':World} (h:Tb w) (hb:Below w.heap.size w w'):Tb w':=Sh.Q5.Tabs.below h hb h.lt
theorem sum512_sl (xs h:List Int) (v:Value) (hh:h5 xs=h) (hl:xs.length≤140737488354000) (w:World) (hT:Tb w) (hb:Byt xs) (hv:Sq w v xs) :
  Calls Tryz.prog 35 #[v] w fun e w'=>e = .returned (.agg (bv h).toArray)∧Below w.heap.size w w':=by
 subst hh
 refine (Sh.Q5.sum512_at _ (hm xs) xs.length v rfl (by omega) w hT (hv.bytes hb)).mono fun e w' ⟨h1,h2⟩=>⟨?_,h2⟩
 rw [h1,srow_bv];rfl
theorem rsum512_sl (xs h:List Int) (v:Value) (hh:h5 xs=h) (hl:xs.length≤140737488354000) (w:World) (hb:Byt xs) (hv:Sq w v xs) :
  Calls Tryz.prog 56 #[v] w fun e w'=>e = .returned (.agg (bv h).toArray)∧Below w.heap.size w w':=by
 subst hh
 obtain ⟨ad,cap,rfl,hc,hsr⟩:=hv.src hb
 refine (Sh.Q5.rsum_walk (hm xs) ad xs.length cap (by omega) w hsr).mono fun e w' ⟨h1,h2⟩=>⟨?_,h2⟩
 rw [h1,srow_bv];rfl
end Go.Proofs.YtkhjnjlinfbfoaaGreatDoor.Wi
/- The numbers' calls (points, scalars; of the program and of the reference) over lists of 32 integers. -/
namespace Go.Proofs.YtkhjnjlinfbfoaaGreatDoor.Wi
open Go Go.RowKit
set_option maxRecDepth 100000
def le:List Int→Nat
 | []=>0
 | z :: l=>z.toNat+256*le l
def bi (n:Nat):List Int:=(List.range 32).map (Go.Proofs.YtkhjnjlinfbfoaaGreatDoor.by8 n)
theorem by8_lo (n i:Nat):0≤Go.Proofs.YtkhjnjlinfbfoaaGreatDoor.by8 n i∧Go.Proofs.YtkhjnjlinfbfoaaGreatDoor.by8 n i≤255:=by unfold Go.Proofs.YtkhjnjlinfbfoaaGreatDoor.by8;omega
theorem bi_l32 (n:Nat):L32 (bi n):=⟨by simp [bi],fun z hz=>by
 obtain ⟨i,_,rfl⟩:=List.mem_map.1 hz
 exact by8_lo n i⟩
theorem bv_bi (n:Nat):bv (bi n)=Go.Proofs.YtkhjnjlinfbfoaaGreatDoor.bl n:=by
 unfold bv bi Go.Proofs.YtkhjnjlinfbfoaaGreatDoor.bl
 rw [List.map_map];rfl
theorem ag_bi (n:Nat):Value.agg (bv (bi n)).toArray=Go.Proofs.YtkhjnjlinfbfoaaGreatDoor.bv n:=by rw [bv_bi];rfl
theorem by_le : ∀ x:List Int,Byt x→(List.range x.length).map (Go.Proofs.YtkhjnjlinfbfoaaGreatDoor.by8 (le x))=x
 | [],_=>rfl
 | z :: l,h=>by
  have ih:=by_le l fun v hv=>h v (List.mem_cons_of_mem _ hv)
  obtain ⟨h0,h1⟩:=h z List.mem_cons_self
  rw [le]
  generalize le l=m at *
  rw [List.length_cons,List.range_succ_eq_map,List.map_cons,List.map_map]
  congr 1
  ·unfold Go.Proofs.YtkhjnjlinfbfoaaGreatDoor.by8
   rw [Nat.pow_zero,Nat.div_one];omega
  ·refine Eq.trans (List.map_congr_left fun i _ => ?_) ih
   show Go.Proofs.YtkhjnjlinfbfoaaGreatDoor.by8 (z.toNat+256*m) (i+1)=Go.Proofs.YtkhjnjlinfbfoaaGreatDoor.by8 m i
   unfold Go.Proofs.YtkhjnjlinfbfoaaGreatDoor.by8
   rw [Nat.pow_succ,Nat.mul_comm (256 ^ i) 256,←Nat.div_div_eq_div_mul,show (z.toNat+256*m)/256=m by omega]
theorem bi_le {x:List Int} (h:L32 x):bi (le x)=x:=by
 have:=by_le x h.byt
 rw [h.len] at this
 exact this
theorem le_lt : ∀ x:List Int,Byt x→le x<256 ^ x.length
 | [],_=>by decide
 | z :: l,h=>by
  have ih:=le_lt l fun v hv=>h v (List.mem_cons_of_mem _ hv)
  obtain ⟨h0,h1⟩:=h z List.mem_cons_self
  rw [le,List.length_cons,Nat.pow_succ]
  omega
theorem le32 {x:List Int} (h:L32 x):le x<RN:=by
 have:=le_lt x h.byt
 rw [h.len,←Go.Proofs.YtkhjnjlinfbfoaaGreatDoor.rn_pow] at this
 exact this
theorem ag_le {x:List Int} (h:L32 x):Value.agg (bv x).toArray=Go.Proofs.YtkhjnjlinfbfoaaGreatDoor.bv (le x):=by rw [←ag_bi,bi_le h]
theorem le_bsum : ∀ x:List Int,le x=Go.Proofs.YtkhjnjlinfbfoaaGreatDoor.bsum (bv x)
 | []=>rfl
 | z :: l=>by
  show z.toNat+256*le l=z.toNat+256*Go.Proofs.YtkhjnjlinfbfoaaGreatDoor.bsum (bv l)
  rw [le_bsum l]
theorem le_bi {n:Nat} (h:n<RN):le (bi n)=n:=by
 rw [le_bsum,bv_bi,Go.Proofs.YtkhjnjlinfbfoaaGreatDoor.bsum_bl,Nat.mod_eq_of_lt h]
theorem ag_64 {x:List Int} (hl:x.length=64) (hb:Byt x):Value.agg (bv x).toArray=Sc.bv64 (le x):=by
 have e:=by_le x hb
 rw [hl] at e
 unfold Sc.bv64 Sc.blm
 congr 2
 conv=>lhs;rw [←e]
 unfold bv
 rw [List.map_map];rfl
theorem le64 {x:List Int} (hl:x.length=64) (hb:Byt x):le x<Sc.RN*Sc.RN:=by
 have:=le_lt x hb
 rw [hl] at this
 exact Nat.lt_of_lt_of_le this (by decide)
structure Gp (w:World):Prop where
 m0:Glo Go.Proofs.YtkhjnjlinfbfoaaGreatDoor.M0 w
 m1:Glo Go.Proofs.YtkhjnjlinfbfoaaGreatDoor.M1 w
 tb:Tb w
theorem Gp.below {w w':World} (h:Gp w) (hb:Below w.heap.size w w'):Gp w':=⟨h.m0.below hb,h.m1.below hb,h.tb.below hb⟩
def Bs (n:List Int):List Int:=bi (basN (le n))
def Ml (n p:List Int):List Int:=bi (pmlN (le n) (le p))
def Ng (p:List Int):List Int:=bi (negN (le p))
def Ad (p q:List Int):List Int:=bi (addN (le p) (le q))
def rk (p:List Int):Int:=rdE (le p)
def sm (p:List Int):Bool:=smlB (le p)
def cn (n:List Int):Bool:=decide (le n<Sc.LN)
def rd (h:List Int):List Int:=bi (le h % Sc.LN)
theorem small_sl {p:List Int} (hp:L32 p) (w:World) (hw:Gp w):Calls Tryz.prog 11 #[.agg (bv p).toArray] w fun e w'=>e = .returned (.tuple #[.bool (sm p),.int .i64 (rk p)])∧Below w.heap.size w w':=by
 rw [ag_le hp];exact Sml_any _ (le32 hp) w hw.m0
theorem can_sl {n:List Int} (hn:L32 n) (w:World):Calls Tryz.prog 12 #[.agg (bv n).toArray] w fun e w'=>e = .returned (.bool (cn n))∧Below w.heap.size w w':=by
 rw [ag_le hn];exact Sc.Canonical_any _ (le32 hn) w
theorem red_sl {h:List Int} (hl:h.length=64) (hb:Byt h) (w:World):Calls Tryz.prog 34 #[.agg (bv h).toArray] w fun e w'=>e = .returned (.agg (bv (rd h)).toArray)∧Below w.heap.size w w':=by
 rw [ag_64 hl hb,rd,ag_bi];exact Sc.Reduce_any _ (le64 hl hb) w
theorem rsmall_sl {p:List Int} (hp:L32 p) (w:World):Calls Tryz.prog 15 #[.agg (bv p).toArray] w fun e w'=>e = .returned (.tuple #[.bool (sm p),.int .i64 (rk p)])∧Below w.heap.size w w':=by
 rw [ag_le hp];exact Rsm_any _ (le32 hp) w
theorem rcan_sl {n:List Int} (hn:L32 n) (w:World):Calls Tryz.prog 16 #[.agg (bv n).toArray] w fun e w'=>e = .returned (.bool (cn n))∧Below w.heap.size w w':=by
 rw [ag_le hn];exact Sc.rCanonical_any _ (le32 hn) w
theorem rred_sl {h:List Int} (hl:h.length=64) (hb:Byt h) (w:World):Calls Tryz.prog 55 #[.agg (bv h).toArray] w fun e w'=>e = .returned (.agg (bv (rd h)).toArray)∧Below w.heap.size w w':=by
 rw [ag_64 hl hb,rd,ag_bi];exact Sc.rReduce_any _ (le64 hl hb) w
theorem rbase_sl {n:List Int} (hn:L32 n) (w:World):Calls Tryz.prog 25 #[.agg (bv n).toArray] w fun e w'=>e = .returned (.agg (bv (Bs n)).toArray)∧Below w.heap.size w w':=by
 rw [ag_le hn,Bs,ag_bi];exact Rbs_any _ (le32 hn) w
theorem gen_sl (w:World):Calls Tryz.prog 18 #[] w fun e w'=>e = .returned (.agg (bv (bi GY)).toArray)∧Below w.heap.size w w':=by
 rw [ag_bi];exact Rgn_any w
theorem dec_sl {p:List Int} (hp:L32 p) (w:World):Calls Tryz.prog 17 #[.agg (bv p).toArray] w fun e w'=>e = .returned (.tuple #[qv (dqP (le p)),.bool (rdOk (le p))])∧Below w.heap.size w w':=by
 rw [ag_le hp];exact decode_any _ (le32 hp) w
theorem often_sl {n:List Int} (hn:L32 n) {p:P4} (hp:p.ok) (w:World):Calls Tryz.prog 22 #[.agg (bv n).toArray,qv p] w fun e w'=>e = .returned (qv (oftN (le n) p))∧Below w.heap.size w w':=by
 rw [ag_le hn];exact often_any _ (le32 hn) hp w
theorem mir_sl {p:P4} (hp:p.ok) (w:World):Calls Tryz.prog 23 #[qv p] w fun e w'=>e = .returned (qv (rmirN p))∧Below w.heap.size w w':=by
 have run:=rmir_run p
 rw [wnum_nv (n:=0) (by decide),wnum_nv hp.x,wnum_nv hp.t] at run
 exact sfun_calls H0_ok mixed Tryz.func23 (by kernel_rfl) run (al (iw (by decide) hp.x) (al (iw (by decide) hp.t) al0)) rfl (.inl (flat_qv _)) w
theorem enc_sl {p:P4} (hp:p.ok) (w:World):Calls Tryz.prog 20 #[qv p] w fun e w'=>e = .returned (.agg (bv (bi (wqN p))).toArray)∧Below w.heap.size w w':=by
 rw [ag_bi]
 have run:=enc_run p
 have lz:=rfi_lt hp.z
 have e1:eiV p=nv (rfi p.z):=vWI hp.z
 have e2:exS p=exN p:=by unfold exS exN;rw [e1,vWM hp.x lz,wnum_nv (rfm_lt hp.x lz)]
 have e3:eyS p=eyN p:=by unfold eyS eyN;rw [e1,vWM hp.y lz,wnum_nv (rfm_lt hp.y lz)]
 have ly:eyN p<TT:=Nat.lt_trans (Nat.mod_lt _ (by decide)) pp_lt_TT
 rw [e2,e3,e1,vWM hp.x lz,vWM hp.y lz,topQ_eq _ _ ly] at run
 exact sfun_calls H0_ok mixed Tryz.func20 (by kernel_rfl) run (al (isW_nv hp.z) (al (iw hp.x lz) (al (isW_nv (rfm_lt hp.x lz)) (al (iw hp.y lz) (al (isW_nv (rfm_lt hp.y lz)) al0))))) rfl (.inl (flat_bv _)) w
theorem sum_sl {p q:P4} (hp:p.ok) (hq:q.ok) (w:World):Calls Tryz.prog 21 #[qv p,qv q] w fun e w'=>e = .returned (qv (rsumN p q))∧Below w.heap.size w w':=rsum_any p q hp hq w
def df (s k a:List Int):List Int:=Ad (Bs s) (Ng (Ml k a))
def dR (s k a:List Int):P4:=rsumN (oftN (le s) (dqP GY)) (rmirN (oftN (le k) (dqP (le a))))
theorem L32.bs (n:List Int):L32 (Bs n):=bi_l32 _
theorem L32.df (s k a:List Int):L32 (df s k a):=bi_l32 _
theorem oft_ok (n:List Int) {p:P4} (h:p.ok):(oftN (le n) p).ok:=oR_ok h _ 256
theorem df_agree {s k a:List Int} (hs:L32 s) (hk:L32 k) (ha:L32 a) (hok:rdOk (le a)=true):bi (wqN (dR s k a))=df s k a:=by
 obtain ⟨P,hP,-⟩:=rd_point (le32 ha) hok
 unfold df Ad Bs Ng Ml dR
 rw [le_bi (basN_lt _),le_bi (negN_lt _),le_bi (pmlN_lt _ _),←hP,mul_enc _ (le32 hk),neg_enc,bas_enc _ (le32 hs),(add_enc _ _).1]
 have g1:Rep (cP (oftN (le s) (dqP GY))) (pmul (le s) BP):=by rw [←enc_BP];exact rep_often (dqP_ok _) (rep_dq BP) _ (le32 hs)
 have g2:Rep (cP (oftN (le k) (dqP (enc P)))) (pmul (le k) P):=rep_often (dqP_ok _) (rep_dq P) _ (le32 hk)
 have o1:(oftN (le s) (dqP GY)).ok:=oR_ok (dqP_ok _) _ 256
 have o2:(oftN (le k) (dqP (enc P))).ok:=oR_ok (dqP_ok _) _ 256
 rw [wq_enc (rsumN_ok o1 (rmirN_ok o2)) (rep_rsum o1 (rmirN_ok o2) g1 (rep_rmir g2))]
end Go.Proofs.YtkhjnjlinfbfoaaGreatDoor.Wi
/- SHA-512 of a block that is known, by tables. -/
namespace Go.Proofs.YtkhjnjlinfbfoaaGreatDoor.Wi
open Go Go.RowKit Sh.Q5
set_option maxRecDepth 100000
def bw (l:List Nat) (t:Nat):BitVec 64:=BitVec.ofNat 64 (l.getD t 0)
def stA (a e:List Nat) (t:Nat):St:=⟨bw a (t+3),bw a (t+2),bw a (t+1),bw a t,bw e (t+3),bw e (t+2),bw e (t+1),bw e t⟩
def eqSt (s t:St):Bool:=s.a == t.a && (s.b == t.b && (s.c == t.c && (s.d == t.d && (s.e == t.e && (s.f == t.f && (s.g == t.g && s.h == t.h))))))
theorem eqSt_eq {s t:St} (h:eqSt s t=true):s=t:=by
 simp only [eqSt,Bool.and_eq_true,beq_iff_eq] at h
 obtain ⟨h1,h2,h3,h4,h5,h6,h7,h8⟩:=h
 cases s;cases t
 simp only at *
 subst h1;subst h2;subst h3;subst h4;subst h5;subst h6;subst h7;subst h8
 rfl
def chkW (m:Nat→BitVec 8) (w:List Nat):Bool:=((List.range 16).all fun t=>word (fun i=>m (8*t+i)) == bw w t) && (List.range 64).all fun k=>lo1 (bw w (k+14))+bw w (k+9)+lo0 (bw w (k+1))+bw w k == bw w (k+16)
def chkS (s f:St) (w a e:List Nat):Bool:=eqSt s (stA a e 0) && (eqSt (plus s (stA a e 80)) f && (List.range 80).all fun t=>eqSt (Sh.Q5.step (stA a e t) (K512 t) (bw w t)) (stA a e (t+1)))
theorem sched_tab {m:Nat→BitVec 8} {w:List Nat} (h:chkW m w=true) : ∀ n t,t<n→t<80→schedW m t=bw w t
 | 0,_,h0,_=>absurd h0 (Nat.not_lt_zero _)
 | n+1,t,ht,h80=>by
  have ih:=sched_tab h n
  simp only [chkW,Bool.and_eq_true,List.all_eq_true,List.mem_range,beq_iff_eq] at h
  obtain ⟨h1,h2⟩:=h
  rw [schedW]
  split
  ·rename_i h16;exact h1 t h16
  ·have:=h2 (t - 16) (by omega)
   rw [show t - 16+14=t - 2 by omega,show t - 16+9=t - 7 by omega,show t - 16+1=t - 15 by omega,show t - 16+16=t by omega] at this
   rw [ih (t - 2) (by omega) (by omega),ih (t - 7) (by omega) (by omega),ih (t - 15) (by omega) (by omega),ih (t - 16) (by omega) (by omega)]
   exact this
theorem rounds_tab {m:Nat→BitVec 8} {w a e:List Nat} {s:St} (hw:chkW m w=true) (h0:s=stA a e 0) (hs : ∀ t,t<80→eqSt (Sh.Q5.step (stA a e t) (K512 t) (bw w t)) (stA a e (t+1))=true) : ∀ t,t≤80→rounds K512 (schedW m) s t=stA a e t
 | 0,_=>h0
 | t+1,h=>by
  have ih:=rounds_tab hw h0 hs t (by omega)
  show Sh.Q5.step (rounds K512 (schedW m) s t) (K512 t) (schedW m t)=_
  rw [ih,sched_tab hw 80 t (by omega) (by omega)]
  exact eqSt_eq (hs t (by omega))
theorem blk_tab (s f:St) (m:Nat→BitVec 8) (w a e:List Nat) (hw:chkW m w=true) (hs:chkS s f w a e=true):compress K512 s m=f:=by
 simp only [chkS,Bool.and_eq_true,List.all_eq_true,List.mem_range] at hs
 obtain ⟨h1,h2,h3⟩:=hs
 unfold compress
 rw [rounds_tab hw (eqSt_eq h1) h3 80 (Nat.le_refl _)]
 exact eqSt_eq h2
theorem h5_one (xs:List Int) (f:St) (h1:nblk xs.length=1) (hb:compress K512 H512 (fun i=>padM (hm xs) xs.length (128*0+i))=f):h5 xs=row64 f:=by
 unfold h5 sumSt
 rw [h1]
 exact congrArg row64 hb
end Go.Proofs.YtkhjnjlinfbfoaaGreatDoor.Wi
/- difference, halves, Public, awake of the program: run in a small memory. -/
namespace Go.Proofs.YtkhjnjlinfbfoaaGreatDoor.Ve
open Go Go.RowKit
set_option maxRecDepth 100000
structure Fs where
 bas:Nat→Nat
 pml:Nat→Nat→Nat
 neg:Nat→Nat
 add:Nat→Nat→Nat
 rde:Nat→Int
 ade:Nat→Nat→Int
 sha:List Value→Nat→Int
 hlv:Nat→Nat × Nat
def gBasF (F:Fs):List Value→Option (List Prop × Value)
 | [A]=>some ([IsB A],bv (F.bas (bnum A)))
 | _=>none
def gPmlF (F:Fs):List Value→Option (List Prop × Value)
 | [A,B]=>some ([IsB A∧IsB B],.tuple #[bv (F.pml (bnum A) (bnum B)),.int .i64 (F.rde (bnum B))])
 | _=>none
def gNegF (F:Fs):List Value→Option (List Prop × Value)
 | [A]=>some ([IsB A],.tuple #[bv (F.neg (bnum A)),.int .i64 (F.rde (bnum A))])
 | _=>none
def gAdpF (F:Fs):List Value→Option (List Prop × Value)
 | [A,B]=>some ([IsB A∧IsB B],.tuple #[bv (F.add (bnum A) (bnum B)),.int .i64 (F.ade (bnum A) (bnum B))])
 | _=>none
def nA:Nat:=Nat.max np (Nat.max 0 3+1)
def sqL:List Value:=(List.range 8).map fun i => .int .u64 (Sh.Q5.u (Sh.Q5.H512.at i))
def cuL:List Value:=(List.range 80).map fun i => .int .u64 (Sh.Q5.u (Sh.Q5.K512 i))
def MA:Mem:=((((((List.replicate nA none).set 2 (some ⟨bl GY,22⟩)).set 4 (some ⟨bl DN',22⟩)).set 5 (some ⟨bl 1,22⟩)).set 1 (some ⟨bl GX,22⟩)).set 0 (some ⟨sqL,93⟩)).set 3 (some ⟨cuL,103⟩)
theorem MA_flat:flatM MA=true:=by kernel_rfl
def glA:List Nat:=[2,4,1,5,0,3]
theorem MA_in:insideG MA glA=true:=by kernel_rfl
theorem MA_cov:coversG MA glA=true:=by kernel_rfl
theorem M0_cov:coversG M0 glA=true:=by kernel_rfl
theorem M1_cov:coversG M1 glA=true:=by kernel_rfl
theorem Glo.rep (n:Nat) (w:World):Glo (List.replicate n none) w:=fun b B hB=>by
 unfold getB at hB
 rw [List.getElem?_replicate] at hB
 split at hB <;> cases hB
theorem Glo.set {M:Mem} {w:World} (h:Glo M w) {g:Nat} {B:Blk} (hB:w.heap[g]? = some (.cells B.cells.toArray B.ty.id B.ty.fz)):Glo (M.set g (some B)) w:=fun b B' hB'=>by
 rw [getB_set] at hB'
 split at hB'
 ·rename_i e
  cases hB'
  rw [e.1];exact hB
 ·exact h b B' hB'
theorem gp {w:World} (h:Glo MA w):Wi.Gp w:=by
 have e1:getB MA 2=some ⟨bl GY,22⟩:=rfl
 have e2:getB MA 4=some ⟨bl DN',22⟩:=rfl
 have e3:getB MA 5=some ⟨bl 1,22⟩:=rfl
 have e4:getB MA 1=some ⟨bl GX,22⟩:=rfl
 have e5:getB MA 0=some ⟨sqL,93⟩:=rfl
 have e6:getB MA 3=some ⟨cuL,103⟩:=rfl
 have s5:=h _ _ e5
 have s6:=h _ _ e6
 have m0:Glo M0 w:=Ve.Glo.set (Ve.Glo.set (Ve.Glo.set (Ve.Glo.rep _ _) (h _ _ e1)) (h _ _ e2)) (h _ _ e3)
 refine ⟨m0,Ve.Glo.set m0 (h _ _ e4),⟨fun i hi => ?_,fun i hi => ?_⟩⟩
 ·rw [cell_of_row w 0 i _ _ _ s5,List.getElem?_toArray,sqL,List.getElem?_map,List.getElem?_range hi];rfl
 ·rw [cell_of_row w 3 i _ _ _ s6,List.getElem?_toArray,cuL,List.getElem?_map,List.getElem?_range hi];rfl
def rowF (S:Nat→Int):List Value:=(List.range 64).map fun i => .int .u8 (S i)
def gS5 (S:List Value→Nat→Int) (args:List Value) (m:Mem):Option (List Prop × Value) :=
 match args with
 | [.slice (some ⟨b,0,none⟩) 32 32]=>if gHas MA m && (getB MA b).isNone then (getB m b).map fun B=>([IsB (.agg B.cells.toArray)],.agg (rowF (S B.cells)).toArray) else none
 | _=>none
def S0 (l:List Value) (i:Nat):Int:=Wi.gi (Wi.h5 (Wi.bi (bsum l))) i
theorem rowF_0 (l:List Value):rowF (S0 l)=Wi.bv (Wi.h5 (Wi.bi (bsum l))):=by
 have hl:=Wi.h5_length (Wi.bi (bsum l))
 apply List.ext_getElem?
 intro i
 by_cases hi:i<64
 ·rw [Wi.bv_get _ (by rw [hl];exact hi),rowF,List.getElem?_map,List.getElem?_range hi];rfl
 ·rw [List.getElem?_eq_none (l:=rowF (S0 l)) (by simp [rowF];omega),List.getElem?_eq_none (by rw [Wi.bv_length,hl];omega)]
theorem gS5_ok {X:Cx} (hX:X.Ok Tryz.prog) (hc:coversG MA X.gl=true):(X.read 35 (gS5 S0)).Ok Tryz.prog:=by
 refine Cx.read_ok hX (fun args m ps v hg hp r w args' hr hgl ha => ?_) (fun args m q i B hi hg => ?_)
 ·unfold gS5 at hg
  split at hg
  ·rename_i b
   split at hg
   ·rename_i hall
    simp only [Bool.and_eq_true] at hall
    cases hB:getB m b with
    | none=>simp [hB] at hg
    | some B =>
     simp only [hB,Option.map_some,qG,qH] at hg
     obtain ⟨rfl,rfl⟩:=hg
     have hI:=hp _ (List.mem_singleton.2 rfl)
     have hcells:B.cells=bl (bsum B.cells):=by
      have e:Value.agg B.cells.toArray = .agg (bl (bsum B.cells.toArray.toList)).toArray:=hI
      rw [List.toList_toArray] at e
      simpa using e
     obtain ⟨c0,cs,p1,p2,p3⟩:=hr.cells b B hB
     have ha0:trL (tr r) [.slice (some ⟨b,0,none⟩) 32 32]=some [.slice (some ⟨c0,0,none⟩) 32 32]:=trL_mk (tr_of_slice p1) rfl
     rw [ha] at ha0
     cases ha0
     have hfl:B.cells.all flat1=true:=by rw [hcells];exact flat_bl _
     rw [trL_all (tr1_flat r) hfl] at p2
     cases p2
     have hG:=gp (hr.glo hall.1 MA_flat fun g hg=>hgl g (coversG_get hc hg))
     obtain ⟨n,hn⟩ : ∃ n,bsum B.cells=n:=⟨_,rfl⟩
     have hlen:(Wi.bi n).length=32:=(Wi.bi_l32 n).len
     have hlt:c0<w.heap.size:=(Array.getElem?_eq_some_iff.1 p3).1
     have hs:Wi.Sl w (.slice (some ⟨c0,0,none⟩) 32 32) (Wi.bi n):=⟨_,32,by rw [hlen],by rw [hlen];omega,.inr ⟨c0,0,rfl,hlt,fun i hi=>by
      rw [Nat.zero_add,cell_of_row w c0 i _ _ _ p3,List.getElem?_toArray,hcells,hn,←Wi.bv_bi];exact Wi.bv_get _ hi⟩⟩
     have hb8 : ∀ u ∈ Wi.bv (Wi.h5 (Wi.bi n)),flat1 u=true:=fun u hu=>by obtain ⟨z,_,rfl⟩:=List.mem_map.1 hu;rfl
     refine call_enter Tryz.func35 (by kernel_rfl) (show _=some (bodyOf Tryz.f35) from (by kernel_rfl)) ((Wi.sum512_sl (Wi.bi n) _ _ rfl (by rw [hlen];omega) w hG.tb (Wi.bi_l32 n).byt (hs.sq (fun e=>by rw [e] at hlen;cases hlen))).mono ?_)
     rintro e w' ⟨rfl,hb⟩
     refine ⟨_,rfl,?_,hb⟩
     rw [rowF_0,hn]
     refine tr_flat r _ ?_
     show ((Wi.bv (Wi.h5 (Wi.bi n))).toArray.toList.all flat1)=true
     rw [List.toList_toArray];exact List.all_eq_true.2 hb8
   ·simp at hg
  ·simp at hg
 ·unfold gS5 at hg ⊢
  split at hg
  ·rename_i b
   split at hg
   ·rename_i hall
    simp only [Bool.and_eq_true] at hall
    cases hB:getB m b with
    | none=>simp [hB] at hg
    | some B' =>
     rw [if_pos (by simp only [Bool.and_eq_true];exact ⟨gHas_more hi hall.1,hall.2⟩),getB_fill (hole_ne hi hB)]
     exact hg
   ·simp at hg
  ·simp at hg
def EF (F:Fs):Cx:=(((((Cx.none.glo glA).read 35 (gS5 F.sha)).var M1 28 (gBasF F)).var M0 37 (gPmlF F)).var M0 38 (gNegF F)).var M0 39 (gAdpF F)
def lowL (o:List Value):List Value := .int .u8 (bits .andNot .u8 (intL o 0) 7) :: ((o.drop 1).take 30 ++ [.int .u8 (bits .or .u8 (bits .andNot .u8 (intL o 31) 128) 64)])
theorem hlv_run (F:Fs) (s:Nat):sfunG Tryz.prog (EF F) MA 60 Tryz.f27 (bodyOf Tryz.f27) [bv s]=some ([IsB (.agg (bl s).toArray)],.tuple #[.agg (lowL (rowF (F.sha (bl s)))).toArray,.agg ((rowF (F.sha (bl s))).drop 32).toArray]):=by kernel_rfl
theorem dif_run (F:Fs) (s k p:Nat):sfunG Tryz.prog (EF F) MA 60 Tryz.f14 (bodyOf Tryz.f14) [bv s,bv k,bv p]=some ([IsB (bv k)∧IsB (bv p),IsB (bv (F.pml (bnum (bv k)) (bnum (bv p)))),IsB (bv s),IsB (bv (F.bas (bnum (bv s))))∧IsB (bv (F.neg (bnum (bv (F.pml (bnum (bv k)) (bnum (bv p)))))))],bv (F.add (bnum (bv (F.bas (bnum (bv s))))) (bnum (bv (F.neg (bnum (bv (F.pml (bnum (bv k)) (bnum (bv p)))))))))):=by kernel_rfl
def lowI (x:List Int):List Int:=bits .andNot .u8 (Wi.gi x 0) 7 :: ((x.drop 1).take 30 ++ [bits .or .u8 (bits .andNot .u8 (Wi.gi x 31) 128) 64])
theorem intL_bv (x:List Int) (i:Nat) (hi:i<x.length):intL (Wi.bv x) i=Wi.gi x i:=by unfold intL;rw [Wi.bv_get x hi]
theorem lowI_bv {x:List Int} (h:x.length=64):lowL (Wi.bv x)=Wi.bv (lowI x):=by
 unfold lowL lowI
 rw [intL_bv x 0 (by omega),intL_bv x 31 (by omega)]
 simp only [Wi.bv,List.map_cons,List.map_append,List.map_nil,List.map_drop,List.map_take]
theorem u8_lo (op:BinOp) (a b:Int):0≤bits op .u8 a b∧bits op .u8 a b≤255:=⟨bits_lo_u8 op a b,by have:=bits_hi_u8 op a b;omega⟩
theorem lowI_l32 {x:List Int} (h:x.length=64) (hb:Wi.Byt x):Wi.L32 (lowI x):=by
 refine ⟨by simp [lowI];omega,fun z hz => ?_⟩
 rcases List.mem_cons.1 hz with rfl | hz
 ·exact u8_lo _ _ _
 ·rcases List.mem_append.1 hz with hz | hz
  ·exact hb z (List.mem_of_mem_drop (List.mem_of_mem_take hz))
  ·rw [List.mem_singleton.1 hz];exact u8_lo _ _ _
def sk (s:List Int):List Int:=lowI (Wi.h5 s)
def pf (s:List Int):List Int:=(Wi.h5 s).drop 32
theorem sk_l32 (s:List Int):Wi.L32 (sk s):=lowI_l32 (Wi.h5_length s) (Wi.h5_byt s)
theorem pf_l32 (s:List Int):Wi.L32 (pf s):=⟨by rw [pf,List.length_drop,Wi.h5_length],fun z hz=>Wi.h5_byt s z (List.mem_of_mem_drop hz)⟩
def hlvN (s:Nat):Nat × Nat:=(Wi.le (sk (Wi.bi s)),Wi.le (pf (Wi.bi s)))
def R0:Fs:=⟨basN,pmlN,negN,addN,rdE,addE,S0,hlvN⟩
theorem EF_ok:(EF R0).Ok Tryz.prog:=gAdp_ok (gNeg_ok (gPml_ok (gBas_ok (gS5_ok (Cx.glo_ok Cx.none_ok (by intro g hg;cases hg)) MA_cov) M1_cov) M0_cov) M0_cov) M0_cov
theorem halves_any (s:Nat) (hs:s<RN) (w:World) (hw:Glo MA w):Calls Tryz.prog 27 #[bv s] w fun e w'=>e = .returned (.tuple #[.agg (Wi.bv (sk (Wi.bi s))).toArray,.agg (Wi.bv (pf (Wi.bi s))).toArray])∧Below w.heap.size w w':=by
 have run:=hlv_run R0 s
 have e:rowF (R0.sha (bl s))=Wi.bv (Wi.h5 (Wi.bi s)):=by
  show rowF (S0 (bl s))=_
  rw [rowF_0,bsum_bl,Nat.mod_eq_of_lt hs]
 have e2:(Wi.bv (Wi.h5 (Wi.bi s))).drop 32=Wi.bv (pf (Wi.bi s)):=by unfold pf Wi.bv;rw [List.map_drop]
 rw [e,lowI_bv (Wi.h5_length _),e2] at run
 refine sfunG_calls EF_ok mixed MA_flat MA_in Tryz.func27 (by kernel_rfl) run (fun p hp => ?_) (by simp [flat_bv]) (.inl ?_) w hw
 ·rw [List.mem_singleton.1 hp];exact isB_bv s
 ·have f1:=Wi.ag_le (sk_l32 (Wi.bi s))
  have f2:=Wi.ag_le (pf_l32 (Wi.bi s))
  unfold sk at f1
  rw [f1,f2];rfl
theorem dif_any (s k p:Nat) (hs:s<RN) (hk:k<RN) (hp:p<RN) (w:World) (hw:Glo MA w):Calls Tryz.prog 14 #[bv s,bv k,bv p] w fun e w'=>e = .returned (bv (addN (basN s) (negN (pmlN k p))))∧Below w.heap.size w w':=by
 have run:=dif_run R0 s k p
 have e1:R0.pml=pmlN:=rfl
 have e2:R0.bas=basN:=rfl
 have e3:R0.neg=negN:=rfl
 have e4:R0.add=addN:=rfl
 rw [e1,e2,e3,e4,bnum_bv' hk,bnum_bv' hp,bnum_bv' hs,bnum_bv' (pmlN_lt _ _),bnum_bv' (negN_lt _),bnum_bv' (basN_lt _)] at run
 exact sfunG_calls EF_ok mixed MA_flat MA_in Tryz.func14 (by kernel_rfl) run (fun q hq=>by
  simp only [List.mem_cons,List.not_mem_nil,or_false] at hq
  rcases hq with rfl | rfl | rfl | rfl
  ·exact ⟨isB_bv _,isB_bv _⟩
  ·exact isB_bv _
  ·exact isB_bv _
  ·exact ⟨isB_bv _,isB_bv _⟩) (by simp [flat_bv]) (.inl (flat_bv _)) w hw
theorem dif_sl {s k a:List Int} (hs:Wi.L32 s) (hk:Wi.L32 k) (ha:Wi.L32 a) (w:World) (hw:Glo MA w):Calls Tryz.prog 14 #[.agg (Wi.bv s).toArray,.agg (Wi.bv k).toArray,.agg (Wi.bv a).toArray] w fun e w'=>e = .returned (.agg (Wi.bv (Wi.df s k a)).toArray)∧Below w.heap.size w w':=by
 have e:Wi.df s k a=Wi.bi (addN (basN (Wi.le s)) (negN (pmlN (Wi.le k) (Wi.le a)))):=by
  unfold Wi.df Wi.Ad Wi.Bs Wi.Ng Wi.Ml
  rw [Wi.le_bi (basN_lt _),Wi.le_bi (pmlN_lt _ _),Wi.le_bi (negN_lt _)]
 rw [Wi.ag_le hs,Wi.ag_le hk,Wi.ag_le ha,e,Wi.ag_bi]
 exact dif_any _ _ _ (Wi.le32 hs) (Wi.le32 hk) (Wi.le32 ha) w hw
end Go.Proofs.YtkhjnjlinfbfoaaGreatDoor.Ve
/- Public and awake of the program; the key of the seed of noughts, reckoned. -/
namespace Go.Proofs.YtkhjnjlinfbfoaaGreatDoor.Wi
open Go Go.RowKit Sh.Q5
set_option maxRecDepth 100000
def s0_w0:List Nat:=[0,0,0,0,9223372036854775808,0,0,0,0,0,0,0,0,0,0,256,0,9007199254743044,0,4719772426664165376,9223372036854775808,361985685131002114,144132780261900548,8648063572759674900,1173187702963572776,126768607751657609,13944307785744826688,2667488058145767452,2023559755096263684,3076264096972779889,1827872124046622896,8310353164642315215,12136906272933825081,15545001212044488457,14814700502097700868,12285100419639919475,9670082501097730335,5518604699939968887,9476093506087548489,9796596215299450625,5958344982377384288,12265343076877762427,12165219924428479518,1325243823695169124,11281310535319608749,1034882804047488912,1535714187706151253,649279741799497956,17459309777971477598,5500650830056389434,16562679484493522125,13945535446963880796,15567785657537865457,14580602548817413697,8635629319549429025,14777824508854947588,16911204817919595455,13700561142527922852,2574132088199195008,10308614111758391576,10852703017310842740,16082347588028971208,2184371991873687222,12033888635545163341,10419660119830469926,8585216435925201857,14386434745505789993,7139669067458878980,16562904965169700491,18303181280394127650,7589255923654424011,10370349966052406001,9383377643078173111,7113417478183963821,9287236787583809989,7025827219752386637,2720506219950445715,11463598587821378836,11074598858778813994,3215546073741905920]
def s0_a0:List Nat:=[11912009170470909681,4354685564936845355,13503953896175478587,7640891576956012808,10758372976291012085,11115036946241619673,4126266364255868068,5343641584730768695,11168902456601489605,1302396440103629798,15200776334310210592,17208046804368280137,8492703388701907715,7755397839558790253,7030135620985194732,2312015059832132880,16523165081541911161,5830777752747395166,10783373218667509365,4479050482935558316,11702245667014225582,3280029084718757303,7259474283948259824,12603740802078081619,1537361645710774433,2396587261501461511,15578081726648313859,5464896530425090686,8079588423635971269,8590249264134269809,7463697391145966002,3706265178671430226,3525803993081217942,7047087411074569085,5664254687711525247,14726941729103868001,7020929409684525903,8461667706126069220,379464524265310633,15549802313875602274,17263284987263657958,14638953785217629854,18014955160550453689,6109844019387451280,3934753730757518807,11221941365251729549,12170060852399267806,15552401992348485791,7917789096369028140,5980717885382567603,2164993625293247554,6484337866056519823,4514939707137230467,15645523297110002428,16447334635902428014,17023595609519142724,6401030026082633268,14333128423172872232,2340657871528695503,17181778841757954467,8316550594923792609,16525350475053332148,16732118037317178048,10477334923476079977,1675981542843284747,18002758202473554379,18349958183428923895,14263519478537648808,2518871767924734864,10167427158072057591,6453938761489340098,15156157019208777747,17406653508796741912,1570791217848826313,14488324544568235627,13060178779355539256,18328841029446720343,18170168180967726918,3931110873737423470,5567541349902180190,5776266022435338917,2037463206167937637,13818184367001344771,16590354316283047806]
def s0_e0:List Nat:=[6620516959819538809,2270897969802886507,11170449401992604703,5840696475078001361,17827673622936100753,9932265545342369336,4897852136903073097,16523341605267860574,627079433320757529,14806635048689895951,15174314027989733557,9272832003298536862,16034440948875958624,13502761422932650927,2096611521171684090,13672406949288936619,16941445236327295330,18281535139762694881,2421145553396808227,851941326718768001,17300981003431507799,16714166088777974375,7521305024183279694,2439087024015677111,3061020130476478910,18327999007697665139,5182447908206143290,4489227580986569443,963291311694375013,8078194955157153449,10553505094661485635,10628536666645987242,13287781554297122783,13566656608276548562,13874964982419472308,5173953181071844509,5615751895262237939,4941752670844118600,16203679033354392874,14712077907107959277,16337914719854201846,6531442153746177128,14194663295104695616,4534933068400390657,7262160739443047838,5752790583666708941,4863095209128836662,8352703515361797755,337867160903401868,10992113497116646001,16909216741560437109,11893120751304626942,1125160240832120182,3626739556018553871,14023129358220355687,11177193476556092421,15308037697050920686,15298117696424949212,6818534125984460103,15841754175645970547,5658120392235887474,15136793916924334787,3774921253118411700,4564036060695640955,825740300549928085,4891636288461320038,12384616198518925361,3806274531594431357,10885499170187179968,14923328952548945946,7469784290968133967,14829823243297303650,2125308069535244253,8272582750246839156,10039812137888914178,8486314926255750478,6817047941946052733,1142590970254049387,6248892937991631189,3003314452009162791,2551491534185647194,16194014959973738944,11114007369083713373,13356607129400399863]
theorem s0_b0:compress K512 H512 (fun i=>padM (hm (List.replicate 32 (0:Int))) 32 (128*0+i))=⟨5784501819529508998,8875394189467271742,6392148771104782992,17688275192906248598,750559530768849608,3837712697366766460,18168856067073835,9172008494005186003⟩:=blk_tab _ _ _ s0_w0 s0_a0 s0_e0 (by decide +kernel) (by decide +kernel)
theorem s0:h5 (List.replicate 32 (0:Int)) = [80,70,173,193,219,168,56,134,123,43,187,253,208,195,66,62,88,181,121,112,181,38,122,144,245,121,96,146,74,135,241,150,10,106,133,234,166,66,218,200,53,66,75,93,124,141,99,124,0,64,140,122,115,218,103,43,127,73,133,33,66,11,109,211]:=by
 refine (h5_one (List.replicate 32 (0:Int)) _ rfl s0_b0).trans ?_
 decide +kernel
end Go.Proofs.YtkhjnjlinfbfoaaGreatDoor.Wi
namespace Go.Proofs.YtkhjnjlinfbfoaaGreatDoor.Ve
open Go Go.RowKit
set_option maxRecDepth 100000
def gHlvF (F:Fs):List Value→Option (List Prop × Value)
 | [A]=>some ([IsB A],.tuple #[bv (F.hlv (bnum A)).1,bv (F.hlv (bnum A)).2])
 | _=>none
theorem gHlv_ok {X:Cx} (hX:X.Ok Tryz.prog) (hc:coversG MA X.gl=true):(X.var MA 27 (gHlvF R0)).Ok Tryz.prog:=by
 refine gVar_ok hX MA_flat hc Tryz.func27 (by kernel_rfl) (by kernel_rfl) ?_
 intro args ps v ha hg hp
 unfold gHlvF at hg
 split at hg
 ·rename_i A
  simp only [qG,qH] at hg
  obtain ⟨rfl,rfl⟩:=hg
  have hA:A=bv (bnum A):=hp _ (List.mem_singleton.2 rfl)
  refine ⟨.inl rfl,fun w hw => ?_⟩
  have h:=halves_any (bnum A) (bnum_lt hA) w hw
  rw [←hA,Wi.ag_le (sk_l32 _),Wi.ag_le (pf_l32 _)] at h
  exact h
 ·simp at hg
def EG (F:Fs):Cx:=(EF F).var MA 27 (gHlvF F)
theorem EG_ok:(EG R0).Ok Tryz.prog:=gHlv_ok EF_ok MA_cov
theorem pub_run (F:Fs) (s:Nat):sfunG Tryz.prog (EG F) MA 60 Tryz.f10 (bodyOf Tryz.f10) [bv s]=some ([IsB (bv s),IsB (bv (F.hlv (bnum (bv s))).1)],bv (F.bas (bnum (bv (F.hlv (bnum (bv s))).1)))):=by kernel_rfl
def pubN (F:Fs) (s:Nat):Nat:=F.bas (F.hlv s).1
theorem R0_bas:R0.bas=basN:=rfl
theorem R0_hlv:R0.hlv=hlvN:=rfl
theorem hlv_lt (s:Nat):(hlvN s).1<RN:=Wi.le32 (sk_l32 _)
theorem pub_gen {F:Fs} (hX:(EG F).Ok Tryz.prog) (hL : ∀ s,(F.hlv s).1<RN) (s:Nat) (hs:s<RN) (w:World) (hw:Glo MA w):Calls Tryz.prog 10 #[bv s] w fun e w'=>e = .returned (bv (pubN F s))∧Below w.heap.size w w':=by
 have run:=pub_run F s
 rw [bnum_bv' hs,bnum_bv' (hL s)] at run
 exact sfunG_calls hX mixed MA_flat MA_in Tryz.func10 (by kernel_rfl) run (fun q hq=>by
  simp only [List.mem_cons,List.not_mem_nil,or_false] at hq
  rcases hq with rfl | rfl <;> exact isB_bv _) (by simp [flat_bv]) (.inl (flat_bv _)) w hw
theorem hlv_ltF {F:Fs} (h:F.hlv=hlvN) (s:Nat):(F.hlv s).1<RN:=by rw [h];exact hlv_lt s
theorem pub_any (s:Nat) (hs:s<RN) (w:World) (hw:Glo MA w):Calls Tryz.prog 10 #[bv s] w fun e w'=>e = .returned (bv (pubN R0 s))∧Below w.heap.size w w':=pub_gen EG_ok (hlv_ltF R0_hlv) s hs w hw
theorem pub_eq {F:Fs} (h1:F.bas=basN) (h2:F.hlv=hlvN) (s:Nat):pubN F s=basN (hlvN s).1:=by unfold pubN;rw [h1,h2]
def gPubF (F:Fs):List Value→Option (List Prop × Value)
 | [A]=>some ([IsB A],bv (pubN F (bnum A)))
 | _=>none
theorem gPub_ok {X:Cx} (hX:X.Ok Tryz.prog) (hc:coversG MA X.gl=true):(X.var MA 10 (gPubF R0)).Ok Tryz.prog:=by
 refine gVar_ok hX MA_flat hc Tryz.func10 (by kernel_rfl) (by kernel_rfl) ?_
 intro args ps v ha hg hp
 unfold gPubF at hg
 split at hg
 ·rename_i A
  simp only [qG,qH] at hg
  obtain ⟨rfl,rfl⟩:=hg
  have hA:IsB A:=hp _ (List.mem_singleton.2 rfl)
  refine ⟨.inl (flat_bv _),fun w hw => ?_⟩
  have h:=pub_any (bnum A) (bnum_lt hA) w hw
  rw [← (show A=bv (bnum A) from hA)] at h
  exact h
 ·simp at hg
def num0:Nat:=39325648866980652792715009169219496062012184734522019333892538943312776480336
theorem hlv0:(hlvN 0).1=num0:=by
 unfold hlvN
 rw [show Wi.bi 0=List.replicate 32 (0:Int) by decide +kernel,sk,Wi.s0]
 decide +kernel
def T0:P4:=timesN num0 genN
def X0:Nat:=9639205628789703341510410801487549615560488670885798085067615194958049462616
def Y0:Nat:=18930617471878267742194159801949745215346600387277955685031939302387136031291
theorem T0_x:decide (T0.z % pp≠0) && (decide (T0.x % pp=X0*T0.z % pp) && (decide (T0.y % pp=Y0*T0.z % pp) && decide (T0.t % pp=X0*Y0 % pp*T0.z % pp)))=true:=by decide +kernel
def K0:PT:=⟨cK X0,cK Y0,by unfold On DK;decide +kernel⟩
theorem rep0:Rep (cP T0) K0:=by
 have h:=T0_x
 simp only [Bool.and_eq_true,decide_eq_true_eq] at h
 obtain ⟨h1,h2,h3,h4⟩:=h
 refine ⟨fun e=>h1 (cK_eq_zero.1 e),?_,?_,?_⟩
 ·show cK T0.x=cK X0*cK T0.z
  rw [←cK_mul];exact cK_eq.2 (by rw [h2,Nat.mod_mod])
 ·show cK T0.y=cK Y0*cK T0.z
  rw [←cK_mul];exact cK_eq.2 (by rw [h3,Nat.mod_mod])
 ·show cK T0.t=cK X0*cK Y0*cK T0.z
  rw [←cK_mul,←cK_mul];exact cK_eq.2 (by rw [h4,Nat.mod_mod])
def enc0:Nat:=18930617471878267742194159801949745215346600387277955685031939302387136031291
theorem K0_enc:enc K0=enc0:=by decide +kernel
theorem bas0:basN num0=enc0:=by
 have h:=wr_enc rep0
 rw [K0_enc] at h
 unfold T0 at h
 unfold basN
 exact h
theorem pub0' {F:Fs} (h1:F.bas=basN) (h2:F.hlv=hlvN):pubN F 0=enc0:=by rw [pub_eq h1 h2,hlv0,bas0]
theorem pub0:pubN R0 0=enc0:=pub0' R0_bas R0_hlv
theorem key0:by8 enc0 0=59∧by8 enc0 1=106∧by8 enc0 2=39:=by decide +kernel
def XW (F:Fs):Cx:=(EG F).var MA 10 (gPubF F)
theorem XW_ok:(XW R0).Ok Tryz.prog:=gPub_ok EG_ok MA_cov
def aK (F:Fs):Nat:=pubN F (bnum (bv 0))
theorem aw_run (F:Fs):sfunG Tryz.prog ((XW F).tell [(7,true),(11,true),(16,true)]) MA 60 Tryz.f5 (bodyOf Tryz.f5) []=some ([IsB (bv 0),(by8 (aK F) 0 == 59)=true,(by8 (aK F) 1 == 106)=true,(by8 (aK F) 2 == 39)=true],.bool true):=by kernel_rfl
theorem aw_gen {F:Fs} (hX:(XW F).Ok Tryz.prog) (h:pubN F 0=enc0) (w:World) (hw:Glo MA w):Calls Tryz.prog 5 #[] w fun e w'=>e = .returned (.bool true)∧Below w.heap.size w w':=by
 have hk:aK F=enc0:=by unfold aK;rw [bnum_bv' (by decide)];exact h
 have run:=aw_run F
 refine sfunG_calls (Cx.tell_ok hX _) mixed MA_flat MA_in Tryz.func5 (by kernel_rfl) run (fun p hp => ?_) rfl (.inl rfl) w hw
 obtain ⟨k0,k1,k2⟩:=key0
 simp only [List.mem_cons,List.not_mem_nil,or_false] at hp
 rcases hp with rfl | rfl | rfl | rfl
 ·exact isB_bv _
 ·rw [hk,k0];rfl
 ·rw [hk,k1];rfl
 ·rw [hk,k2];rfl
theorem awake_any (w:World) (hw:Glo MA w):Calls Tryz.prog 5 #[] w fun e w'=>e = .returned (.bool true)∧Below w.heap.size w w':=aw_gen XW_ok pub0 w hw
end Go.Proofs.YtkhjnjlinfbfoaaGreatDoor.Ve
