/- Byte strings joined: slices.Grow, slices.Concat, and the reference's Join. -/
import Derived.Test.YtkhjnjlinfbfoaaGreatDoorWirA
import Derived.Lib.AppendZeros
import Derived.Test.YtkhjnjlinfbfoaaGreatDoorVhA
set_option linter.unusedSimpArgs false
set_option linter.unusedVariables false
namespace Go.Proofs.YtkhjnjlinfbfoaaGreatDoor.Wi
open Go Go.RowKit
set_option maxRecDepth 100000
def jo (xss:List (List Int)):Nat→List Int
  | 0=>[]
  | k+1=>jo xss k ++ mi xss k
theorem jo_mono (xss:List (List Int)) {j:Nat} : ∀ k,j≤k→(jo xss j).length≤(jo xss k).length
  | 0,h=>by obtain rfl:j=0:=by omega
               exact Nat.le_refl _
  | k+1,h=>by
    by_cases e:j=k+1
    · subst e;exact Nat.le_refl _
    · have:=jo_mono xss k (show j≤k by omega);simp only [jo,List.length_append];omega
def joA (xss:List (List Int)):List Int:=jo xss xss.length
theorem mi_byt {xss:List (List Int)} (h : ∀ m ∈ xss,Byt m) (k:Nat):Byt (mi xss k):=by
  by_cases hk:k<xss.length
  · rw [mi_get hk];exact h _ (List.getElem_mem hk)
  · unfold mi;rw [List.getD_eq_getElem?_getD,List.getElem?_eq_none (by omega)];exact Byt.nil
theorem jo_byt {xss:List (List Int)} (h : ∀ m ∈ xss,Byt m) : ∀ k,Byt (jo xss k)
  | 0=>Byt.nil
  | k+1=>(jo_byt h k).append (mi_byt h k)
set_option maxHeartbeats 2000000 in
theorem rJoin_any (xss:List (List Int)) (J:List Int) (hJ:joA xss=J) (v:Value) (w:World) (hs:LL w v xss) (hL:J.length≤140737488355328) (hn:xss.length≤1000) :
    Calls Tryz.prog 57 #[v] w fun e w' => ∃ v',e = .returned v'∧Ow w.heap.size w' v' J∧Below w.heap.size w w':=by
  obtain ⟨ad,cap,rfl,hc,hx⟩:=hs
  have HX:Hid (xss = []∧(ad=none→cap=0) ∨ ∃ b o,ad=some ⟨b,o,none⟩∧b<w.heap.size ∧ ∀ i,i<xss.length → ∃ u,w.cell? ⟨b,o+i,none⟩=some u∧Sl w u (mi xss i)):=hx
  have HJ:Hid (jo xss xss.length=J):=hJ
  have HB:Hid (∀ k,k≤xss.length→(jo xss k).length≤140737488355328):=fun k hk=>Nat.le_trans (jo_mono xss _ hk) (by rw [show jo xss xss.length=J from hJ];exact hL)
  clear hx hL hc hJ
  go_enter Tryz.func57,Tryz.ntmps57
  go_wp2_with fail
  go_loopw [3,7] (fun ov i wr => ∃ k:Nat,k≤xss.length∧i = .int .i64 (k:Int)∧Ow w.heap.size wr ov (jo xss k)∧Below w.heap.size w wr) (fun _ i _=>xss.length - (intOf i).toNat)
  case atStart=>exact ⟨0,Nat.zero_le _,rfl,Ow.nil _ _,Below.refl _ _⟩
  case round =>
    obtain ⟨k,hkl,rfl,how,h4⟩:=hrel
    have H4:Hid (Below w.heap.size w wr):=h4
    have HO:Hid (Ow w.heap.size wr u3 (jo xss k)):=how
    clear h4 how
    by_cases hlt:k<xss.length
    · rcases HX.out with ⟨rfl,_⟩ | ⟨b,o,rfl,hlb,hm⟩
      · simp at hlt
      · obtain ⟨u,hc0,hu⟩:=hm k hlt
        have c0:wr.cell? ⟨b,o+k,none⟩=some u:=(H4.out.cell (p:=⟨b,o+k,none⟩) hlb).trans hc0
        have HS:Hid (Sl wr u (mi xss k)):=hu.below H4.out (Nat.le_refl _)
        have HLK:Hid ((jo xss k).length+(mi xss k).length≤140737488355328):=by
          have h1:=HB.out (k+1) hlt
          rw [jo,List.length_append] at h1
          exact h1
        obtain ⟨ua,uc,hue,-,-⟩:=hu
        obtain ⟨ul,hul⟩ : ∃ n,(mi xss k).length=n:=⟨_,rfl⟩
        rw [hul] at hue
        subst hue
        clear hm hc0 hlb hul
        go_wp2_with (at_builtin;refine app_u8 (B0:=w.heap.size) rfl _ _ rfl H4.out.size u3 (jo xss k) rfl HO.out _ rfl (mi xss k) HS.out HLK.out ?_;intro v1 w1 g1 g2 g3 g4;have O1:Hid (Ow w.heap.size w1 v1 (jo xss (k+1))):=g1;have B1:Hid (Below w.heap.size wr w1):=g3;clear g1 g2 g3 g4)
        exact ⟨⟨k+1,hlt,by go_num,O1.out,H4.out.trans B1.out⟩,by simp [intOf];omega⟩
    · obtain rfl:k=xss.length:=by omega
      go_wp2_with fail
      go_ret
      exact ⟨_,rfl,by rw [←HJ.out];exact HO.out,H4.out⟩
theorem zeros_own (w:World) (n:Nat) (h0:0<n) (hn:n≤140737488355328) :
    ∃ cap w',(Builtin.append_ #[23,3] 23 #[.slice none 0 0,.int .i64 (n:Int)]).run Tryz.prog w = .ok (.slice (some ⟨w.heap.size,0,none⟩) n cap) w'∧Ow w.heap.size w' (.slice (some ⟨w.heap.size,0,none⟩) 0 cap) []∧Below w.heap.size w w':=by
  obtain ⟨i,hi,hz,hs,hb⟩:=info_u8
  have hr:=Lib.run_append_nil_zeros (P:=Tryz.prog) w 23 3 23 5 i (.int .u8 0) .i64 .i64 Tryz.underlying23 Tryz.underlying3 hi hz n h0 (by rw [hs];omega) (by omega) (by rw [hb];omega)
  have hge:n≤grownCap w n 0 5:=grownCap_ge _ _ _ _
  have hcm:grownCap w n 0 5≤maxLen:=grownCap_le_maxLen w n 0 _ (by unfold maxLen;omega)
  have hh:(w.drew.alloc (.cells (Builtin.zeroCells (Value.int .u8 0).cells n ++ Builtin.zeroCells (Value.int .u8 0).cells (grownCap w n 0 5 - n)) 5)).heap[w.heap.size]? = some (.cells (Builtin.zeroCells (Value.int .u8 0).cells n ++ Builtin.zeroCells (Value.int .u8 0).cells (grownCap w n 0 5 - n)) 5 (0,0)):=by
    show (w.heap.push _)[w.heap.size]? = _;simp
  have hbl:Below w.heap.size w (w.drew.alloc (.cells (Builtin.zeroCells (Value.int .u8 0).cells n ++ Builtin.zeroCells (Value.int .u8 0).cells (grownCap w n 0 5 - n)) 5)):=((Below.refl _ w).drew).alloc (Nat.le_refl _) _
  have hzc : ∀ m,(Builtin.zeroCells (Value.int .u8 0).cells m).size=m:=fun m=>by simp [Builtin.zeroCells,show (Value.int .u8 0).cells.size=1 from rfl]
  refine ⟨_,_,hr,⟨rfl,.inr ⟨w.heap.size,_,_,rfl,Nat.le_refl _,hh,Nat.zero_le _,hcm,?_,rfl⟩⟩,hbl⟩
  rw [Array.size_append,hzc,hzc];omega
set_option maxHeartbeats 2000000 in
theorem Grow_any (n:Nat) (hn:n≤140737488355328) (w:World) :
    Calls Tryz.prog 76 #[.slice none 0 0,.int .i64 (n:Int)] w fun e w' => ∃ v',e = .returned v'∧Ow w.heap.size w' v' []∧Below w.heap.size w w':=by
  by_cases h0:n=0
  · subst h0
    go_enter Tryz.func76,Tryz.ntmps76
    go_wp2_with fail
    go_ret
    exact ⟨_,rfl,Ow.nil _ _,Below.refl _ _⟩
  · obtain ⟨cap,w1,hr,h1,h2⟩:=zeros_own w n (by omega) hn
    have O1:Hid (Ow w.heap.size w1 (.slice (some ⟨w.heap.size,0,none⟩) 0 cap) []):=h1
    have B1:Hid (Below w.heap.size w w1):=h2
    have HR:Hid ((Builtin.append_ #[23,3] 23 #[.slice none 0 0,.int .i64 (n:Int)]).run Tryz.prog w = .ok (.slice (some ⟨w.heap.size,0,none⟩) n cap) w1):=hr
    have hneg : ¬ ((n:Int)<0):=by omega
    have hpos:(0:Int)<(n:Int):=by omega
    clear h1 h2 hr
    go_enter Tryz.func76,Tryz.ntmps76
    go_wp2_with (at_builtin;refine Lib.wpList_append_run _ rfl (.tmp 20) (.tmp 21) 23 3 rfl (.slice none 0 0) (.int .i64 (n:Int)) rfl rfl _ w1 HR.out ?_)
    go_ret
    exact ⟨_,rfl,O1.out,B1.out⟩
set_option maxHeartbeats 4000000 in
theorem Concat_any (xss:List (List Int)) (J:List Int) (hJ:joA xss=J) (v:Value) (w:World) (hs:LL w v xss) (hL:J.length≤140737488355328) (hn:xss.length≤1000) :
    Calls Tryz.prog 36 #[v] w fun e w' => ∃ v',e = .returned v'∧Ow w.heap.size w' v' J∧Below w.heap.size w w':=by
  obtain ⟨ad,cap,rfl,hc,hx⟩:=hs
  have HX:Hid (xss = []∧(ad=none→cap=0) ∨ ∃ b o,ad=some ⟨b,o,none⟩∧b<w.heap.size ∧ ∀ i,i<xss.length → ∃ u,w.cell? ⟨b,o+i,none⟩=some u∧Sl w u (mi xss i)):=hx
  have HJ:Hid (jo xss xss.length=J):=hJ
  have HB:Hid (∀ k,k≤xss.length→(jo xss k).length≤140737488355328):=fun k hk=>Nat.le_trans (jo_mono xss _ hk) (by rw [show jo xss xss.length=J from hJ];exact hL)
  have HGR:Hid (∀ (m:Nat) (W:World),m≤140737488355328→Calls Tryz.prog 76 #[.slice none 0 0,.int .i64 (m:Int)] W fun e w' => ∃ v',e = .returned v'∧Ow W.heap.size w' v' []∧Below W.heap.size W w'):=fun m W h=>Grow_any m h W
  obtain ⟨n,hn'⟩ : ∃ n,xss.length=n:=⟨_,rfl⟩
  have HN:Hid (xss.length=n):=hn'
  rw [hn'] at hn hc ⊢
  clear hx hL hJ hn'
  go_enter Tryz.func36,Tryz.ntmps36
  go_wp2_with fail
  go_loopw [3,11] (fun sv i wr => ∃ k:Nat,k≤n∧i = .int .i64 (k:Int)∧sv = .int .i64 (((jo xss k).length:Nat):Int)∧wr=w) (fun _ i _=>n - (intOf i).toNat)
  case atStart=>exact ⟨0,Nat.zero_le _,rfl,rfl,rfl⟩
  case round =>
    obtain ⟨k,hkn,rfl,rfl,rfl⟩:=hrel
    by_cases hlt:k<n
    · have HLT:Hid (k<n):=hlt
      rcases HX.out with ⟨rfl,_⟩ | ⟨b,o,rfl,hlb,hm⟩
      · have:=HN.out;simp at this;omega
      · obtain ⟨u,c1,hu⟩:=hm k (by rw [HN.out];exact hlt)
        obtain ⟨ua,uc,hue,-,-⟩:=hu
        obtain ⟨ul,hul⟩ : ∃ m,(mi xss k).length=m:=⟨_,rfl⟩
        obtain ⟨t,ht⟩ : ∃ t,(jo xss k).length=t:=⟨_,rfl⟩
        have HT1:Hid ((jo xss (k+1)).length=t+ul):=by show _=_;rw [jo,List.length_append,ht,hul]
        have hb9:t+ul≤140737488355328:=by have h1:=HB.out (k+1) (by rw [HN.out];exact hlt);have h3:=HT1.out;omega
        have hng : ¬ ((t:Int)+(ul:Int)<0):=by omega
        rw [hul] at hue
        rw [hue] at c1
        rw [ht]
        clear hm hlb hue hul ht
        go_wp2_with fail
        exact ⟨⟨k+1,HLT.out,by go_num,by rw [HT1.out];go_num,trivial⟩,by have:=HLT.out;simp [intOf];omega⟩
    · obtain rfl:k=n:=by omega
      have ht9:J.length≤140737488355328:=by rw [←HJ.out];exact HB.out _ (Nat.le_refl _)
      obtain ⟨t,ht⟩ : ∃ t,J.length=t:=⟨_,rfl⟩
      rw [ht] at ht9
      have eT:(jo xss k).length=t:=by rw [←HN.out,HJ.out];exact ht
      have HG:Hid (Calls Tryz.prog 76 #[.slice none 0 0,.int .i64 (t:Int)] wr fun e w' => ∃ v',e = .returned v'∧Ow wr.heap.size w' v' []∧Below wr.heap.size wr w'):=HGR.out t wr ht9
      rw [eT]
      clear eT ht
      go_wp2_with (go_at_call 76;refine HG.out.mono ?_;rintro e w1 ⟨v1,rfl,g1,g2⟩;have O1:Hid (Ow wr.heap.size w1 v1 []):=g1;have B1:Hid (Below wr.heap.size wr w1):=g2;clear g1 g2)
      obtain ⟨W0,hW0⟩ : ∃ W,wr=W:=⟨_,rfl⟩
      rw [hW0] at HX O1 B1
      clear HGR HG
      go_loopw [6,27] (fun av i wx => ∃ j:Nat,j≤k∧i = .int .i64 (j:Int)∧Ow W0.heap.size wx av (jo xss j)∧Below W0.heap.size W0 wx) (fun _ i _=>k - (intOf i).toNat)
      case atStart=>exact ⟨0,Nat.zero_le _,rfl,O1.out,B1.out⟩
      case round =>
        obtain ⟨j,hjn,rfl,q1,q2⟩:=hrel
        have O2:Hid (Ow W0.heap.size wr u6 (jo xss j)):=q1
        have B2:Hid (Below W0.heap.size W0 wr):=q2
        clear q1 q2
        by_cases hlt:j<k
        · have HLT:Hid (j<k):=hlt
          rcases HX.out with ⟨rfl,_⟩ | ⟨b,o,rfl,hlb,hm⟩
          · have:=HN.out;simp at this;omega
          · obtain ⟨u,c1,hu⟩:=hm j (by rw [HN.out];exact hlt)
            have c3:wr.cell? ⟨b,o+j,none⟩=some u:=(B2.out.cell (p:=⟨b,o+j,none⟩) hlb).trans c1
            have HS:Hid (Sl wr u (mi xss j)):=hu.below B2.out (Nat.le_refl _)
            have HLK:Hid ((jo xss j).length+(mi xss j).length≤140737488355328):=by
              have h1:=HB.out (j+1) (by rw [HN.out];exact hlt)
              rw [jo,List.length_append] at h1
              exact h1
            obtain ⟨ua,uc,hue,-,-⟩:=hu
            obtain ⟨ul,hul⟩ : ∃ m,(mi xss j).length=m:=⟨_,rfl⟩
            rw [hul] at hue
            subst hue
            clear hm c1 hlb hul hW0
            go_wp2_with (at_builtin;refine app_u8 (B0:=W0.heap.size) rfl (.tmp 31) (.tmp 32) rfl B2.out.size u6 (jo xss j) rfl O2.out _ rfl (mi xss j) HS.out HLK.out ?_;intro v3 w3 g1 g2 g3 g4;have O3:Hid (Ow W0.heap.size w3 v3 (jo xss (j+1))):=g1;have B3:Hid (Below W0.heap.size W0 w3):=B2.out.trans g3;clear g1 g2 g3 g4)
            exact ⟨⟨j+1,HLT.out,by go_num,O3.out,B3.out⟩,by have:=HLT.out;simp [intOf];omega⟩
        · obtain rfl:j=k:=by omega
          have O3:Hid (Ow W0.heap.size wr u6 J):=by have:=O2.out;rw [←HN.out,HJ.out] at this;exact this
          go_wp2_with fail
          go_ret
          subst hW0
          exact ⟨_,rfl,O3.out,B2.out⟩
end Go.Proofs.YtkhjnjlinfbfoaaGreatDoor.Wi
/- hashed: byte strings as a number, of the program and of the reference. -/
namespace Go.Proofs.YtkhjnjlinfbfoaaGreatDoor.Wi
open Go Go.RowKit
set_option maxRecDepth 100000
structure Res (w U:World) (Z:Array Value):Prop where
 below:Below w.heap.size w U
 size:U.heap.size=w.heap.size+1
 row:U.heap[w.heap.size]? = some (.cells Z 22 (0,0))
 len:Z.size=32
theorem Res.there {w U:World} {Z:Array Value} (h:Res w U Z) {W:World} (hb:Below U.heap.size U W):W.there w.heap.size 0 32 :=
 there_of_row' ((hb.block _ (by rw [h.size];omega)).trans h.row) 0 32 (by rw [h.len];exact Nat.le_refl _)
theorem res32 (w:World) : ∃ Z,(∀ W:World,(zeroValue 22).run Tryz.prog W = .ok (.agg Z) W)∧Res w (w.alloc (.cells Z 22)) Z :=
 ⟨_,zero_32,(Below.refl _ w).alloc (Nat.le_refl _) _,by simp,by show (w.heap.push _)[w.heap.size]? = _;simp,by simp [bv]⟩
def hd (xss:List (List Int)):List Int:=rd (h5 (joA xss))
theorem L32.hd (xss:List (List Int)):L32 (hd xss):=bi_l32 _
set_option maxHeartbeats 2000000 in
theorem hashed_any (xss:List (List Int)) (H:List Int) (hH:hd xss=H) (hb : ∀ m ∈ xss,Byt m) (hn:xss.length≤1000) (hl:(joA xss).length≤140737488354000) (v:Value) (w:World) (hv:LL w v xss) (hw:Gp w) :
  Calls Tryz.prog 13 #[v] w fun e w'=>e = .returned (.agg (bv H).toArray)∧Below w.heap.size w w':=by
 obtain ⟨Z,hz,rs⟩:=res32 w
 have HL:Hid (L32 H):=by rw [←hH];exact L32.hd _
 obtain ⟨J,hJ⟩ : ∃ J,joA xss=J:=⟨_,rfl⟩
 obtain ⟨G,hG⟩ : ∃ G,h5 J=G:=⟨_,rfl⟩
 have HJB:Hid (Byt J):=by rw [←hJ];exact jo_byt hb _
 have HGL:Hid (G.length=64∧Byt G):=by rw [←hG];exact ⟨h5_length _,h5_byt _⟩
 have HRD:Hid (rd G=H):=by show rd G=H;rw [←hH,hd,hJ,hG]
 have HJL:Hid (J.length≤140737488354000):=by show _≤_;rw [←hJ];exact hl
 have HGH:Hid (h5 J=G):=hG
 obtain ⟨U,hU⟩ : ∃ U,w.alloc (.cells Z 22)=U:=⟨_,rfl⟩
 rw [hU] at rs
 have RS:Hid (Res w U Z):=rs
 have HC:Hid (Calls Tryz.prog 36 #[v] U fun e w' => ∃ v',e = .returned v'∧Ow U.heap.size w' v' J∧Below U.heap.size U w'):=Concat_any xss J hJ v U (hv.below rs.below) (by rw [←hJ];omega) hn
 have HG:Hid (Gp U):=hw.below rs.below
 obtain ⟨D,hD⟩ : ∃ D,w.heap.size=D:=⟨_,rfl⟩
 have HD:Hid (w.heap.size=D):=hD
 clear hH hb hn hl hv hJ hG rs hw
 have hz1:=hz w
 go_enter Tryz.func13,Tryz.ntmps13
 go_upto_region 1 with (fail)
 try rw [hU]
 try rw [hD]
 clear hU hz hz1
 go_wp2_with (first
  | (go_at_call 36;refine HC.out.mono ?_;rintro e w1 ⟨v1,rfl,g1,g2⟩;have O1:Hid (Ow U.heap.size w1 v1 J):=g1;have B1:Hid (Below U.heap.size U w1):=g2;clear g1 g2)
  | (go_at_call 35;refine (sum512_sl J G v1 HGH.out HJL.out w1 (HG.out.below B1.out).tb HJB.out O1.out.sq).mono ?_;rintro e w2 ⟨rfl,g1⟩;have B2:Hid (Below U.heap.size U w2):=Below.tr' B1.out g1;clear g1)
  | (go_at_call 34;refine (red_sl HGL.out.1 HGL.out.2 w2).mono ?_;rintro e w3 ⟨rfl,g1⟩;rw [HRD.out];have B3:Hid (Below U.heap.size U w3):=Below.tr' B2.out g1;clear g1)
  | (refine wpList_store_mid rfl 22 (.tmp 2) (.tmp 6) rfl D 0 (bv H).toArray rfl rfl (by rw [List.size_toArray,bv_length,HL.out.len,←HD.out];exact RS.out.there B3.out) (by rw [List.size_toArray];exact size_l32 HL.out) (bv_one' _) ?_;simp only [List.toList_toArray]))
 have qq:(w3.setCells D 0 (bv H)).rangeAt D 0 (bv H):=World.rangeAt_setCells_same _ _ _ _ (by rw [bv_length,HL.out.len,←HD.out];exact RS.out.there B3.out)
 have hbl:Below w.heap.size w (w3.setCells D 0 (bv H)):=below_setCells (by rw [HD.out];exact Nat.le_refl _) _ _ (RS.out.below.trans (B3.out.mono RS.out.below.size))
 refine bodyPost_ret (v := .agg (bv H).toArray) ?_ rfl ⟨rfl,hbl⟩
 simp only [results,Tryz.results13]
 simp [Act.put,asAddr,run_loadVar_mid _ D 0 22 (bv H) _ qq Tryz.underlying22 rfl (size_l32 HL.out)]
set_option maxHeartbeats 2000000 in
theorem rhashed_any (xss:List (List Int)) (H:List Int) (hH:hd xss=H) (hb : ∀ m ∈ xss,Byt m) (hn:xss.length≤1000) (hl:(joA xss).length≤140737488354000) (v:Value) (w:World) (hv:LL w v xss) :
  Calls Tryz.prog 19 #[v] w fun e w'=>e = .returned (.agg (bv H).toArray)∧Below w.heap.size w w':=by
 obtain ⟨Z,hz,rs⟩:=res32 w
 have HL:Hid (L32 H):=by rw [←hH];exact L32.hd _
 obtain ⟨J,hJ⟩ : ∃ J,joA xss=J:=⟨_,rfl⟩
 obtain ⟨G,hG⟩ : ∃ G,h5 J=G:=⟨_,rfl⟩
 have HJB:Hid (Byt J):=by rw [←hJ];exact jo_byt hb _
 have HGL:Hid (G.length=64∧Byt G):=by rw [←hG];exact ⟨h5_length _,h5_byt _⟩
 have HRD:Hid (rd G=H):=by show rd G=H;rw [←hH,hd,hJ,hG]
 have HJL:Hid (J.length≤140737488354000):=by show _≤_;rw [←hJ];exact hl
 have HGH:Hid (h5 J=G):=hG
 obtain ⟨U,hU⟩ : ∃ U,w.alloc (.cells Z 22)=U:=⟨_,rfl⟩
 rw [hU] at rs
 have RS:Hid (Res w U Z):=rs
 have HC:Hid (Calls Tryz.prog 57 #[v] U fun e w' => ∃ v',e = .returned v'∧Ow U.heap.size w' v' J∧Below U.heap.size U w'):=rJoin_any xss J hJ v U (hv.below rs.below) (by rw [←hJ];omega) hn
 obtain ⟨D,hD⟩ : ∃ D,w.heap.size=D:=⟨_,rfl⟩
 have HD:Hid (w.heap.size=D):=hD
 clear hH hb hn hl hv hJ hG rs
 have hz1:=hz w
 go_enter Tryz.func19,Tryz.ntmps19
 go_upto_region 1 with (fail)
 try rw [hU]
 try rw [hD]
 clear hU hz hz1
 go_wp2_with (first
  | (go_at_call 57;refine HC.out.mono ?_;rintro e w1 ⟨v1,rfl,g1,g2⟩;have O1:Hid (Ow U.heap.size w1 v1 J):=g1;have B1:Hid (Below U.heap.size U w1):=g2;clear g1 g2)
  | (go_at_call 56;refine (rsum512_sl J G v1 HGH.out HJL.out w1 HJB.out O1.out.sq).mono ?_;rintro e w2 ⟨rfl,g1⟩;have B2:Hid (Below U.heap.size U w2):=Below.tr' B1.out g1;clear g1)
  | (go_at_call 55;refine (rred_sl HGL.out.1 HGL.out.2 w2).mono ?_;rintro e w3 ⟨rfl,g1⟩;rw [HRD.out];have B3:Hid (Below U.heap.size U w3):=Below.tr' B2.out g1;clear g1)
  | (refine wpList_store_mid rfl 22 (.tmp 2) (.tmp 6) rfl D 0 (bv H).toArray rfl rfl (by rw [List.size_toArray,bv_length,HL.out.len,←HD.out];exact RS.out.there B3.out) (by rw [List.size_toArray];exact size_l32 HL.out) (bv_one' _) ?_;simp only [List.toList_toArray]))
 have qq:(w3.setCells D 0 (bv H)).rangeAt D 0 (bv H):=World.rangeAt_setCells_same _ _ _ _ (by rw [bv_length,HL.out.len,←HD.out];exact RS.out.there B3.out)
 have hbl:Below w.heap.size w (w3.setCells D 0 (bv H)):=below_setCells (by rw [HD.out];exact Nat.le_refl _) _ _ (RS.out.below.trans (B3.out.mono RS.out.below.size))
 refine bodyPost_ret (v := .agg (bv H).toArray) ?_ rfl ⟨rfl,hbl⟩
 simp only [results,Tryz.results19]
 simp [Act.put,asAddr,run_loadVar_mid _ D 0 22 (bv H) _ qq Tryz.underlying22 rfl (size_l32 HL.out)]
end Go.Proofs.YtkhjnjlinfbfoaaGreatDoor.Wi
