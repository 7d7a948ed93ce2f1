/- The reference's below, Least, Minus, Same. -/
import Derived.Test.YtajehiidpecknaaGreatDoorFieRC
set_option linter.all false
namespace Go.Proofs.YtajehiidpecknaaGreatDoor
open Go Go.RowKit Go.Lib
set_option maxRecDepth 100000
theorem pV (a b:Nat) (ha:a<RN) (hb:b<RN) (w:World) :
  Calls Tryz.prog 119 #[.agg (nl a).toArray,.agg (nl b).toArray] w fun e w'=>e = .returned (.bool (decide (a<b)))∧Below w.heap.size w w':=by
 have h:=Sc.oN Tryz.func119 (by kernel_rfl) (by constructor <;> (intros;first | kernel_rfl | exact ⟨by kernel_rfl,by kernel_rfl⟩)) (a:=a) (b:=b) ha hb w
 exact h
end Go.Proofs.YtajehiidpecknaaGreatDoor
namespace Go.Proofs.YtajehiidpecknaaGreatDoor
open Go Go.RowKit Go.Lib
set_option maxRecDepth 100000
theorem SS.nothing {w0:World} {bs:List (Nat × List Value × TypeId)} {r n:Nat} {w:World} (h:SS w0 bs r n w):SS w0 [] r n w:=⟨h.below,fun i g L t hm=>by simp at hm,h.there⟩
theorem SS.only {w0:World} {r n q:Nat} {w:World} (h:SS w0 [] r n w) (L:List Value) (t:TypeId) (hq:w.heap[q]? = some (.cells L.toArray t (0,0))):SS w0 [(q,L,t)] r n w:=h.add L t hq
set_option maxRecDepth 100000 in
set_option maxHeartbeats 4000000 in
theorem dq (a:Nat) (ha:a<RN) (w:World) :
  Calls Tryz.prog 91 #[.agg (nl a).toArray] w fun e w'=>e = .returned (.agg (nl (a % pp)).toArray)∧Below w.heap.size w w':=by
 have HS0:Hid (SS w [] (w.heap.size+1) 4 _):=SS.num40 w (Num.of a)
 go_enter Tryz.func91,Tryz.ntmps91
 go_wp2
 go_loopg [3] (a/pp) (fun k _ wr => ∃ x:Nat,x<RN∧x % pp=a % pp∧x/pp≤k∧wr.heap[w.heap.size]? = some (.cells (nl x).toArray 68 (0,0))∧SS w [] (w.heap.size+1) 4 wr)
 case atStart=>exact ⟨a,ha,rfl,Nat.le_refl _,(ao _ _ _ (by simp)).trans (ai _ _ _ rfl),HS0.out⟩
 case round =>
  obtain ⟨x,hx,ex,hk,hnum,hss⟩:=hrel
  have HN:Hid (wr.heap[w.heap.size]? = some (.cells (nl x).toArray 68 (0,0))):=hnum
  have HS1:Hid (SS w [(w.heap.size,nl x,68)] (w.heap.size+1) 4 wr):=hss.only (nl x) _ hnum
  have HX:Hid (x % pp=a % pp):=ex
  have HK:Hid (x/pp≤gk):=hk
  clear ex hk hnum hss
  have bel0:=fun hx=>pV x pp hx jM
  by_cases hlt:x<pp
  ·have bel : ∀ (hx:x<RN) w,Calls Tryz.prog 119 #[.agg (nl x).toArray,.agg (nl pp).toArray] w fun e w'=>e = .returned (.bool true)∧Below w.heap.size w w':=fun hx w=>by
    have:=bel0 hx w;rw [decide_eq_true hlt] at this;exact this
   have HE:Hid (x=a % pp):=by show _=_;rw [←HX.out,Nat.mod_eq_of_lt hlt]
   go_wp2_with fail
   refine wp_region_held_drew (S:=(fun w'=>SS w [(w.heap.size,nl x,68)] (w.heap.size+1) 4 w')) (by kernel_rfl) ?_ (fun hHeld => ?_)
   ·exact HS1.out.drew
   refine ar (i:=0) (v:=_) 3 rfl rfl (by kernel_rfl) (by kernel_rfl) (by kernel_rfl) (fun _ _ _ h=>h) (yieldsIf_load_mid (by rfl) _ _ rfl _ _ rfl _ _ (fun w h=>h.range (i:=0) rfl) Tryz.underlying68 rfl (r4 x)) hHeld ?_
   simp only [Act.put,qA,qC,qB]
   refine wpAnyH_ready (rs:=[1]) (by kernel_rfl) (by simp) ?_
   refine AllReadyH.cons rfl (fun K hK => ?_) AllReadyH.nil
   go_simp
   go_at_call 120
   refine (jG _).mono ?_
   rintro e wA ⟨rfl,hbA⟩
   refine hK.out _ _ ?_ (fun hHeld => ?_)
   ·exact hHeld.call hbA
   clear hK K
   try simp only [Act.put,qA,qC,qB]
   refine wpAnyH_ready (rs:=[2]) (by kernel_rfl) (by simp) ?_
   refine AllReadyH.cons rfl (fun K hK => ?_) AllReadyH.nil
   go_simp
   go_at_call 119
   refine (bel hx _).mono ?_
   rintro e wB ⟨rfl,hbB⟩
   refine hK.out _ _ ?_ (fun hHeld => ?_)
   ·exact hHeld.call hbB
   clear hK K
   try simp only [Act.put,qA,qC,qB]
   refine ar (i:=3) (v := ?_) 6 rfl rfl (by kernel_rfl) (by kernel_rfl) (by kernel_rfl) (fun _ _ _ h=>h) (Or.inl ⟨by rfl,?_⟩) hHeld ?_
   rotate_left 1
   ·intro w hSw;go_simp <;> with_reducible rfl
   simp only [Act.put,qA,qC,qB]
   refine wpAnyH_done (by kernel_rfl) ?_ _
   have HC:Hid (World.rangeAt _ w.heap.size 0 (nl x)):=hHeld.range (i:=0) rfl
   have HT:Hid (World.there _ (w.heap.size+1) 0 4):=hHeld.there
   have HB:Hid (Below w.heap.size w wB):=hHeld.below
   clear hHeld
   go_wp2_with (first | (refine wpList_load_mid rfl 68 _ rfl w.heap.size 0 rfl (nl x) _ HC.out Tryz.underlying68 rfl (r4 x) ?_) | (refine wpList_store_mid rfl 68 _ _ rfl (w.heap.size+1) 0 (nl x).toArray rfl rfl HT.out (r4 x) (aR x) ?_))
   refine bodyPost_ret (v := .agg (nl x).toArray) (aF Tryz.results91 _ _ (w.heap.size+1) 0 (nl x) _ rfl (World.rangeAt_setCells_same _ _ _ _ HT.out) Tryz.underlying68 rfl (r4 x)) rfl ⟨congrArg (fun n=>Ending.returned (.agg (nl n).toArray)) HE.out,af _ (by omega) _ _ _ HB.out⟩
  ·have bel : ∀ (hx:x<RN) w,Calls Tryz.prog 119 #[.agg (nl x).toArray,.agg (nl pp).toArray] w fun e w'=>e = .returned (.bool false)∧Below w.heap.size w w':=fun hx w=>by
    have:=bel0 hx w;rw [decide_eq_false hlt] at this;exact this
   obtain ⟨z,hz⟩ : ∃ z,z=x - pp:=⟨_,rfl⟩
   have hge:pp≤x:=by omega
   have les : ∀ x,x<RN→pp≤x → ∀ w,Calls Tryz.prog 125 #[.agg (nl x).toArray,.agg (nl pp).toArray] w fun e w'=>e = .returned (.agg (nl (x - pp)).toArray)∧Below w.heap.size w w':=fun x hx h w=>uy x pp hx jM h w
   have lesz : ∀ w,Calls Tryz.prog 125 #[.agg (nl x).toArray,.agg (nl pp).toArray] w fun e w'=>e = .returned (.agg (nl z).toArray)∧Below w.heap.size w w':=fun w=>by rw [hz];exact les x hx hge w
   have hd:x/pp=z/pp+1:=by
    have:x=z+pp:=by omega
    rw [this,Nat.add_div_right _ (show 0<pp by decide)]
   have HZ:Hid (z<RN∧z % pp=a % pp∧z/pp≤gk - 1):=by
    refine ⟨by omega,?_,?_⟩
    ·rw [←HX.out,show x=z+pp by omega,Nat.add_mod_right]
    ·have:=HK.out;rw [hd] at this;exact Nat.le_sub_of_add_le this
   have HM:Hid (gk - 1<gk):=by
    have h1:1≤x/pp:=by rw [hd];exact Nat.le_add_left 1 _
    have h2:1≤gk:=Nat.le_trans h1 HK.out
    show gk - 1<gk
    omega
   clear hz hd les
   go_wp2_with fail
   refine wp_region_held_drew (S:=(fun w'=>SS w [(w.heap.size,nl x,68)] (w.heap.size+1) 4 w')) (by kernel_rfl) ?_ (fun hHeld => ?_)
   ·exact HS1.out.drew
   refine ar (i:=0) (v:=_) 3 rfl rfl (by kernel_rfl) (by kernel_rfl) (by kernel_rfl) (fun _ _ _ h=>h) (yieldsIf_load_mid (by rfl) _ _ rfl _ _ rfl _ _ (fun w h=>h.range (i:=0) rfl) Tryz.underlying68 rfl (r4 x)) hHeld ?_
   simp only [Act.put,qA,qC,qB]
   refine wpAnyH_ready (rs:=[1]) (by kernel_rfl) (by simp) ?_
   refine AllReadyH.cons rfl (fun K hK => ?_) AllReadyH.nil
   go_simp
   go_at_call 120
   refine (jG _).mono ?_
   rintro e wA ⟨rfl,hbA⟩
   refine hK.out _ _ ?_ (fun hHeld => ?_)
   ·exact hHeld.call hbA
   clear hK K
   try simp only [Act.put,qA,qC,qB]
   refine wpAnyH_ready (rs:=[2]) (by kernel_rfl) (by simp) ?_
   refine AllReadyH.cons rfl (fun K hK => ?_) AllReadyH.nil
   go_simp
   go_at_call 119
   refine (bel hx _).mono ?_
   rintro e wB ⟨rfl,hbB⟩
   refine hK.out _ _ ?_ (fun hHeld => ?_)
   ·exact hHeld.call hbB
   clear hK K
   try simp only [Act.put,qA,qC,qB]
   refine ar (i:=3) (v := ?_) 6 rfl rfl (by kernel_rfl) (by kernel_rfl) (by kernel_rfl) (fun _ _ _ h=>h) (Or.inl ⟨by rfl,?_⟩) hHeld ?_
   rotate_left 1
   ·intro w hSw;go_simp <;> with_reducible rfl
   simp only [Act.put,qA,qC,qB]
   refine wpAnyH_done (by kernel_rfl) ?_ _
   have HN2:Hid (wB.heap[w.heap.size]? = some (.cells (nl x).toArray 68 (0,0))):=hHeld.holds 0 _ _ _ rfl
   have HS2:Hid (SS w [] (w.heap.size+1) 4 wB):=hHeld.nothing
   clear hHeld
   go_wp2_with fail
   refine wp_region_held_drew (S:=(fun w'=>SS w [] (w.heap.size+1) 4 w')) (by kernel_rfl) ?_ (fun hHeld => ?_)
   ·exact HS2.out.drew
   refine wpAnyH_ready (rs:=[0,1]) (by kernel_rfl) (by simp) ?_
   refine AllReadyH.cons rfl (fun K hK => ?_) (AllReadyH.cons rfl (fun K hK => ?_) AllReadyH.nil)
   ·rw [if_pos (by rfl)]
    refine wp_load_mid _ _ rfl _ _ rfl (nl x) _ (bK (cs:=(nl x).toArray) (w:=wB.drew) HN2.out) Tryz.underlying68 rfl (r4 x) ?_
    refine hK.out _ _ hHeld (fun hHeld => ?_)
    clear hK K
    try simp only [Act.put,qA,qC,qB]
    refine wpAnyH_ready (rs:=[1]) (by kernel_rfl) (by simp) ?_
    refine AllReadyH.cons rfl (fun K hK => ?_) AllReadyH.nil
    go_simp
    go_at_call 120
    refine (jG _).mono ?_
    rintro e wP ⟨rfl,hbP⟩
    refine hK.out _ _ (hHeld.call hbP) (fun hHeld => ?_)
    clear hK K
    try simp only [Act.put,qA,qC,qB]
    have hnP:=bJ (w:=wB.drew) hbP HN2.out
    refine wpAnyH_ready (rs:=[2]) (by kernel_rfl) (by simp) ?_
    refine AllReadyH.cons rfl (fun K hK => ?_) AllReadyH.nil
    go_simp
    go_at_call 125
    refine (lesz _).mono ?_
    rintro e wQ ⟨rfl,hbQ⟩
    refine hK.out _ _ (hHeld.call hbQ) (fun hHeld => ?_)
    clear hK K
    try simp only [Act.put,qA,qC,qB]
    have hnQ:=bJ hbQ hnP
    refine wpAnyH_ready (rs:=[3]) (by kernel_rfl) (by simp) ?_
    refine AllReadyH.cons rfl (fun K hK => ?_) AllReadyH.nil
    rw [if_pos (by rfl)]
    refine wp_store_mid _ _ _ rfl _ _ (nl z).toArray rfl rfl (aq hnQ 0 4 (by simp)) (r4 z) (aR z) ?_
    refine hK.out _ _ (hHeld.put (by omega) (fun b hb=>by simp at hb) _) (fun hHeld => ?_)
    clear hK K
    try simp only [Act.put,qA,qC,qB]
    refine wpAnyH_done (by kernel_rfl) ?_ _
    have hnZ:=ct (y0 := .int .u64 (lw z 0)) (y1 := .int .u64 (lw z 1)) (y2 := .int .u64 (lw z 2)) (y3 := .int .u64 (lw z 3)) hnQ
    have HZ2:=hnZ
    have HS3:=hHeld
    clear hHeld hnZ hnQ
    go_wp2
    go_roundg (gk - 1)
    case measure=>exact HM.out
    case rel=>exact ⟨z,HZ.out.1,HZ.out.2.1,HZ.out.2.2,HZ2,HS3⟩
   ·go_simp
    go_at_call 120
    refine (jG _).mono ?_
    rintro e wP ⟨rfl,hbP⟩
    refine hK.out _ _ (hHeld.call hbP) (fun hHeld => ?_)
    clear hK K
    try simp only [Act.put,qA,qC,qB]
    have hnP:=bJ (w:=wB.drew) hbP HN2.out
    refine wpAnyH_ready (rs:=[0]) (by kernel_rfl) (by simp) ?_
    refine AllReadyH.cons rfl (fun K hK => ?_) AllReadyH.nil
    rw [if_pos (by rfl)]
    refine wp_load_mid _ _ rfl _ _ rfl (nl x) _ (bK (cs:=(nl x).toArray) (w:=wP) hnP) Tryz.underlying68 rfl (r4 x) ?_
    refine hK.out _ _ hHeld (fun hHeld => ?_)
    clear hK K
    try simp only [Act.put,qA,qC,qB]
    refine wpAnyH_ready (rs:=[2]) (by kernel_rfl) (by simp) ?_
    refine AllReadyH.cons rfl (fun K hK => ?_) AllReadyH.nil
    go_simp
    go_at_call 125
    refine (lesz _).mono ?_
    rintro e wQ ⟨rfl,hbQ⟩
    refine hK.out _ _ (hHeld.call hbQ) (fun hHeld => ?_)
    clear hK K
    try simp only [Act.put,qA,qC,qB]
    have hnQ:=bJ hbQ hnP
    refine wpAnyH_ready (rs:=[3]) (by kernel_rfl) (by simp) ?_
    refine AllReadyH.cons rfl (fun K hK => ?_) AllReadyH.nil
    rw [if_pos (by rfl)]
    refine wp_store_mid _ _ _ rfl _ _ (nl z).toArray rfl rfl (aq hnQ 0 4 (by simp)) (r4 z) (aR z) ?_
    refine hK.out _ _ (hHeld.put (by omega) (fun b hb=>by simp at hb) _) (fun hHeld => ?_)
    clear hK K
    try simp only [Act.put,qA,qC,qB]
    refine wpAnyH_done (by kernel_rfl) ?_ _
    have hnZ:=ct (y0 := .int .u64 (lw z 0)) (y1 := .int .u64 (lw z 1)) (y2 := .int .u64 (lw z 2)) (y3 := .int .u64 (lw z 3)) hnQ
    have HZ2:=hnZ
    have HS3:=hHeld
    clear hHeld hnZ hnQ
    go_wp2
    go_roundg (gk - 1)
    case measure=>exact HM.out
    case rel=>exact ⟨z,HZ.out.1,HZ.out.2.1,HZ.out.2.2,HZ2,HS3⟩
end Go.Proofs.YtajehiidpecknaaGreatDoor
namespace Go.Proofs.YtajehiidpecknaaGreatDoor
open Go Go.RowKit Go.Lib
set_option maxRecDepth 100000
theorem SS.duo (w:World) (a b:Nat):SS w [(w.heap.size,nl a,68),(w.heap.size+1,nl b,68)] (w.heap.size+1+1) 4 (((w.alloc (.cells (nl a).toArray 68)).alloc (.cells (nl b).toArray 68)).alloc (.cells #[.int .u64 0,.int .u64 0,.int .u64 0,.int .u64 0] 68)):=by
 have h1:SS w [(w.heap.size,nl a,68)] (w.heap.size+1+1) 4 (((w.alloc (.cells (nl a).toArray 68)).alloc (.cells (nl b).toArray 68)).alloc (.cells #[.int .u64 0,.int .u64 0,.int .u64 0,.int .u64 0] 68)):=by
  refine ⟨(((Below.refl _ _).alloc (Nat.le_refl _) _).alloc (by simp) _).alloc (by simp;omega) _,?_,aq (ai _ _ _ (by simp)) 0 4 (by simp)⟩
  intro i g L t hm
  match i,hm with
  | 0,hm =>
   cases hm
   exact (ao _ _ _ (by simp only [World.size_alloc];omega)).trans ((ao _ _ _ (by simp only [World.size_alloc];omega)).trans (ai _ _ _ rfl))
 exact h1.add (nl b) _ ((ao _ _ _ (by simp only [World.size_alloc];omega)).trans (ai _ _ _ (by simp)))
theorem pB:Tryz.prog.plainKey 66=true:=by kernel_rfl
theorem gM (m i:Nat) (h:i<4):(nl m).toArray[i]? = some (.int .u64 (lw m i)):=by
 match i,h with
 | 0,_=>rfl
 | 1,_=>rfl
 | 2,_=>rfl
 | 3,_=>rfl
theorem Bz (m n:Nat) (d:Nat) (w:World) : ∀ is:List Nat,(∀ i ∈ is,i<4) →
  (Op.eqItems (d+1) 66 (Tryz.prog.cellsOf 66) (nl m).toArray (nl n).toArray is).run Tryz.prog w = .ok (is.all fun i=>decide (lw m i=lw n i)) w
 | [],_=>by simp [Op.eqItems]
 | i :: is,h=>by
  have hi:=h i (by simp)
  have hc:Tryz.prog.cellsOf 66=1:=by kernel_rfl
  have p1:=run_part_plain (P:=Tryz.prog) w pB (xs:=(nl m).toArray) (off:=i) (gM m i hi)
  have p2:=run_part_plain (P:=Tryz.prog) w pB (xs:=(nl n).toArray) (off:=i) (gM n i hi)
  have p3:=run_equalIn_int (P:=Tryz.prog) w d 66 .u64 .u64 (lw m i) (lw n i) Tryz.underlying66
  have ih:=Bz m n d w is (fun j hj=>h j (by simp [hj]))
  rw [hc] at ih
  simp only [Op.eqItems,hc,Nat.mul_one,Sem.run_bind,p1,p2,p3,Result.andThen_ok,List.all_cons]
  by_cases e:lw m i=lw n i
  ·simp [e,ih]
  ·simp [e]
theorem Dk (m n:Nat) (hm:m<RN) (hn:n<RN) (w:World):(Op.equalIn 10000 68 (.agg (nl m).toArray) (.agg (nl n).toArray)).run Tryz.prog w = .ok (decide (m=n)) w:=by
 obtain ⟨i,hi⟩ : ∃ i,Tryz.prog.info? 66=some i:=by
  cases h:Tryz.prog.info? 66 with
  | none =>
    have:(Tryz.prog.info? 66).map (·.size)=some 1:=by kernel_rfl
    rw [h] at this;cases this
  | some i=>exact ⟨i,rfl⟩
 have:=run_equalIn_array (P:=Tryz.prog) w 9999 (nl m).toArray (nl n).toArray Tryz.underlying68 hi
 rw [Bz m n 9998 w _ (fun i hi=>List.mem_range.1 hi)] at this
 refine this.trans ?_
 congr 1
 by_cases e:m=n
 ·subst e;simp
 ·rw [decide_eq_false e,Bool.eq_false_iff]
  intro h
  rw [List.all_eq_true] at h
  refine e (Bh hm hn ?_)
  have g:=fun i (hi:i<4)=>of_decide_eq_true (h i (List.mem_range.2 hi))
  simp only [nv,g 0 (by omega),g 1 (by omega),g 2 (by omega),g 3 (by omega)]
set_option maxRecDepth 100000 in
set_option maxHeartbeats 2000000 in
theorem uQ (a b:Nat) (ha:a<RN) (hb:b<RN) (w:World) :
  Calls Tryz.prog 86 #[.agg (nl a).toArray,.agg (nl b).toArray] w fun e w' => ∃ s,s<RN∧e = .returned (.agg (nl s).toArray)∧(s % pp=(a+(pp - b % pp)) % pp∧s=fX (a+(pp - b % pp)))∧Below w.heap.size w w':=by
 have HS0:=SS.duo w a b
 go_enter Tryz.func86,Tryz.ntmps86
 go_wp2
 obtain ⟨x0,hx0⟩ : ∃ x,x=(((w.alloc (.cells (nl a).toArray 68)).alloc (.cells (nl b).toArray 68)).alloc (.cells #[.int .u64 0,.int .u64 0,.int .u64 0,.int .u64 0] 68)):=⟨_,rfl⟩
 have HS:Hid (SS w [(w.heap.size,nl a,68),(w.heap.size+1,nl b,68)] (w.heap.size+1+1) 4 x0):=by rw [hx0];exact HS0
 rw [←hx0]
 clear hx0 HS0
 refine wp_region_held_drew (S:=(fun w'=>SS w [(w.heap.size,nl a,68),(w.heap.size+1,nl b,68)] (w.heap.size+1+1) 4 w')) (by kernel_rfl) ?_ (fun hHeld => ?_)
 ·exact HS.out.drew
 refine ar (i:=0) (v:=_) 5 rfl rfl (by kernel_rfl) (by kernel_rfl) (by kernel_rfl) (fun _ _ _ h=>h) (yieldsIf_load_mid (by rfl) _ _ rfl _ _ rfl _ _ (fun w h=>h.range (i:=0) rfl) Tryz.underlying68 rfl (r4 a)) hHeld ?_
 simp only [Act.put,qA,qC,qB]
 refine ar (i:=2) (v:=_) 7 rfl rfl (by kernel_rfl) (by kernel_rfl) (by kernel_rfl) (fun _ _ _ h=>h) (yieldsIf_load_mid (by rfl) _ _ rfl _ _ rfl _ _ (fun w h=>h.range (i:=1) rfl) Tryz.underlying68 rfl (r4 b)) hHeld ?_
 simp only [Act.put,qA,qC,qB]
 refine wpAnyH_ready (rs:=[1]) (by kernel_rfl) (by simp) ?_
 refine AllReadyH.cons rfl (fun K hK => ?_) AllReadyH.nil
 go_simp
 go_at_call 120
 refine (jG _).mono ?_
 rintro e wA ⟨rfl,hbA⟩
 refine hK.out _ _ ?_ (fun hHeld => ?_)
 ·exact hHeld.call hbA
 clear hK K
 try simp only [Act.put,qA,qC,qB]
 refine wpAnyH_ready (rs:=[3]) (by kernel_rfl) (by simp) ?_
 refine AllReadyH.cons rfl (fun K hK => ?_) AllReadyH.nil
 go_simp
 go_at_call 91
 refine (dq b hb _).mono ?_
 rintro e wB ⟨rfl,hbB⟩
 refine hK.out _ _ ?_ (fun hHeld => ?_)
 ·exact hHeld.call hbB
 clear hK K
 try simp only [Act.put,qA,qC,qB]
 refine wpAnyH_ready (rs:=[4]) (by kernel_rfl) (by simp) ?_
 refine AllReadyH.cons rfl (fun K hK => ?_) AllReadyH.nil
 go_simp
 go_at_call 125
 refine (uy pp (b % pp) jM (cV b) (Nat.le_of_lt (Nat.mod_lt _ (by decide))) _).mono ?_
 rintro e wC ⟨rfl,hbC⟩
 refine hK.out _ _ ?_ (fun hHeld => ?_)
 ·exact hHeld.call hbC
 clear hK K
 try simp only [Act.put,qA,qC,qB]
 refine wpAnyH_ready (rs:=[5]) (by kernel_rfl) (by simp) ?_
 refine AllReadyH.cons rfl (fun K hK => ?_) AllReadyH.nil
 go_simp
 go_at_call 89
 refine (m7 a (pp - b % pp) ha (Nat.lt_of_le_of_lt (Nat.sub_le _ _) jM) _).mono ?_
 rintro e wD ⟨s,hs,rfl,es,hbD⟩
 have HES:Hid (s % pp=(a+(pp - b % pp)) % pp∧s=fX (a+(pp - b % pp))):=es
 clear es
 refine hK.out _ _ ?_ (fun hHeld => ?_)
 ·exact hHeld.call hbD
 clear hK K
 try simp only [Act.put,qA,qC,qB]
 have hT:wD.there (w.heap.size+1+1) 0 4:=hHeld.there
 refine wpAnyH_ready (rs:=[6]) (by kernel_rfl) (by simp) ?_
 refine AllReadyH.cons rfl (fun K hK => ?_) AllReadyH.nil
 rw [if_pos (by rfl)]
 refine wp_store_mid _ _ _ rfl _ _ (nl s).toArray rfl rfl hT (r4 s) (aR s) ?_
 refine hK.out _ _ ?_ (fun hHeld => ?_)
 ·exact hHeld.store (by omega) (ne2 (by omega) (by omega)) _
 clear hK K
 try simp only [Act.put,qA,qC,qB]
 refine wpAnyH_done (by kernel_rfl) ?_ _
 go_wp2
 refine bodyPost_ret (v := .agg (nl s).toArray) (aF Tryz.results86 _ _ (w.heap.size+1+1) 0 (nl s) _ rfl (World.rangeAt_setCells_same _ _ _ _ hT) Tryz.underlying68 rfl (r4 s)) rfl ⟨s,hs,rfl,HES.out,hHeld.below⟩
set_option maxRecDepth 100000 in
set_option maxHeartbeats 2000000 in
theorem j8 (a b:Nat) (ha:a<RN) (hb:b<RN) (w:World) :
  Calls Tryz.prog 123 #[.agg (nl a).toArray,.agg (nl b).toArray] w fun e w'=>e = .returned (.bool (decide (a % pp=b % pp)))∧Below w.heap.size w w':=by
 have HS0:=(HH.one w (nl a) 68).more (nl b) 68
 simp only [World.size_alloc,List.cons_append,List.nil_append] at HS0
 have he:=Dk (a % pp) (b % pp) (cV a) (cV b)
 go_enter Tryz.func123,Tryz.ntmps123
 go_wp2
 obtain ⟨x0,hx0⟩ : ∃ x,x=(w.alloc (.cells (nl a).toArray 68)).alloc (.cells (nl b).toArray 68):=⟨_,rfl⟩
 have HS:Hid (HH w [(w.heap.size,nl a,68),(w.heap.size+1,nl b,68)] x0):=by rw [hx0];exact HS0
 rw [←hx0]
 clear hx0 HS0
 refine wp_region_held_drew (S:=(fun w'=>HH w [(w.heap.size,nl a,68),(w.heap.size+1,nl b,68)] w')) (by kernel_rfl) ?_ (fun hHeld => ?_)
 ·exact HS.out.drew
 refine ar (i:=0) (v:=_) 5 rfl rfl (by kernel_rfl) (by kernel_rfl) (by kernel_rfl) (fun _ _ _ h=>h) (yieldsIf_load_mid (by rfl) _ _ rfl _ _ rfl _ _ (fun w h=>h.range (i:=0) rfl) Tryz.underlying68 rfl (r4 a)) hHeld ?_
 simp only [Act.put,qA,qC,qB]
 refine ar (i:=2) (v:=_) 7 rfl rfl (by kernel_rfl) (by kernel_rfl) (by kernel_rfl) (fun _ _ _ h=>h) (yieldsIf_load_mid (by rfl) _ _ rfl _ _ rfl _ _ (fun w h=>h.range (i:=1) rfl) Tryz.underlying68 rfl (r4 b)) hHeld ?_
 simp only [Act.put,qA,qC,qB]
 refine wpAnyH_ready (rs:=[1]) (by kernel_rfl) (by simp) ?_
 refine AllReadyH.cons rfl (fun K hK => ?_) AllReadyH.nil
 go_simp
 go_at_call 91
 refine (dq a ha _).mono ?_
 rintro e wA ⟨rfl,hbA⟩
 refine hK.out _ _ ?_ (fun hHeld => ?_)
 ·exact hHeld.call hbA
 clear hK K
 try simp only [Act.put,qA,qC,qB]
 refine wpAnyH_ready (rs:=[3]) (by kernel_rfl) (by simp) ?_
 refine AllReadyH.cons rfl (fun K hK => ?_) AllReadyH.nil
 go_simp
 go_at_call 91
 refine (dq b hb _).mono ?_
 rintro e wB ⟨rfl,hbB⟩
 refine hK.out _ _ ?_ (fun hHeld => ?_)
 ·exact hHeld.call hbB
 clear hK K
 try simp only [Act.put,qA,qC,qB]
 refine ar (i:=4) (v := ?_) 9 rfl rfl (by kernel_rfl) (by kernel_rfl) (by kernel_rfl) (fun _ _ _ h=>h) (Or.inl ⟨by rfl,?_⟩) hHeld ?_
 rotate_left 1
 ·intro w hSw;go_simp <;> with_reducible rfl
 simp only [Act.put,qA,qC,qB]
 refine ar (i:=5) (v := ?_) 4 rfl rfl (by kernel_rfl) (by kernel_rfl) (by kernel_rfl) (fun _ _ _ h=>h) (Or.inl ⟨by rfl,?_⟩) hHeld ?_
 rotate_left 1
 ·intro w hSw;go_simp <;> with_reducible rfl
 simp only [Act.put,qA,qC,qB]
 refine wpAnyH_done (by kernel_rfl) ?_ _
 go_wp2
 go_ret
 exact ⟨rfl,hHeld.below⟩
end Go.Proofs.YtajehiidpecknaaGreatDoor
