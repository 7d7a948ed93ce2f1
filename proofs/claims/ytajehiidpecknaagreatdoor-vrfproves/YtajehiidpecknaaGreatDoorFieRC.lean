/- The reference's Plus. -/
import Derived.Test.YtajehiidpecknaaGreatDoorFieRA
set_option linter.all false
namespace Go.Proofs.YtajehiidpecknaaGreatDoor
open Go Go.RowKit Go.Lib
set_option maxRecDepth 100000
def cF (a b:Nat) (k x0 x1 x2 x3 c:Int):Prop:=0≤k∧k≤4∧0≤c∧c≤1∧Word x0∧Word x1∧Word x2∧Word x3∧(k=0→c=0)∧(k=1→x0+c*18446744073709551616=(lw a 0)+(lw b 0))∧(k=2→x0+x1*18446744073709551616+c*340282366920938463463374607431768211456=(lw a 0+lw a 1*18446744073709551616)+(lw b 0+lw b 1*18446744073709551616))∧(k=3→x0+x1*18446744073709551616+x2*340282366920938463463374607431768211456+c*6277101735386680763835789423207666416102355444464034512896=(lw a 0+lw a 1*18446744073709551616+lw a 2*340282366920938463463374607431768211456)+(lw b 0+lw b 1*18446744073709551616+lw b 2*340282366920938463463374607431768211456))∧(k=4→x0+x1*18446744073709551616+x2*340282366920938463463374607431768211456+x3*6277101735386680763835789423207666416102355444464034512896+c*115792089237316195423570985008687907853269984665640564039457584007913129639936=(lw a 0+lw a 1*18446744073709551616+lw a 2*340282366920938463463374607431768211456+lw a 3*6277101735386680763835789423207666416102355444464034512896)+(lw b 0+lw b 1*18446744073709551616+lw b 2*340282366920938463463374607431768211456+lw b 3*6277101735386680763835789423207666416102355444464034512896))
theorem SS.two40 (w:World) (a b:Nat):SS w [(w.heap.size,nl a,68),(w.heap.size+1,nl b,68)] (w.heap.size+1+1) 4 ((((w.alloc (.cells (nl a).toArray 68)).alloc (.cells (nl b).toArray 68)).alloc (.cells #[.int .u64 0,.int .u64 0,.int .u64 0,.int .u64 0] 68)).alloc (.cells #[.int .u64 0,.int .u64 0,.int .u64 0,.int .u64 0] 68)):=by
 have h1:SS w [(w.heap.size,nl a,68)] (w.heap.size+1+1) 4 ((((w.alloc (.cells (nl a).toArray 68)).alloc (.cells (nl b).toArray 68)).alloc (.cells #[.int .u64 0,.int .u64 0,.int .u64 0,.int .u64 0] 68)).alloc (.cells #[.int .u64 0,.int .u64 0,.int .u64 0,.int .u64 0] 68)):=by
  refine ⟨((((Below.refl _ _).alloc (Nat.le_refl _) _).alloc (by simp) _).alloc (by simp;omega) _).alloc (by simp;omega) _,?_,aq ((ao _ _ _ (by simp)).trans (ai _ _ _ (by simp))) 0 4 (by simp)⟩
  intro i g L t hm
  match i,hm with
  | 0,hm =>
   cases hm
   exact (ao _ _ _ (by simp only [World.size_alloc];omega)).trans ((ao _ _ _ (by simp only [World.size_alloc];omega)).trans ((ao _ _ _ (by simp only [World.size_alloc];omega)).trans (ai _ _ _ rfl)))
 exact h1.add (nl b) _ ((ao _ _ _ (by simp only [World.size_alloc];omega)).trans ((ao _ _ _ (by simp only [World.size_alloc];omega)).trans (ai _ _ _ (by simp))))
set_option maxRecDepth 100000 in
set_option maxHeartbeats 4000000 in
theorem m7 (a b:Nat) (ha:a<RN) (hb:b<RN) (w:World) :
  Calls Tryz.prog 89 #[.agg (nl a).toArray,.agg (nl b).toArray] w fun e w' => ∃ s,s<RN∧e = .returned (.agg (nl s).toArray)∧(s % pp=(a+b) % pp∧s=fX (a+b))∧Below w.heap.size w w':=by
 have HSS0:Hid (SS w [(w.heap.size,nl a,68),(w.heap.size+1,nl b,68)] (w.heap.size+1+1) 4 ((((w.alloc (.cells (nl a).toArray 68)).alloc (.cells (nl b).toArray 68)).alloc (.cells #[.int .u64 0,.int .u64 0,.int .u64 0,.int .u64 0] 68)).alloc (.cells #[.int .u64 0,.int .u64 0,.int .u64 0,.int .u64 0] 68))):=SS.two40 w a b
 go_enter Tryz.func89,Tryz.ntmps89
 go_wp2
 go_loopw [6,8] (fun c i wr => ∃ k x0 x1 x2 x3 d:Int,i = .int .i64 k∧c = .int .u64 d∧cF a b k x0 x1 x2 x3 d∧wr.heap[w.heap.size+1+1+1]? = some (.cells #[.int .u64 x0,.int .u64 x1,.int .u64 x2,.int .u64 x3] 68 (0,0))∧SS w [(w.heap.size,nl a,68),(w.heap.size+1,nl b,68)] (w.heap.size+1+1) 4 wr) (fun _ i _=>4 - (intOf i).toNat)
 case atStart=>exact ⟨0,0,0,0,0,0,rfl,rfl,by unfold cF Word;omega,ai _ _ _ (by simp),HSS0.out⟩
 case round =>
  obtain ⟨k,x0,x1,x2,x3,c,rfl,rfl,hrl,hout,hss⟩:=hrel
  have HR:Hid (cF a b k x0 x1 x2 x3 c):=hrl
  have HO:Hid (wr.heap[w.heap.size+1+1+1]? = some (.cells #[.int .u64 x0,.int .u64 x1,.int .u64 x2,.int .u64 x3] 68 (0,0))):=hout
  have HSS:Hid (SS w [(w.heap.size,nl a,68),(w.heap.size+1,nl b,68)] (w.heap.size+1+1) 4 wr):=hss
  have hk:k=0∨k=1∨k=2∨k=3∨k=4:=by have:=hrl.1;have:=hrl.2.1;omega
  have hout2:wr.drew.heap[w.heap.size+1+1+1]? = some (.cells #[.int .u64 x0,.int .u64 x1,.int .u64 x2,.int .u64 x3] 68 (0,0)):=hout
  obtain ⟨o0,o1,o2,o3,p0,p1,p2,p3⟩:=four hout2
  clear hrl hout hss hout2
  rcases hk with rfl | rfl | rfl | rfl | rfl
  ·obtain ⟨v,hv⟩ : ∃ v,v=(lw a 0+lw b 0+c) % 18446744073709551616:=⟨_,rfl⟩
   obtain ⟨c',hc'⟩ : ∃ c',c'=(lw a 0+lw b 0+c)/18446744073709551616:=⟨_,rfl⟩
   have hs : ∀ w,(callFunc 108 #[.int .u64 (lw a 0),.int .u64 (lw b 0),.int .u64 c]).run Tryz.prog w = .ok (.value (.tuple #[.int .u64 v,.int .u64 c'])) w:=fun w=>by
    rw [hv,hc'];exact iH (lw a 0) (lw b 0) c (ah a 0).1 (ah b 0).1 HR.out.2.2.1 HR.out.2.2.2.1 w
   have HV:Hid (cF a b 1 v x1 x2 x3 c'):=by
    obtain ⟨r1,r2,r3,r4,r5,r6,r7,r8,r9,ra,rb,rc,rd⟩:=HR.out
    have h0:=ah a 0;have h1:=ah a 1;have h2:=ah a 2;have h3:=ah a 3
    have g0:=ah b 0;have g1:=ah b 1;have g2:=ah b 2;have g3:=ah b 3
    have e:=r9 rfl
    clear r9 ra rb rc rd
    show cF _ _ _ _ _ _ _ _
    unfold cF
    unfold Word at *
    refine ⟨by omega,by omega,?_,?_,?_,?_,?_,?_,?_,?_,?_,?_,?_⟩
    all_goals (try intro _)
    all_goals omega
   clear hv hc'
   go_wp2_with fail
   refine wp_region_held_drew (S:=(fun w'=>SS w [(w.heap.size,nl a,68),(w.heap.size+1,nl b,68)] (w.heap.size+1+1) 4 w')) (by kernel_rfl) ?_ (fun hHeld => ?_)
   ·exact HSS.out.drew
   refine ar (i:=0) (v := ?_) 12 rfl rfl (by kernel_rfl) (by kernel_rfl) (by kernel_rfl) (fun _ _ _ h=>h) (Or.inl ⟨by rfl,?_⟩) hHeld ?_
   rotate_left 1
   ·intro w hSw;go_simp <;> with_reducible rfl
   simp only [Act.put,qA,qC,qB]
   refine ar (i:=1) (v := ?_) 13 rfl rfl (by kernel_rfl) (by kernel_rfl) (by kernel_rfl) (fun _ _ _ h=>h) (Or.inl ⟨by rfl,?_⟩) hHeld ?_
   rotate_left 1
   ·intro w hSw;go_simp <;> with_reducible rfl
   simp only [Act.put,qA,qC,qB]
   refine ar (i:=2) (v := ?_) 14 rfl rfl (by kernel_rfl) (by kernel_rfl) (by kernel_rfl) (fun _ _ _ h=>h) (Or.inl ⟨by rfl,?_⟩) hHeld ?_
   rotate_left 1
   ·intro w hSw;go_simp <;> with_reducible rfl
   simp only [Act.put,qA,qC,qB]
   refine ar (i:=3) (v := ?_) 15 rfl rfl (by kernel_rfl) (by kernel_rfl) (by kernel_rfl) (fun _ _ _ h=>h) (Or.inl ⟨by rfl,?_⟩) hHeld ?_
   rotate_left 1
   ·intro w hSw;obtain ⟨c0,c1,c2,c3,f0,f1,f2,f3⟩:=four (hSw.holds 0 _ _ _ rfl);go_simp <;> with_reducible rfl
   simp only [Act.put,qA,qC,qB]
   refine ar (i:=4) (v := ?_) 16 rfl rfl (by kernel_rfl) (by kernel_rfl) (by kernel_rfl) (fun _ _ _ h=>h) (Or.inl ⟨by rfl,?_⟩) hHeld ?_
   rotate_left 1
   ·intro w hSw;go_simp <;> with_reducible rfl
   simp only [Act.put,qA,qC,qB]
   refine ar (i:=5) (v := ?_) 17 rfl rfl (by kernel_rfl) (by kernel_rfl) (by kernel_rfl) (fun _ _ _ h=>h) (Or.inl ⟨by rfl,?_⟩) hHeld ?_
   rotate_left 1
   ·intro w hSw;go_simp <;> with_reducible rfl
   simp only [Act.put,qA,qC,qB]
   refine ar (i:=6) (v := ?_) 18 rfl rfl (by kernel_rfl) (by kernel_rfl) (by kernel_rfl) (fun _ _ _ h=>h) (Or.inl ⟨by rfl,?_⟩) hHeld ?_
   rotate_left 1
   ·intro w hSw;obtain ⟨c0,c1,c2,c3,f0,f1,f2,f3⟩:=four (hSw.holds 1 _ _ _ rfl);go_simp <;> with_reducible rfl
   simp only [Act.put,qA,qC,qB]
   refine ar (i:=7) (v := ?_) 19 rfl rfl (by kernel_rfl) (by kernel_rfl) (by kernel_rfl) (fun _ _ _ h=>h) (Or.inl ⟨by rfl,?_⟩) hHeld ?_
   rotate_left 1
   ·intro w hSw;go_simp <;> with_reducible rfl
   simp only [Act.put,qA,qC,qB]
   refine ar (i:=8) (v := ?_) 20 rfl rfl (by kernel_rfl) (by kernel_rfl) (by kernel_rfl) (fun _ _ _ h=>h) (Or.inl ⟨by rfl,?_⟩) hHeld ?_
   rotate_left 1
   ·intro w hSw;go_simp <;> with_reducible rfl
   simp only [Act.put,qA,qC,qB]
   refine ar (i:=9) (v := ?_) 11 rfl rfl (by kernel_rfl) (by kernel_rfl) (by kernel_rfl) (fun _ _ _ h=>h) (Or.inl ⟨by rfl,?_⟩) hHeld ?_
   rotate_left 1
   ·intro w hSw;go_simp <;> with_reducible rfl
   simp only [Act.put,qA,qC,qB]
   refine ar (i:=10) (v := ?_) 21 rfl rfl (by kernel_rfl) (by kernel_rfl) (by kernel_rfl) (fun _ _ _ h=>h) (Or.inl ⟨by rfl,?_⟩) hHeld ?_
   rotate_left 1
   ·intro w hSw;go_simp <;> with_reducible rfl
   simp only [Act.put,qA,qC,qB]
   refine ar (i:=11) (v := ?_) 22 rfl rfl (by kernel_rfl) (by kernel_rfl) (by kernel_rfl) (fun _ _ _ h=>h) (Or.inl ⟨by rfl,?_⟩) hHeld ?_
   rotate_left 1
   ·intro w hSw;go_simp <;> with_reducible rfl
   simp only [Act.put,qA,qC,qB]
   refine ar (i:=12) (v := ?_) 23 rfl rfl (by kernel_rfl) (by kernel_rfl) (by kernel_rfl) (fun _ _ _ h=>h) (Or.inl ⟨by rfl,?_⟩) hHeld ?_
   rotate_left 1
   ·intro w hSw;go_simp <;> with_reducible rfl
   simp only [Act.put,qA,qC,qB]
   refine wpAnyH_ready (rs:=[13]) (by kernel_rfl) (by simp) ?_
   refine AllReadyH.cons rfl (fun K hK => ?_) AllReadyH.nil
   go_simp
   refine hK.out _ _ ?_ (fun hHeld => ?_)
   ·exact hHeld.cell (by omega) (ne2 (by omega) (by omega)) _
   clear hK K
   try simp only [Act.put,qA,qC,qB]
   refine ar (i:=14) (v := ?_) 6 rfl rfl (by kernel_rfl) (by kernel_rfl) (by kernel_rfl) (fun _ _ _ h=>h) (Or.inl ⟨by rfl,?_⟩) hHeld ?_
   rotate_left 1
   ·intro w hSw;go_simp <;> with_reducible rfl
   simp only [Act.put,qA,qC,qB]
   refine wpAnyH_done (by kernel_rfl) ?_ _
   have HO2:Hid ((wr.drew.setCell ⟨w.heap.size+1+1+1,0,none⟩ (.int .u64 v)).heap[w.heap.size+1+1+1]? = some (.cells #[.int .u64 v,.int .u64 x1,.int .u64 x2,.int .u64 x3] 68 (0,0))):=dW (k:=0) (.int .u64 v) (w:=wr.drew) HO.out
   have HS2:Hid (SS w [(w.heap.size,nl a,68),(w.heap.size+1,nl b,68)] (w.heap.size+1+1) 4 _):=hHeld
   clear hHeld
   go_wp2
   go_roundw
   case rel=>exact ⟨1,v,x1,x2,x3,c',rfl,rfl,HV.out,HO2.out,HS2.out⟩
   case measure=>simp [intOf]
  ·obtain ⟨v,hv⟩ : ∃ v,v=(lw a 1+lw b 1+c) % 18446744073709551616:=⟨_,rfl⟩
   obtain ⟨c',hc'⟩ : ∃ c',c'=(lw a 1+lw b 1+c)/18446744073709551616:=⟨_,rfl⟩
   have hs : ∀ w,(callFunc 108 #[.int .u64 (lw a 1),.int .u64 (lw b 1),.int .u64 c]).run Tryz.prog w = .ok (.value (.tuple #[.int .u64 v,.int .u64 c'])) w:=fun w=>by
    rw [hv,hc'];exact iH (lw a 1) (lw b 1) c (ah a 1).1 (ah b 1).1 HR.out.2.2.1 HR.out.2.2.2.1 w
   have HV:Hid (cF a b 2 x0 v x2 x3 c'):=by
    obtain ⟨r1,r2,r3,r4,r5,r6,r7,r8,r9,ra,rb,rc,rd⟩:=HR.out
    have h0:=ah a 0;have h1:=ah a 1;have h2:=ah a 2;have h3:=ah a 3
    have g0:=ah b 0;have g1:=ah b 1;have g2:=ah b 2;have g3:=ah b 3
    have e:=ra rfl
    clear r9 ra rb rc rd
    show cF _ _ _ _ _ _ _ _
    unfold cF
    unfold Word at *
    refine ⟨by omega,by omega,?_,?_,?_,?_,?_,?_,?_,?_,?_,?_,?_⟩
    all_goals (try intro _)
    all_goals omega
   clear hv hc'
   go_wp2_with fail
   refine wp_region_held_drew (S:=(fun w'=>SS w [(w.heap.size,nl a,68),(w.heap.size+1,nl b,68)] (w.heap.size+1+1) 4 w')) (by kernel_rfl) ?_ (fun hHeld => ?_)
   ·exact HSS.out.drew
   refine ar (i:=0) (v := ?_) 12 rfl rfl (by kernel_rfl) (by kernel_rfl) (by kernel_rfl) (fun _ _ _ h=>h) (Or.inl ⟨by rfl,?_⟩) hHeld ?_
   rotate_left 1
   ·intro w hSw;go_simp <;> with_reducible rfl
   simp only [Act.put,qA,qC,qB]
   refine ar (i:=1) (v := ?_) 13 rfl rfl (by kernel_rfl) (by kernel_rfl) (by kernel_rfl) (fun _ _ _ h=>h) (Or.inl ⟨by rfl,?_⟩) hHeld ?_
   rotate_left 1
   ·intro w hSw;go_simp <;> with_reducible rfl
   simp only [Act.put,qA,qC,qB]
   refine ar (i:=2) (v := ?_) 14 rfl rfl (by kernel_rfl) (by kernel_rfl) (by kernel_rfl) (fun _ _ _ h=>h) (Or.inl ⟨by rfl,?_⟩) hHeld ?_
   rotate_left 1
   ·intro w hSw;go_simp <;> with_reducible rfl
   simp only [Act.put,qA,qC,qB]
   refine ar (i:=3) (v := ?_) 15 rfl rfl (by kernel_rfl) (by kernel_rfl) (by kernel_rfl) (fun _ _ _ h=>h) (Or.inl ⟨by rfl,?_⟩) hHeld ?_
   rotate_left 1
   ·intro w hSw;obtain ⟨c0,c1,c2,c3,f0,f1,f2,f3⟩:=four (hSw.holds 0 _ _ _ rfl);go_simp <;> with_reducible rfl
   simp only [Act.put,qA,qC,qB]
   refine ar (i:=4) (v := ?_) 16 rfl rfl (by kernel_rfl) (by kernel_rfl) (by kernel_rfl) (fun _ _ _ h=>h) (Or.inl ⟨by rfl,?_⟩) hHeld ?_
   rotate_left 1
   ·intro w hSw;go_simp <;> with_reducible rfl
   simp only [Act.put,qA,qC,qB]
   refine ar (i:=5) (v := ?_) 17 rfl rfl (by kernel_rfl) (by kernel_rfl) (by kernel_rfl) (fun _ _ _ h=>h) (Or.inl ⟨by rfl,?_⟩) hHeld ?_
   rotate_left 1
   ·intro w hSw;go_simp <;> with_reducible rfl
   simp only [Act.put,qA,qC,qB]
   refine ar (i:=6) (v := ?_) 18 rfl rfl (by kernel_rfl) (by kernel_rfl) (by kernel_rfl) (fun _ _ _ h=>h) (Or.inl ⟨by rfl,?_⟩) hHeld ?_
   rotate_left 1
   ·intro w hSw;obtain ⟨c0,c1,c2,c3,f0,f1,f2,f3⟩:=four (hSw.holds 1 _ _ _ rfl);go_simp <;> with_reducible rfl
   simp only [Act.put,qA,qC,qB]
   refine ar (i:=7) (v := ?_) 19 rfl rfl (by kernel_rfl) (by kernel_rfl) (by kernel_rfl) (fun _ _ _ h=>h) (Or.inl ⟨by rfl,?_⟩) hHeld ?_
   rotate_left 1
   ·intro w hSw;go_simp <;> with_reducible rfl
   simp only [Act.put,qA,qC,qB]
   refine ar (i:=8) (v := ?_) 20 rfl rfl (by kernel_rfl) (by kernel_rfl) (by kernel_rfl) (fun _ _ _ h=>h) (Or.inl ⟨by rfl,?_⟩) hHeld ?_
   rotate_left 1
   ·intro w hSw;go_simp <;> with_reducible rfl
   simp only [Act.put,qA,qC,qB]
   refine ar (i:=9) (v := ?_) 11 rfl rfl (by kernel_rfl) (by kernel_rfl) (by kernel_rfl) (fun _ _ _ h=>h) (Or.inl ⟨by rfl,?_⟩) hHeld ?_
   rotate_left 1
   ·intro w hSw;go_simp <;> with_reducible rfl
   simp only [Act.put,qA,qC,qB]
   refine ar (i:=10) (v := ?_) 21 rfl rfl (by kernel_rfl) (by kernel_rfl) (by kernel_rfl) (fun _ _ _ h=>h) (Or.inl ⟨by rfl,?_⟩) hHeld ?_
   rotate_left 1
   ·intro w hSw;go_simp <;> with_reducible rfl
   simp only [Act.put,qA,qC,qB]
   refine ar (i:=11) (v := ?_) 22 rfl rfl (by kernel_rfl) (by kernel_rfl) (by kernel_rfl) (fun _ _ _ h=>h) (Or.inl ⟨by rfl,?_⟩) hHeld ?_
   rotate_left 1
   ·intro w hSw;go_simp <;> with_reducible rfl
   simp only [Act.put,qA,qC,qB]
   refine ar (i:=12) (v := ?_) 23 rfl rfl (by kernel_rfl) (by kernel_rfl) (by kernel_rfl) (fun _ _ _ h=>h) (Or.inl ⟨by rfl,?_⟩) hHeld ?_
   rotate_left 1
   ·intro w hSw;go_simp <;> with_reducible rfl
   simp only [Act.put,qA,qC,qB]
   refine wpAnyH_ready (rs:=[13]) (by kernel_rfl) (by simp) ?_
   refine AllReadyH.cons rfl (fun K hK => ?_) AllReadyH.nil
   go_simp
   refine hK.out _ _ ?_ (fun hHeld => ?_)
   ·exact hHeld.cell (by omega) (ne2 (by omega) (by omega)) _
   clear hK K
   try simp only [Act.put,qA,qC,qB]
   refine ar (i:=14) (v := ?_) 6 rfl rfl (by kernel_rfl) (by kernel_rfl) (by kernel_rfl) (fun _ _ _ h=>h) (Or.inl ⟨by rfl,?_⟩) hHeld ?_
   rotate_left 1
   ·intro w hSw;go_simp <;> with_reducible rfl
   simp only [Act.put,qA,qC,qB]
   refine wpAnyH_done (by kernel_rfl) ?_ _
   have HO2:Hid ((wr.drew.setCell ⟨w.heap.size+1+1+1,1,none⟩ (.int .u64 v)).heap[w.heap.size+1+1+1]? = some (.cells #[.int .u64 x0,.int .u64 v,.int .u64 x2,.int .u64 x3] 68 (0,0))):=dW (k:=1) (.int .u64 v) (w:=wr.drew) HO.out
   have HS2:Hid (SS w [(w.heap.size,nl a,68),(w.heap.size+1,nl b,68)] (w.heap.size+1+1) 4 _):=hHeld
   clear hHeld
   go_wp2
   go_roundw
   case rel=>exact ⟨2,x0,v,x2,x3,c',rfl,rfl,HV.out,HO2.out,HS2.out⟩
   case measure=>simp [intOf]
  ·obtain ⟨v,hv⟩ : ∃ v,v=(lw a 2+lw b 2+c) % 18446744073709551616:=⟨_,rfl⟩
   obtain ⟨c',hc'⟩ : ∃ c',c'=(lw a 2+lw b 2+c)/18446744073709551616:=⟨_,rfl⟩
   have hs : ∀ w,(callFunc 108 #[.int .u64 (lw a 2),.int .u64 (lw b 2),.int .u64 c]).run Tryz.prog w = .ok (.value (.tuple #[.int .u64 v,.int .u64 c'])) w:=fun w=>by
    rw [hv,hc'];exact iH (lw a 2) (lw b 2) c (ah a 2).1 (ah b 2).1 HR.out.2.2.1 HR.out.2.2.2.1 w
   have HV:Hid (cF a b 3 x0 x1 v x3 c'):=by
    obtain ⟨r1,r2,r3,r4,r5,r6,r7,r8,r9,ra,rb,rc,rd⟩:=HR.out
    have h0:=ah a 0;have h1:=ah a 1;have h2:=ah a 2;have h3:=ah a 3
    have g0:=ah b 0;have g1:=ah b 1;have g2:=ah b 2;have g3:=ah b 3
    have e:=rb rfl
    clear r9 ra rb rc rd
    show cF _ _ _ _ _ _ _ _
    unfold cF
    unfold Word at *
    refine ⟨by omega,by omega,?_,?_,?_,?_,?_,?_,?_,?_,?_,?_,?_⟩
    all_goals (try intro _)
    all_goals omega
   clear hv hc'
   go_wp2_with fail
   refine wp_region_held_drew (S:=(fun w'=>SS w [(w.heap.size,nl a,68),(w.heap.size+1,nl b,68)] (w.heap.size+1+1) 4 w')) (by kernel_rfl) ?_ (fun hHeld => ?_)
   ·exact HSS.out.drew
   refine ar (i:=0) (v := ?_) 12 rfl rfl (by kernel_rfl) (by kernel_rfl) (by kernel_rfl) (fun _ _ _ h=>h) (Or.inl ⟨by rfl,?_⟩) hHeld ?_
   rotate_left 1
   ·intro w hSw;go_simp <;> with_reducible rfl
   simp only [Act.put,qA,qC,qB]
   refine ar (i:=1) (v := ?_) 13 rfl rfl (by kernel_rfl) (by kernel_rfl) (by kernel_rfl) (fun _ _ _ h=>h) (Or.inl ⟨by rfl,?_⟩) hHeld ?_
   rotate_left 1
   ·intro w hSw;go_simp <;> with_reducible rfl
   simp only [Act.put,qA,qC,qB]
   refine ar (i:=2) (v := ?_) 14 rfl rfl (by kernel_rfl) (by kernel_rfl) (by kernel_rfl) (fun _ _ _ h=>h) (Or.inl ⟨by rfl,?_⟩) hHeld ?_
   rotate_left 1
   ·intro w hSw;go_simp <;> with_reducible rfl
   simp only [Act.put,qA,qC,qB]
   refine ar (i:=3) (v := ?_) 15 rfl rfl (by kernel_rfl) (by kernel_rfl) (by kernel_rfl) (fun _ _ _ h=>h) (Or.inl ⟨by rfl,?_⟩) hHeld ?_
   rotate_left 1
   ·intro w hSw;obtain ⟨c0,c1,c2,c3,f0,f1,f2,f3⟩:=four (hSw.holds 0 _ _ _ rfl);go_simp <;> with_reducible rfl
   simp only [Act.put,qA,qC,qB]
   refine ar (i:=4) (v := ?_) 16 rfl rfl (by kernel_rfl) (by kernel_rfl) (by kernel_rfl) (fun _ _ _ h=>h) (Or.inl ⟨by rfl,?_⟩) hHeld ?_
   rotate_left 1
   ·intro w hSw;go_simp <;> with_reducible rfl
   simp only [Act.put,qA,qC,qB]
   refine ar (i:=5) (v := ?_) 17 rfl rfl (by kernel_rfl) (by kernel_rfl) (by kernel_rfl) (fun _ _ _ h=>h) (Or.inl ⟨by rfl,?_⟩) hHeld ?_
   rotate_left 1
   ·intro w hSw;go_simp <;> with_reducible rfl
   simp only [Act.put,qA,qC,qB]
   refine ar (i:=6) (v := ?_) 18 rfl rfl (by kernel_rfl) (by kernel_rfl) (by kernel_rfl) (fun _ _ _ h=>h) (Or.inl ⟨by rfl,?_⟩) hHeld ?_
   rotate_left 1
   ·intro w hSw;obtain ⟨c0,c1,c2,c3,f0,f1,f2,f3⟩:=four (hSw.holds 1 _ _ _ rfl);go_simp <;> with_reducible rfl
   simp only [Act.put,qA,qC,qB]
   refine ar (i:=7) (v := ?_) 19 rfl rfl (by kernel_rfl) (by kernel_rfl) (by kernel_rfl) (fun _ _ _ h=>h) (Or.inl ⟨by rfl,?_⟩) hHeld ?_
   rotate_left 1
   ·intro w hSw;go_simp <;> with_reducible rfl
   simp only [Act.put,qA,qC,qB]
   refine ar (i:=8) (v := ?_) 20 rfl rfl (by kernel_rfl) (by kernel_rfl) (by kernel_rfl) (fun _ _ _ h=>h) (Or.inl ⟨by rfl,?_⟩) hHeld ?_
   rotate_left 1
   ·intro w hSw;go_simp <;> with_reducible rfl
   simp only [Act.put,qA,qC,qB]
   refine ar (i:=9) (v := ?_) 11 rfl rfl (by kernel_rfl) (by kernel_rfl) (by kernel_rfl) (fun _ _ _ h=>h) (Or.inl ⟨by rfl,?_⟩) hHeld ?_
   rotate_left 1
   ·intro w hSw;go_simp <;> with_reducible rfl
   simp only [Act.put,qA,qC,qB]
   refine ar (i:=10) (v := ?_) 21 rfl rfl (by kernel_rfl) (by kernel_rfl) (by kernel_rfl) (fun _ _ _ h=>h) (Or.inl ⟨by rfl,?_⟩) hHeld ?_
   rotate_left 1
   ·intro w hSw;go_simp <;> with_reducible rfl
   simp only [Act.put,qA,qC,qB]
   refine ar (i:=11) (v := ?_) 22 rfl rfl (by kernel_rfl) (by kernel_rfl) (by kernel_rfl) (fun _ _ _ h=>h) (Or.inl ⟨by rfl,?_⟩) hHeld ?_
   rotate_left 1
   ·intro w hSw;go_simp <;> with_reducible rfl
   simp only [Act.put,qA,qC,qB]
   refine ar (i:=12) (v := ?_) 23 rfl rfl (by kernel_rfl) (by kernel_rfl) (by kernel_rfl) (fun _ _ _ h=>h) (Or.inl ⟨by rfl,?_⟩) hHeld ?_
   rotate_left 1
   ·intro w hSw;go_simp <;> with_reducible rfl
   simp only [Act.put,qA,qC,qB]
   refine wpAnyH_ready (rs:=[13]) (by kernel_rfl) (by simp) ?_
   refine AllReadyH.cons rfl (fun K hK => ?_) AllReadyH.nil
   go_simp
   refine hK.out _ _ ?_ (fun hHeld => ?_)
   ·exact hHeld.cell (by omega) (ne2 (by omega) (by omega)) _
   clear hK K
   try simp only [Act.put,qA,qC,qB]
   refine ar (i:=14) (v := ?_) 6 rfl rfl (by kernel_rfl) (by kernel_rfl) (by kernel_rfl) (fun _ _ _ h=>h) (Or.inl ⟨by rfl,?_⟩) hHeld ?_
   rotate_left 1
   ·intro w hSw;go_simp <;> with_reducible rfl
   simp only [Act.put,qA,qC,qB]
   refine wpAnyH_done (by kernel_rfl) ?_ _
   have HO2:Hid ((wr.drew.setCell ⟨w.heap.size+1+1+1,2,none⟩ (.int .u64 v)).heap[w.heap.size+1+1+1]? = some (.cells #[.int .u64 x0,.int .u64 x1,.int .u64 v,.int .u64 x3] 68 (0,0))):=dW (k:=2) (.int .u64 v) (w:=wr.drew) HO.out
   have HS2:Hid (SS w [(w.heap.size,nl a,68),(w.heap.size+1,nl b,68)] (w.heap.size+1+1) 4 _):=hHeld
   clear hHeld
   go_wp2
   go_roundw
   case rel=>exact ⟨3,x0,x1,v,x3,c',rfl,rfl,HV.out,HO2.out,HS2.out⟩
   case measure=>simp [intOf]
  ·obtain ⟨v,hv⟩ : ∃ v,v=(lw a 3+lw b 3+c) % 18446744073709551616:=⟨_,rfl⟩
   obtain ⟨c',hc'⟩ : ∃ c',c'=(lw a 3+lw b 3+c)/18446744073709551616:=⟨_,rfl⟩
   have hs : ∀ w,(callFunc 108 #[.int .u64 (lw a 3),.int .u64 (lw b 3),.int .u64 c]).run Tryz.prog w = .ok (.value (.tuple #[.int .u64 v,.int .u64 c'])) w:=fun w=>by
    rw [hv,hc'];exact iH (lw a 3) (lw b 3) c (ah a 3).1 (ah b 3).1 HR.out.2.2.1 HR.out.2.2.2.1 w
   have HV:Hid (cF a b 4 x0 x1 x2 v c'):=by
    obtain ⟨r1,r2,r3,r4,r5,r6,r7,r8,r9,ra,rb,rc,rd⟩:=HR.out
    have h0:=ah a 0;have h1:=ah a 1;have h2:=ah a 2;have h3:=ah a 3
    have g0:=ah b 0;have g1:=ah b 1;have g2:=ah b 2;have g3:=ah b 3
    have e:=rc rfl
    clear r9 ra rb rc rd
    show cF _ _ _ _ _ _ _ _
    unfold cF
    unfold Word at *
    refine ⟨by omega,by omega,?_,?_,?_,?_,?_,?_,?_,?_,?_,?_,?_⟩
    all_goals (try intro _)
    all_goals omega
   clear hv hc'
   go_wp2_with fail
   refine wp_region_held_drew (S:=(fun w'=>SS w [(w.heap.size,nl a,68),(w.heap.size+1,nl b,68)] (w.heap.size+1+1) 4 w')) (by kernel_rfl) ?_ (fun hHeld => ?_)
   ·exact HSS.out.drew
   refine ar (i:=0) (v := ?_) 12 rfl rfl (by kernel_rfl) (by kernel_rfl) (by kernel_rfl) (fun _ _ _ h=>h) (Or.inl ⟨by rfl,?_⟩) hHeld ?_
   rotate_left 1
   ·intro w hSw;go_simp <;> with_reducible rfl
   simp only [Act.put,qA,qC,qB]
   refine ar (i:=1) (v := ?_) 13 rfl rfl (by kernel_rfl) (by kernel_rfl) (by kernel_rfl) (fun _ _ _ h=>h) (Or.inl ⟨by rfl,?_⟩) hHeld ?_
   rotate_left 1
   ·intro w hSw;go_simp <;> with_reducible rfl
   simp only [Act.put,qA,qC,qB]
   refine ar (i:=2) (v := ?_) 14 rfl rfl (by kernel_rfl) (by kernel_rfl) (by kernel_rfl) (fun _ _ _ h=>h) (Or.inl ⟨by rfl,?_⟩) hHeld ?_
   rotate_left 1
   ·intro w hSw;go_simp <;> with_reducible rfl
   simp only [Act.put,qA,qC,qB]
   refine ar (i:=3) (v := ?_) 15 rfl rfl (by kernel_rfl) (by kernel_rfl) (by kernel_rfl) (fun _ _ _ h=>h) (Or.inl ⟨by rfl,?_⟩) hHeld ?_
   rotate_left 1
   ·intro w hSw;obtain ⟨c0,c1,c2,c3,f0,f1,f2,f3⟩:=four (hSw.holds 0 _ _ _ rfl);go_simp <;> with_reducible rfl
   simp only [Act.put,qA,qC,qB]
   refine ar (i:=4) (v := ?_) 16 rfl rfl (by kernel_rfl) (by kernel_rfl) (by kernel_rfl) (fun _ _ _ h=>h) (Or.inl ⟨by rfl,?_⟩) hHeld ?_
   rotate_left 1
   ·intro w hSw;go_simp <;> with_reducible rfl
   simp only [Act.put,qA,qC,qB]
   refine ar (i:=5) (v := ?_) 17 rfl rfl (by kernel_rfl) (by kernel_rfl) (by kernel_rfl) (fun _ _ _ h=>h) (Or.inl ⟨by rfl,?_⟩) hHeld ?_
   rotate_left 1
   ·intro w hSw;go_simp <;> with_reducible rfl
   simp only [Act.put,qA,qC,qB]
   refine ar (i:=6) (v := ?_) 18 rfl rfl (by kernel_rfl) (by kernel_rfl) (by kernel_rfl) (fun _ _ _ h=>h) (Or.inl ⟨by rfl,?_⟩) hHeld ?_
   rotate_left 1
   ·intro w hSw;obtain ⟨c0,c1,c2,c3,f0,f1,f2,f3⟩:=four (hSw.holds 1 _ _ _ rfl);go_simp <;> with_reducible rfl
   simp only [Act.put,qA,qC,qB]
   refine ar (i:=7) (v := ?_) 19 rfl rfl (by kernel_rfl) (by kernel_rfl) (by kernel_rfl) (fun _ _ _ h=>h) (Or.inl ⟨by rfl,?_⟩) hHeld ?_
   rotate_left 1
   ·intro w hSw;go_simp <;> with_reducible rfl
   simp only [Act.put,qA,qC,qB]
   refine ar (i:=8) (v := ?_) 20 rfl rfl (by kernel_rfl) (by kernel_rfl) (by kernel_rfl) (fun _ _ _ h=>h) (Or.inl ⟨by rfl,?_⟩) hHeld ?_
   rotate_left 1
   ·intro w hSw;go_simp <;> with_reducible rfl
   simp only [Act.put,qA,qC,qB]
   refine ar (i:=9) (v := ?_) 11 rfl rfl (by kernel_rfl) (by kernel_rfl) (by kernel_rfl) (fun _ _ _ h=>h) (Or.inl ⟨by rfl,?_⟩) hHeld ?_
   rotate_left 1
   ·intro w hSw;go_simp <;> with_reducible rfl
   simp only [Act.put,qA,qC,qB]
   refine ar (i:=10) (v := ?_) 21 rfl rfl (by kernel_rfl) (by kernel_rfl) (by kernel_rfl) (fun _ _ _ h=>h) (Or.inl ⟨by rfl,?_⟩) hHeld ?_
   rotate_left 1
   ·intro w hSw;go_simp <;> with_reducible rfl
   simp only [Act.put,qA,qC,qB]
   refine ar (i:=11) (v := ?_) 22 rfl rfl (by kernel_rfl) (by kernel_rfl) (by kernel_rfl) (fun _ _ _ h=>h) (Or.inl ⟨by rfl,?_⟩) hHeld ?_
   rotate_left 1
   ·intro w hSw;go_simp <;> with_reducible rfl
   simp only [Act.put,qA,qC,qB]
   refine ar (i:=12) (v := ?_) 23 rfl rfl (by kernel_rfl) (by kernel_rfl) (by kernel_rfl) (fun _ _ _ h=>h) (Or.inl ⟨by rfl,?_⟩) hHeld ?_
   rotate_left 1
   ·intro w hSw;go_simp <;> with_reducible rfl
   simp only [Act.put,qA,qC,qB]
   refine wpAnyH_ready (rs:=[13]) (by kernel_rfl) (by simp) ?_
   refine AllReadyH.cons rfl (fun K hK => ?_) AllReadyH.nil
   go_simp
   refine hK.out _ _ ?_ (fun hHeld => ?_)
   ·exact hHeld.cell (by omega) (ne2 (by omega) (by omega)) _
   clear hK K
   try simp only [Act.put,qA,qC,qB]
   refine ar (i:=14) (v := ?_) 6 rfl rfl (by kernel_rfl) (by kernel_rfl) (by kernel_rfl) (fun _ _ _ h=>h) (Or.inl ⟨by rfl,?_⟩) hHeld ?_
   rotate_left 1
   ·intro w hSw;go_simp <;> with_reducible rfl
   simp only [Act.put,qA,qC,qB]
   refine wpAnyH_done (by kernel_rfl) ?_ _
   have HO2:Hid ((wr.drew.setCell ⟨w.heap.size+1+1+1,3,none⟩ (.int .u64 v)).heap[w.heap.size+1+1+1]? = some (.cells #[.int .u64 x0,.int .u64 x1,.int .u64 x2,.int .u64 v] 68 (0,0))):=dW (k:=3) (.int .u64 v) (w:=wr.drew) HO.out
   have HS2:Hid (SS w [(w.heap.size,nl a,68),(w.heap.size+1,nl b,68)] (w.heap.size+1+1) 4 _):=hHeld
   clear hHeld
   go_wp2
   go_roundw
   case rel=>exact ⟨4,x0,x1,x2,v,c',rfl,rfl,HV.out,HO2.out,HS2.out⟩
   case measure=>simp [intOf]
  ·obtain ⟨y0,y1,y2,y3,z0,z1,z2,z3⟩:=four HO.out
   have hxo:Num.ok ⟨x0,x1,x2,x3⟩:=⟨HR.out.2.2.2.2.1,HR.out.2.2.2.2.2.1,HR.out.2.2.2.2.2.2.1,HR.out.2.2.2.2.2.2.2.1⟩
   have hcw:Word c:=⟨HR.out.2.2.1,by have:=HR.out.2.2.2.1;omega⟩
   go_wp2_with fail
   refine (mz ⟨x0,x1,x2,x3⟩ c hxo hcw _).mono ?_
   rintro e w1 ⟨s,rfl,hs,⟨es,fs⟩,hb1⟩
   obtain ⟨m,hm,hv,rfl⟩:=Num.to_of hs
   obtain ⟨O,hO,hOv,hOe⟩:=Num.to_of hxo
   obtain ⟨cn,hcn⟩ : ∃ cn:Nat,(cn:Int)=c:=⟨c.toNat,by have:=HR.out.2.2.1;omega⟩
   have HS1:=HSS.out.call hb1
   have HT:Hid (w1.there (w.heap.size+1+1) 0 4):=HS1.there
   have HB:Hid (Below w.heap.size w w1):=HS1.below
   have HE:Hid (m % pp=(a+b) % pp∧m=fX (a+b)):=by
    have ea:=Num.of_val a ha
    have eb:=Num.of_val b hb
    have e:=HR.out.2.2.2.2.2.2.2.2.2.2.2.2 rfl
    have e2:Num.val ⟨x0,x1,x2,x3⟩+c*RR=((a+b:Nat):Int):=by
     rw [Int.natCast_add,←ea,←eb]
     simp only [Num.val,Num.of,RR] at *
     exact e
    rw [e2,←hv,←fx,←fx] at es
    refine ⟨by omega,?_⟩
    rw [←hOv,←hcn] at e2 fs
    refine G3 hO (x:=cn) ?_ (hv.trans fs)
    simp only [RR,RN] at *
    omega
   clear HS1 hb1 es fs hv hOv hOe hcn
   rw [Hu]
   unfold nv
   go_wp2_with (refine wpList_store_mid rfl 68 _ _ rfl (w.heap.size+1+1) 0 (nl m).toArray rfl rfl HT.out (r4 _) (aR _) ?_)
   refine bodyPost_ret (v := .agg (nl m).toArray) (aF Tryz.results89 _ _ (w.heap.size+1+1) 0 (nl m) _ rfl (World.rangeAt_setCells_same _ _ _ _ HT.out) Tryz.underlying68 rfl (r4 _)) rfl ⟨m,hm,rfl,HE.out,af _ (by omega) _ _ _ HB.out⟩
end Go.Proofs.YtajehiidpecknaaGreatDoor
