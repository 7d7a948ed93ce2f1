import Derived.Test.YtajehiidpecknaaGreatDoorFieRG
set_option linter.all false
namespace Go.Proofs.YtajehiidpecknaaGreatDoor
open Go Go.RowKit Go.Lib
set_option maxRecDepth 100000
theorem Pv:(#[.int .u64 0,.int .u64 0,.int .u64 0,.int .u64 0,.int .u64 0,.int .u64 0,.int .u64 0,.int .u64 0]:Array Value)=(l8 0).toArray:=by kernel_rfl
structure TW (w:World) (a b:Nat) (wr:World) (N:Nat):Prop where
 ss:SS w [(w.heap.size,nl a,68),(w.heap.size+1,nl b,68)] (w.heap.size+1+1) 4 wr
 row:wr.heap[w.heap.size+1+1+1]? = some (.cells (l8 N).toArray 86 (0,0))
theorem TW.drew {w wr:World} {a b N:Nat} (h:TW w a b wr N):TW w a b wr.drew N:=⟨h.ss.drew,h.row⟩
theorem TW.put {w wr:World} {a b N k v:Nat} (h:TW w a b wr N) (hk:k<8) (hv:v<BB):TW w a b (wr.setCell ⟨w.heap.size+1+1+1,k,none⟩ (.int .u64 (v:Int))) (upw N k v) :=
 ⟨h.ss.cell (by omega) (ne2 (by omega) (by omega)) _,J1 hv hk h.row⟩
theorem TW.start (w:World) (a b:Nat):TW w a b ((((w.alloc (.cells (nl a).toArray 68)).alloc (.cells (nl b).toArray 68)).alloc (.cells #[.int .u64 0,.int .u64 0,.int .u64 0,.int .u64 0] 68)).alloc (.cells #[.int .u64 0,.int .u64 0,.int .u64 0,.int .u64 0,.int .u64 0,.int .u64 0,.int .u64 0,.int .u64 0] 86)) 0:=by
 refine ⟨?_,by rw [←Pv];exact aj _ _ _ (by simp)⟩
 have h1:SS w [(w.heap.size,nl a,68)] (w.heap.size+1+1) 4 ((((w.alloc (.cells (nl a).toArray 68)).alloc (.cells (nl b).toArray 68)).alloc (.cells #[.int .u64 0,.int .u64 0,.int .u64 0,.int .u64 0] 68)).alloc (.cells #[.int .u64 0,.int .u64 0,.int .u64 0,.int .u64 0,.int .u64 0,.int .u64 0,.int .u64 0,.int .u64 0] 86)):=by
  refine ⟨((((Below.refl _ _).alloc (Nat.le_refl _) _).alloc (by simp) _).alloc (by simp;omega) _).alloc (by simp;omega) _,?_,aw ((az _ _ _ (by simp)).trans (aj _ _ _ (by simp))) 0 4 (by simp)⟩
  intro i g L t hm
  match i,hm with
  | 0,hm =>
   cases hm
   exact (az _ _ _ (by simp only [World.size_alloc];omega)).trans ((az _ _ _ (by simp only [World.size_alloc];omega)).trans ((az _ _ _ (by simp only [World.size_alloc];omega)).trans (aj _ _ _ rfl)))
 exact h1.add (nl b) _ ((az _ _ _ (by simp only [World.size_alloc];omega)).trans ((az _ _ _ (by simp only [World.size_alloc];omega)).trans (aj _ _ _ (by simp))))
theorem iZ {w:World} {g n i:Nat} {t:TypeId} (h:w.heap[g]? = some (.cells (nl n).toArray t (0,0))) (hi:i<4):w.cell? ⟨g,i,none⟩=some (.int .u64 (lw n i)):=by
 rw [cell_of_row w g i _ t _ h];exact gY n i hi
theorem dt {w:World} {g n i:Nat} {t:TypeId} (h:w.heap[g]? = some (.cells (l8 n).toArray t (0,0))) (hi:i<8):w.cell? ⟨g,i,none⟩=some (.int .u64 (lw n i)):=by
 rw [cell_of_row w g i _ t _ h];exact xt n i hi
theorem C5 (x y:Nat) (w:World):(callFunc 108 #[.int .u64 (x:Int),.int .u64 (y:Int),.int .u64 0]).run Tryz.prog w = .ok (.value (.tuple #[.int .u64 (((x+y) % BB:Nat):Int),.int .u64 (((x+y)/BB:Nat):Int)])) w:=by
 rw [zi (x:Int) (y:Int) (by omega) (by omega)]
 congr 5 <;> omega
theorem N2 (x y c:Nat) (hc:c≤1) (w:World):(callFunc 108 #[.int .u64 (x:Int),.int .u64 (y:Int),.int .u64 (c:Int)]).run Tryz.prog w = .ok (.value (.tuple #[.int .u64 (((x+y+c) % BB:Nat):Int),.int .u64 (((x+y+c)/BB:Nat):Int)])) w:=by
 rw [nC (x:Int) (y:Int) (c:Int) (by omega) (by omega) (by omega) (by omega)]
 congr 5 <;> omega
theorem BG (x y h l n c l1 c1 l2 c2:Nat) (hx:x<BB) (hy:y<BB) (hn:n<BB) (hc:c<BB) (e0:x*y=h*BB+l) (e1:l1+c1*BB=l+n) (e2:l2+c2*BB=l1+c):h+c1+c2<BB:=by
 have h1:x*y≤(BB - 1)*(BB - 1):=Nat.mul_le_mul (by omega) (by omega)
 have e3:=mix BB h l c1 c2 l1 l2 n c _ e0 e1 e2
 simp only [BB] at *
 omega
theorem TW.alloc {w wr:World} {a b N:Nat} (h:TW w a b wr N) (o:Obj):TW w a b (wr.alloc o) N:=⟨h.ss.alloc o,(az _ _ _ (lt_of_heap h.row)).trans h.row⟩
theorem TW.cell {w wr:World} {a b N g k:Nat} (h:TW w a b wr N) (hg:w.heap.size+1+1+1<g) (v:Value):TW w a b (wr.setCell ⟨g,k,none⟩ v) N :=
 ⟨h.ss.cell (by omega) (ne2 (by omega) (by omega)) v,(a7 g (w.heap.size+1+1+1) (by omega) [v] k wr).trans h.row⟩
theorem Km (N:Nat):(nl (N % BB ^ 4)).toArray=(nl N).toArray:=by
 have e:(BB:Nat) ^ 4=256 ^ 32:=by decide
 have g:=fun j (hj:j<4)=>sE N 32 j (by omega)
 rw [e]
 simp only [nl,g 0 (by omega),g 1 (by omega),g 2 (by omega),g 3 (by omega)]
theorem MZ (N i:Nat):wd (N/BB ^ 4) i=wd N (i+4):=by
 unfold wd
 rw [YL,←Nat.pow_add,Nat.add_comm 4 i]
theorem C8 (N O x:Nat) (hN:N<BB ^ 4*BB ^ 4) (h:O+x*BB ^ 4=N % BB ^ 4+38*(N/BB ^ 4 % BB ^ 4)):(O+x*RN) % pp=N % pp:=by
 have h1:N/BB ^ 4<BB ^ 4:=by rw [Nat.div_lt_iff_lt_mul (sw 4)];exact hN
 rw [YK h1] at h
 have h2:=Nat.div_add_mod N (BB ^ 4)
 have e:(BB:Nat) ^ 4=RN:=by decide
 rw [e] at h h1 h2 hN
 rw [h]
 generalize N/RN=q at *
 generalize N % RN=r at *
 subst h2
 simp only [RN,pp] at *
 omega
def fO (n:Nat):Nat:=n % RN+38*(n/RN)
set_option maxRecDepth 100000 in
set_option maxHeartbeats 4000000 in
theorem iV (a b:Nat) (ha:a<RN) (hb:b<RN) (w:World) :
  Calls Tryz.prog 84 #[.agg (nl a).toArray,.agg (nl b).toArray] w fun e w' => ∃ s,s<RN∧e = .returned (.agg (nl s).toArray)∧(s % pp=(a*b) % pp∧s=fX (fO (a*b)))∧Below w.heap.size w w':=by
 have HT0:Hid (TW w a b ((((w.alloc (.cells (nl a).toArray 68)).alloc (.cells (nl b).toArray 68)).alloc (.cells #[.int .u64 0,.int .u64 0,.int .u64 0,.int .u64 0] 68)).alloc (.cells #[.int .u64 0,.int .u64 0,.int .u64 0,.int .u64 0,.int .u64 0,.int .u64 0,.int .u64 0,.int .u64 0] 86)) 0):=TW.start w a b
 go_enter Tryz.func84,Tryz.ntmps84
 go_wp2
 go_loopw [19] (fun i wr => ∃ k:Nat,k≤4∧i = .int .i64 k∧TW w a b wr ((a % BB ^ k)*b)) (fun i _=>4 - (intOf i).toNat)
 case atStart=>exact ⟨0,by omega,rfl,by rw [Nat.pow_zero,Nat.mod_one,Nat.zero_mul];exact HT0.out⟩
 case round =>
  obtain ⟨k,hk,rfl,htw⟩:=hrel
  have HW:Hid (TW w a b wr ((a % BB ^ k)*b)):=htw
  clear htw
  by_cases hk4:k<4
  ·have hk4':(k:Int)<4:=by omega
   have HN0:Hid ((a % BB ^ k)*b<BB ^ (k+4)):=by
    have h1:=Nat.mod_lt a (sw k)
    have h2:(a % BB ^ k)*b<BB ^ k*BB ^ 4:=Nat.mul_lt_mul'' h1 hb
    rw [←Nat.pow_add] at h2
    exact h2
   go_wp2
   go_loopw [7,22] (fun c jj wq => ∃ j N cy:Nat,j≤4∧jj = .int .i64 j∧c = .int .u64 cy∧cy<BB∧N<BB ^ (k+4)∧N+cy*BB ^ (k+j)=(a % BB ^ k)*b+wd a k*(b % BB ^ j)*BB ^ k∧TW w a b wq N) (fun _ jj _=>4 - (intOf jj).toNat)
   case atStart=>exact ⟨0,_,0,by omega,rfl,rfl,by decide,HN0.out,by rw [Nat.pow_zero,Nat.mod_one];simp,HW.out⟩
   case round =>
    obtain ⟨j,N,cy,hj,rfl,rfl,hcy,hN,hsum,htq⟩:=hrel
    have HQ:Hid (TW w a b wr N):=htq
    have HSUM:Hid (N+cy*BB ^ (k+j)=(a % BB ^ k)*b+wd a k*(b % BB ^ j)*BB ^ k):=hsum
    have HNL:Hid (N<BB ^ (k+4)):=hN
    clear htq hsum hN HN0 HW
    by_cases hj4:j<4
    ·have hj4':(j:Int)<4:=by omega
     go_wp2_with fail
     refine wp_region_held_drew (S:=(fun w'=>SS w [(w.heap.size,nl a,68),(w.heap.size+1,nl b,68)] (w.heap.size+1+1) 4 w')) (by kernel_rfl) ?_ (fun hHeld => ?_)
     ·exact HQ.out.ss.drew
     refine aL (i:=0) (v := ?_) 26 rfl rfl (by kernel_rfl) (by kernel_rfl) (by kernel_rfl) (fun _ _ _ h=>h) (Or.inl ⟨by rfl,?_⟩) hHeld ?_
     rotate_left 1
     ·intro w hSw;go_simp <;> with_reducible rfl
     simp only [Act.put,qA,qC,qB]
     refine aL (i:=1) (v := ?_) 27 rfl rfl (by kernel_rfl) (by kernel_rfl) (by kernel_rfl) (fun _ _ _ h=>h) (Or.inl ⟨by rfl,?_⟩) hHeld ?_
     rotate_left 1
     ·intro w hSw;go_simp <;> with_reducible rfl
     simp only [Act.put,qA,qC,qB]
     refine aL (i:=2) (v := ?_) 28 rfl rfl (by kernel_rfl) (by kernel_rfl) (by kernel_rfl) (fun _ _ _ h=>h) (Or.inl ⟨by rfl,?_⟩) hHeld ?_
     rotate_left 1
     ·intro w hSw;have ca:=iZ (i:=k) (hSw.holds 0 _ _ _ rfl) hk4;go_simp <;> with_reducible rfl
     simp only [Act.put,qA,qC,qB]
     refine aL (i:=3) (v := ?_) 29 rfl rfl (by kernel_rfl) (by kernel_rfl) (by kernel_rfl) (fun _ _ _ h=>h) (Or.inl ⟨by rfl,?_⟩) hHeld ?_
     rotate_left 1
     ·intro w hSw;go_simp <;> with_reducible rfl
     simp only [Act.put,qA,qC,qB]
     refine aL (i:=4) (v := ?_) 30 rfl rfl (by kernel_rfl) (by kernel_rfl) (by kernel_rfl) (fun _ _ _ h=>h) (Or.inl ⟨by rfl,?_⟩) hHeld ?_
     rotate_left 1
     ·intro w hSw;go_simp <;> with_reducible rfl
     simp only [Act.put,qA,qC,qB]
     refine aL (i:=5) (v := ?_) 31 rfl rfl (by kernel_rfl) (by kernel_rfl) (by kernel_rfl) (fun _ _ _ h=>h) (Or.inl ⟨by rfl,?_⟩) hHeld ?_
     rotate_left 1
     ·intro w hSw;have cb:=iZ (i:=j) (hSw.holds 1 _ _ _ rfl) hj4;go_simp <;> with_reducible rfl
     simp only [Act.put,qA,qC,qB]
     refine wpAnyH_ready (rs:=[6]) (by kernel_rfl) (by simp) ?_
     refine AllReadyH.cons rfl (fun K hK => ?_) AllReadyH.nil
     go_simp
     go_at_call 60
     refine (Ey (lw a k) (lw b j) (ah a k) (ah b j) _).mono ?_
     rintro e wM ⟨hI,lI,rfl,hh,hl,em,rfl⟩
     refine hK.out _ _ ?_ (fun hHeld => ?_)
     ·exact hHeld
     clear hK K
     try simp only [Act.put,qA,qC,qB]
     refine aL (i:=7) (v := ?_) 25 rfl rfl (by kernel_rfl) (by kernel_rfl) (by kernel_rfl) (fun _ _ _ h=>h) (Or.inl ⟨by rfl,?_⟩) hHeld ?_
     rotate_left 1
     ·intro w hSw;go_simp <;> with_reducible rfl
     simp only [Act.put,qA,qC,qB]
     refine aL (i:=8) (v := ?_) 33 rfl rfl (by kernel_rfl) (by kernel_rfl) (by kernel_rfl) (fun _ _ _ h=>h) (Or.inl ⟨by rfl,?_⟩) hHeld ?_
     rotate_left 1
     ·intro w hSw;go_simp <;> with_reducible rfl
     simp only [Act.put,qA,qC,qB]
     refine aL (i:=9) (v := ?_) 34 rfl rfl (by kernel_rfl) (by kernel_rfl) (by kernel_rfl) (fun _ _ _ h=>h) (Or.inl ⟨by rfl,?_⟩) hHeld ?_
     rotate_left 1
     ·intro w hSw;go_simp <;> with_reducible rfl
     simp only [Act.put,qA,qC,qB]
     refine aL (i:=10) (v := ?_) 9 rfl rfl (by kernel_rfl) (by kernel_rfl) (by kernel_rfl) (fun _ _ _ h=>h) (Or.inl ⟨by rfl,?_⟩) hHeld ?_
     rotate_left 1
     ·intro w hSw;go_simp <;> with_reducible rfl
     simp only [Act.put,qA,qC,qB]
     refine aL (i:=11) (v := ?_) 10 rfl rfl (by kernel_rfl) (by kernel_rfl) (by kernel_rfl) (fun _ _ _ h=>h) (Or.inl ⟨by rfl,?_⟩) hHeld ?_
     rotate_left 1
     ·intro w hSw;go_simp <;> with_reducible rfl
     simp only [Act.put,qA,qC,qB]
     refine wpAnyH_done (by kernel_rfl) ?_ _
     obtain ⟨h,rfl⟩:=Int.eq_ofNat_of_zero_le hh.1
     obtain ⟨l,rfl⟩:=Int.eq_ofNat_of_zero_le hl.1
     obtain ⟨n,hn⟩ : ∃ n,n=wd N (k+j):=⟨_,rfl⟩
     obtain ⟨l1,q1⟩ : ∃ x,x=(l+n) % BB:=⟨_,rfl⟩
     obtain ⟨c1,p1⟩ : ∃ x,x=(l+n)/BB:=⟨_,rfl⟩
     obtain ⟨l2,q2⟩ : ∃ x,x=(l1+cy) % BB:=⟨_,rfl⟩
     obtain ⟨c2,p2⟩ : ∃ x,x=(l1+cy)/BB:=⟨_,rfl⟩
     have s1 : ∀ w,(callFunc 108 #[.int .u64 (l:Int),.int .u64 (n:Int),.int .u64 0]).run Tryz.prog w = .ok (.value (.tuple #[.int .u64 (l1:Int),.int .u64 (c1:Int)])) w:=fun w=>by rw [q1,p1];exact C5 l n w
     have s2 : ∀ w,(callFunc 108 #[.int .u64 (l1:Int),.int .u64 (cy:Int),.int .u64 0]).run Tryz.prog w = .ok (.value (.tuple #[.int .u64 (l2:Int),.int .u64 (c2:Int)])) w:=fun w=>by rw [q2,p2];exact C5 l1 cy w
     have cw:wr.drew.cell? ⟨w.heap.size+1+1+1,k+j,none⟩=some (.int .u64 (n:Int)):=by rw [dt HQ.out.drew.row (by omega),mb,hn]
     have fw:wr.drew.frozen? ⟨w.heap.size+1+1+1,k+j,none⟩=false:=frozen_of_row _ _ _ _ _ HQ.out.drew.row
     have e0:wd a k*wd b j=h*BB+l:=by
      have:=em
      rw [mb,mb,←Int.natCast_mul] at this
      simp only [BB];omega
     have e1:l1+c1*BB=l+n:=by rw [q1,p1];simp only [BB];omega
     have e2:l2+c2*BB=l1+cy:=by rw [q2,p2];simp only [BB];omega
     have hlt:=BG (wd a k) (wd b j) h l n cy l1 c1 l2 c2 (qx _ _) (qx _ _) (by rw [hn];exact qx _ _) hcy e0 e1 e2
     have hl2:l2<BB:=by rw [q2];exact Nat.mod_lt _ (by decide)
     have HSTEP:Hid (upw N (k+j) l2+(h+c1+c2)*BB ^ (k+(j+1))=(a % BB ^ k)*b+wd a k*(b % BB ^ (j+1))*BB ^ k):=ya N cy (k+j) k j a b h l l1 c1 l2 c2 rfl e0 (by rw [e1,hn]) e2 _ HSUM.out
     have HLT:Hid (upw N (k+j) l2<BB ^ (k+4)):=ES N (k+j) l2 (k+4) HNL.out (by omega) hl2
     have HPUT:Hid (TW w a b (wr.drew.setCell ⟨w.heap.size+1+1+1,k+j,none⟩ (.int .u64 (l2:Int))) (upw N (k+j) l2)):=HQ.out.drew.put (by omega) hl2
     have w1:IntKind.u64.wrap ((h:Int)+(c1:Int))=(h:Int)+(c1:Int):=by rw [IntKind.wrap_u64];simp only [BB] at hlt;omega
     have w2:IntKind.u64.wrap ((h:Int)+(c1:Int)+(c2:Int))=(h:Int)+(c1:Int)+(c2:Int):=by rw [IntKind.wrap_u64];simp only [BB] at hlt;omega
     have hkj:k+j<8:=by omega
     have hkj':(k:Int)+(j:Int)<8:=by omega
     have HLTC:Hid (h+c1+c2<BB):=hlt
     clear hn q1 p1 q2 p2 e0 e1 e2 hlt em hHeld
     go_wp2
     go_roundw
     case rel=>exact ⟨j+1,upw N (k+j) l2,h+c1+c2,by omega,by go_num,congrArg (Value.int .u64) (by omega),HLTC.out,HLT.out,HSTEP.out,HPUT.out⟩
     case measure=>simp [intOf];omega
    ·obtain rfl:j=4:=by omega
     have hb4:b % BB ^ 4=b:=YK hb
     have hw0:wd N (k+4)=0:=by unfold wd;rw [Nat.div_eq_of_lt HNL.out];rfl
     have HV:Hid (upw N (k+4) cy=(a % BB ^ (k+1))*b):=by
      have u:=rP N (k+4) cy
      rw [hw0,Nat.zero_mul,Nat.add_zero] at u
      show _=_
      rw [u,HSUM.out,hb4,oD,Nat.add_mul,Nat.mul_comm (BB ^ k) (wd a k),Nat.mul_right_comm]
     have HP0:TW w a b (wr.setCell ⟨w.heap.size+1+1+1,k+4,none⟩ (.int .u64 (cy:Int))) (upw N (k+4) cy):=HQ.out.put (by omega) hcy
     rw [HV.out] at HP0
     have HPUT:Hid (TW w a b (wr.setCell ⟨w.heap.size+1+1+1,k+4,none⟩ (.int .u64 (cy:Int))) ((a % BB ^ (k+1))*b)):=HP0
     have cw:wr.cell? ⟨w.heap.size+1+1+1,k+4,none⟩=some (.int .u64 (lw N (k+4))):=dt HQ.out.row (by omega)
     have fw:wr.frozen? ⟨w.heap.size+1+1+1,k+4,none⟩=false:=frozen_of_row _ _ _ _ _ HQ.out.row
     have hk8:(k:Int)+4<8:=by omega
     clear hb4 hw0 HP0
     go_wp2
     go_roundw
     case rel=>exact ⟨k+1,by omega,by go_num,HPUT.out⟩
     case measure=>simp [intOf];omega
  ·obtain rfl:k=4:=by omega
   have eR:(BB:Nat) ^ 4=RN:=by decide
   obtain ⟨N,hN⟩ : ∃ N,N=a*b:=⟨_,rfl⟩
   have hw0:=HW.out
   rw [YK (by rw [eR];exact ha),←hN] at hw0
   have HNB:Hid (N<BB ^ 4*BB ^ 4):=by show _<_;rw [hN,eR];exact Nat.mul_lt_mul'' ha hb
   have HEQ:Hid (N=a*b):=hN
   have HW1:Hid (TW w a b wr N):=hw0
   obtain ⟨g,hg⟩ : ∃ g,g=wr.heap.size:=⟨_,rfl⟩
   have hgW:w.heap.size+1+1+1<g:=by rw [hg];exact lt_of_heap hw0.row
   have c0:wr.cell? ⟨w.heap.size+1+1+1,0,none⟩=some (.int .u64 (lw N 0)):=dt hw0.row (by omega)
   have c1:wr.cell? ⟨w.heap.size+1+1+1,1,none⟩=some (.int .u64 (lw N 1)):=dt hw0.row (by omega)
   have c2:wr.cell? ⟨w.heap.size+1+1+1,2,none⟩=some (.int .u64 (lw N 2)):=dt hw0.row (by omega)
   have c3:wr.cell? ⟨w.heap.size+1+1+1,3,none⟩=some (.int .u64 (lw N 3)):=dt hw0.row (by omega)
   have HSTART:Hid (∃ i O hi cy:Nat,i≤4∧Value.int .i64 0 = .int .i64 (i:Int)∧Value.int .u64 0 = .int .u64 (hi:Int)∧Value.int .u64 0 = .int .u64 (cy:Int)∧hi≤38∧cy≤1∧O<BB ^ 4∧O+(hi+cy)*BB ^ i=N % BB ^ 4+38*(N/BB ^ 4 % BB ^ i)∧TW w a b (wr.alloc (.cells #[.int .u64 (lw N 0),.int .u64 (lw N 1),.int .u64 (lw N 2),.int .u64 (lw N 3)] 68)) N∧(wr.alloc (.cells #[.int .u64 (lw N 0),.int .u64 (lw N 1),.int .u64 (lw N 2),.int .u64 (lw N 3)] 68)).heap[g]? = some (.cells (nl O).toArray 68 (0,0))):=by
    refine ⟨0,N % BB ^ 4,0,0,by omega,rfl,rfl,rfl,by omega,by omega,Nat.mod_lt _ (sw 4),?_,hw0.alloc _,?_⟩
    ·rw [Nat.pow_zero,Nat.mod_one]
    ·rw [Km];exact aj _ _ _ hg
   clear hw0 hN HW
   go_wp2
   rw [←hg]
   clear hg
   try rw [show ((4:Nat):Int)=4 from rfl]
   go_loopw [13,14,78] (fun hv cv iv wq => ∃ i O hi cy:Nat,i≤4∧iv = .int .i64 i∧hv = .int .u64 hi∧cv = .int .u64 cy∧hi≤38∧cy≤1∧O<BB ^ 4∧O+(hi+cy)*BB ^ i=N % BB ^ 4+38*(N/BB ^ 4 % BB ^ i)∧TW w a b wq N∧wq.heap[g]? = some (.cells (nl O).toArray 68 (0,0))) (fun _ _ iv _=>4 - (intOf iv).toNat)
   case atStart=>exact HSTART.out
   case round =>
    obtain ⟨i,O,hi,cy,hi4,rfl,rfl,rfl,hhi,hcy,hO,hsum,htw,hout⟩:=hrel
    have HQ:Hid (TW w a b wr N):=htw
    have HO:Hid (wr.heap[g]? = some (.cells (nl O).toArray 68 (0,0))):=hout
    have HSUM:Hid (O+(hi+cy)*BB ^ i=N % BB ^ 4+38*(N/BB ^ 4 % BB ^ i)):=hsum
    have HOL:Hid (O<BB ^ 4):=hO
    clear htw hout hsum hO c0 c1 c2 c3 HSTART HW1
    by_cases hi5:i<4
    ·have hi5':(i:Int)<4:=by omega
     have hi8':(i:Int)+4<8:=by omega
     have cw:wr.cell? ⟨w.heap.size+1+1+1,i+4,none⟩=some (.int .u64 (lw N (i+4))):=dt HQ.out.row (by omega)
     go_wp2_with fail
     refine (Ey (lw N (i+4)) 38 (ah N (i+4)) ⟨by decide,by decide⟩ _).mono ?_
     rintro e w' ⟨hI,lI,rfl,hh,hl,em,rfl⟩
     obtain ⟨h,rfl⟩:=Int.eq_ofNat_of_zero_le hh.1
     obtain ⟨l,rfl⟩:=Int.eq_ofNat_of_zero_le hl.1
     obtain ⟨n,hn⟩ : ∃ n,n=wd O i:=⟨_,rfl⟩
     obtain ⟨l1,q1⟩ : ∃ x,x=(l+hi) % BB:=⟨_,rfl⟩
     obtain ⟨c1,p1⟩ : ∃ x,x=(l+hi)/BB:=⟨_,rfl⟩
     obtain ⟨v,q2⟩ : ∃ x,x=(n+l1+cy) % BB:=⟨_,rfl⟩
     obtain ⟨c2,p2⟩ : ∃ x,x=(n+l1+cy)/BB:=⟨_,rfl⟩
     have s1 : ∀ w,(callFunc 108 #[.int .u64 (l:Int),.int .u64 (hi:Int),.int .u64 0]).run Tryz.prog w = .ok (.value (.tuple #[.int .u64 (l1:Int),.int .u64 (c1:Int)])) w:=fun w=>by rw [q1,p1];exact C5 l hi w
     have s2 : ∀ w,(callFunc 108 #[.int .u64 (n:Int),.int .u64 (l1:Int),.int .u64 (cy:Int)]).run Tryz.prog w = .ok (.value (.tuple #[.int .u64 (v:Int),.int .u64 (c2:Int)])) w:=fun w=>by rw [q2,p2];exact N2 n l1 cy hcy w
     have co:wr.cell? ⟨g,i,none⟩=some (.int .u64 (n:Int)):=by rw [iZ HO.out hi5,mb,hn]
     have fo:wr.frozen? ⟨g,i,none⟩=false:=frozen_of_row _ _ _ _ _ HO.out
     have e0:wd (N/BB ^ 4) i*38=h*BB+l:=by
      have:=em
      rw [mb] at this
      rw [MZ]
      simp only [BB];omega
     have hwl:=qx (N/BB ^ 4) i
     have hll:l<BB:=by have:=hl.2;simp only [BB];omega
     have hnl:n<BB:=by rw [hn];exact qx _ _
     have e1:l1+c1*BB=l+hi:=by rw [q1,p1];simp only [BB];omega
     have e2:v+c2*BB=wd O i+l1+cy:=by rw [←hn,q2,p2];simp only [BB];omega
     have hh37:h≤37:=by simp only [BB] at *;omega
     have hc1:c1≤1:=by rw [p1];simp only [BB] at *;omega
     have hc2:c2≤1:=by
      have:l1<BB:=by rw [q1];exact Nat.mod_lt _ (by decide)
      rw [p2];simp only [BB] at *;omega
     have hvl:v<BB:=by rw [q2];exact Nat.mod_lt _ (by decide)
     have HSTEP:Hid (upw O i v+(h+c1+c2)*BB ^ (i+1)=N % BB ^ 4+38*(N/BB ^ 4 % BB ^ (i+1))):=xo O (N/BB ^ 4) i h l hi l1 c1 v c2 cy _ e0 e1 e2 HSUM.out
     have HLT:Hid (upw O i v<BB ^ 4):=ES O i v 4 HOL.out hi5 hvl
     have HPUT:Hid ((wr.setCell ⟨g,i,none⟩ (.int .u64 (v:Int))).heap[g]? = some (.cells (nl (upw O i v)).toArray 68 (0,0))):=KD hvl hi5 HO.out
     have HTW:Hid (TW w a b (wr.setCell ⟨g,i,none⟩ (.int .u64 (v:Int))) N):=HQ.out.cell hgW _
     have w1:IntKind.u64.wrap ((h:Int)+(c1:Int))=(h:Int)+(c1:Int):=by rw [IntKind.wrap_u64];omega
     clear hn q1 p1 q2 p2 e0 e1 e2 em hwl hll hnl hvl
     go_wp2
     go_roundw
     case rel=>exact ⟨i+1,upw O i v,h+c1,c2,by omega,by go_num,congrArg (Value.int .u64) (by omega),rfl,by omega,hc2,HLT.out,HSTEP.out,HTW.out,HPUT.out⟩
     case measure=>simp [intOf];omega
    ·obtain rfl:i=4:=by omega
     obtain ⟨o0,o1,o2,o3,p0,p1,p2,p3⟩:=four HO.out
     have w1:IntKind.u64.wrap ((hi:Int)+(cy:Int))=(hi:Int)+(cy:Int):=by rw [IntKind.wrap_u64];omega
     have hOR:O<RN:=by have:=HOL.out;rw [eR] at this;exact this
     go_wp2_with fail
     refine (nV (Num.of O) ((hi:Int)+(cy:Int)) (Num.of_ok O) ⟨by omega,by omega⟩ _).mono ?_
     rintro e w1' ⟨s,rfl,hs,⟨es,fs⟩,hb1⟩
     obtain ⟨z,hz,hv,rfl⟩:=Num.to_of hs
     have HS1:=HQ.out.ss.call hb1
     have HT:Hid (w1'.there (w.heap.size+1+1) 0 4):=HS1.there
     have HB:Hid (Below w.heap.size w w1'):=HS1.below
     have HE:Hid (z % pp=(a*b) % pp∧z=fX (fO (a*b))):=by
      have key:=C8 N O (hi+cy) HNB.out HSUM.out
      rw [Num.of_val O hOR,←hv] at es
      have e2:(O:Int)+((hi:Int)+(cy:Int))*RR=((O+(hi+cy)*RN:Nat):Int):=by simp only [RR,RN];omega
      rw [e2,←mq,←mq] at es
      refine ⟨by rw [←HEQ.out,←key];omega,?_⟩
      have hN:=HNB.out
      have hs:=HSUM.out
      have e4:(BB:Nat) ^ 4=RN:=by decide
      rw [e4] at hN hs
      have h1:N/RN<RN:=by rw [Nat.div_lt_iff_lt_mul (by decide)];exact hN
      rw [YK h1] at hs
      rw [Num.of_val O hOR] at fs
      rw [←HEQ.out]
      refine JF hOR (x:=hi+cy) hs ?_
      rw [hv,fs,Int.natCast_add]
     clear HS1 hb1 es fs hv
     rw [N3]
     unfold nv
     go_wp2_with (refine wpList_store_mid rfl 68 _ _ rfl (w.heap.size+1+1) 0 (nl z).toArray rfl rfl HT.out (r4 _) (bu _) ?_)
     refine bodyPost_ret (v := .agg (nl z).toArray) (aN Tryz.results84 _ _ (w.heap.size+1+1) 0 (nl z) _ rfl (World.rangeAt_setCells_same _ _ _ _ HT.out) Tryz.underlying68 rfl (r4 _)) rfl ⟨z,hz,rfl,HE.out,af _ (by omega) _ _ _ HB.out⟩
theorem vZ (a b:Nat) (ha:a<RN) (hb:b<RN) (w:World) :
  Calls Tryz.prog 84 #[.agg (nl a).toArray,.agg (nl b).toArray] w fun e w' => ∃ s,s<RN∧e = .returned (.agg (nl s).toArray)∧s % pp=(a*b) % pp∧Below w.heap.size w w' :=
 (iV a b ha hb w).mono fun e w' ⟨s,h1,h2,h3,h4⟩=>⟨s,h1,h2,h3.1,h4⟩
end Go.Proofs.YtajehiidpecknaaGreatDoor
namespace Go.Proofs.YtajehiidpecknaaGreatDoor
open Go Go.RowKit Go.Lib
set_option maxRecDepth 100000
theorem LB (e m:Nat):bits .and .u64 (lw e (m/64)/2 ^ (m % 64)) 1=((e/2 ^ m % 2:Nat):Int):=by
 have h2:lw e (m/64)/2 ^ (m % 64)=((wd e (m/64)/2 ^ (m % 64):Nat):Int):=by rw [mb,Int.natCast_ediv,Int.natCast_pow];rfl
 have hlt:wd e (m/64)/2 ^ (m % 64)<18446744073709551616:=Nat.lt_of_le_of_lt (Nat.div_le_self _ _) (qx _ _)
 have h:=bits_and_u64_nat (wd e (m/64)/2 ^ (m % 64)) 1 hlt (by decide)
 rw [Nat.and_one_is_mod] at h
 rw [h2]
 refine Eq.trans h ?_
 congr 1
 unfold wd
 have e1:(BB:Nat) ^ (m/64)=2 ^ (64*(m/64)):=by rw [Nat.pow_mul]
 have hr:m % 64<64:=Nat.mod_lt _ (by decide)
 have e2:(BB:Nat)=2 ^ (m % 64)*(2*2 ^ (63 - m % 64)):=by
  rw [←Nat.pow_succ',←Nat.pow_add,show m % 64+(63 - m % 64+1)=64 by omega]
 have e3:e/2 ^ m=e/2 ^ (64*(m/64))/2 ^ (m % 64):=by
  rw [YL,←Nat.pow_add,show 64*(m/64)+m % 64=m by omega]
 rw [e1,e3]
 generalize e/2 ^ (64*(m/64))=y
 rw [e2,Nat.mod_mul_right_div_self,Nat.mod_mul_right_mod]
theorem yF (a b m x y z:Nat) (hx:x % pp=a ^ (b/2 ^ (m+1)) % pp) (hy:y % pp=x*x % pp) (hz:z % pp=y*a % pp) (hb:b/2 ^ m % 2=1):z % pp=a ^ (b/2 ^ m) % pp:=by
 have e:b/2 ^ m=b/2 ^ (m+1)+b/2 ^ (m+1)+1:=by
  rw [Nat.pow_succ,←YL];omega
 have e2:y % pp=a ^ (b/2 ^ (m+1)+b/2 ^ (m+1)) % pp:=by rw [hy,Nat.mul_mod x x,hx,←Nat.mul_mod,←Nat.pow_add]
 rw [e]
 exact pow_mul a _ 1 _ y a z rfl e2 (J8 a) hz
theorem rH (a b m x y:Nat) (hx:x % pp=a ^ (b/2 ^ (m+1)) % pp) (hy:y % pp=x*x % pp) (hb:b/2 ^ m % 2=0):y % pp=a ^ (b/2 ^ m) % pp:=by
 have e:b/2 ^ m=b/2 ^ (m+1)+b/2 ^ (m+1):=by
  rw [Nat.pow_succ,←YL];omega
 rw [e,hy,Nat.mul_mod x x,hx,←Nat.mul_mod,←Nat.pow_add]
theorem Mb:(#[.int .u64 1,.int .u64 0,.int .u64 0,.int .u64 0]:Array Value)=(nl 1).toArray:=by kernel_rfl
def pX (a b:Nat):Nat→Nat
 | 0=>1
 | j+1=>if b/2 ^ (255 - j) % 2=1 then fX (fO (fX (fO (pX a b j*pX a b j))*a)) else fX (fO (pX a b j*pX a b j))
theorem Kx {a b m x y z:Nat} (hm:m<256) (hx:x=pX a b (256 - (m+1))) (hy:y=fX (fO (x*x))) (hz:z=fX (fO (y*a))) (hb:b/2 ^ m % 2=1):z=pX a b (256 - m):=by
 have e:256 - m=(256 - (m+1))+1:=by omega
 rw [e,pX,show 255 - (256 - (m+1))=m by omega,if_pos hb,←hx,←hy,hz]
theorem E3 {a b m x y:Nat} (hm:m<256) (hx:x=pX a b (256 - (m+1))) (hy:y=fX (fO (x*x))) (hb:b/2 ^ m % 2=0):y=pX a b (256 - m):=by
 have e:256 - m=(256 - (m+1))+1:=by omega
 rw [e,pX,show 255 - (256 - (m+1))=m by omega,if_neg (by omega),←hx,hy]
structure PW (w:World) (a b g:Nat) (wr:World) (x:Nat):Prop where
 ss:SS w [(w.heap.size,nl a,68),(w.heap.size+1,nl b,68)] (w.heap.size+1+1) 4 wr
 out:wr.heap[g]? = some (.cells (nl x).toArray 68 (0,0))
 hg:w.heap.size+1+1<g
theorem PW.call {w wr w':World} {a b g x:Nat} (h:PW w a b g wr x) (hb:Below wr.heap.size wr w'):PW w a b g w' x:=⟨h.ss.call hb,cS hb h.out,h.hg⟩
theorem PW.put {w wr:World} {a b g x:Nat} (h:PW w a b g wr x) (y:Nat):PW w a b g (kX wr g (.int .u64 (lw y 0)) (.int .u64 (lw y 1)) (.int .u64 (lw y 2)) (.int .u64 (lw y 3))) y:=by
 have hg:=h.hg
 exact ⟨⟨jM h.ss.below (by omega) _ _ _ _,fun i q L t hm=>(kP _ _ _ _ _ _ _ (by
  have:=ne2 (r:=g) (x:=(nl a,68)) (x':=(nl b,68)) (show ¬ w.heap.size=g by omega) (show ¬ w.heap.size+1=g by omega) _ (List.mem_of_getElem? hm)
  exact this)).trans (h.ss.holds i q L t hm),World.there_setCells h.ss.there g 0 (nl y)⟩,eV _ _ _ _ h.out,h.hg⟩
set_option maxRecDepth 100000 in
set_option maxHeartbeats 4000000 in
theorem mf (a b:Nat) (ha:a<RN) (hb:b<RN) (w:World) :
  Calls Tryz.prog 122 #[.agg (nl a).toArray,.agg (nl b).toArray] w fun e w' => ∃ s,s<RN∧e = .returned (.agg (nl s).toArray)∧(s % pp=a ^ b % pp∧s=pX a b 256)∧Below w.heap.size w w':=by
 have HS0:Hid (SS w [(w.heap.size,nl a,68),(w.heap.size+1,nl b,68)] (w.heap.size+1+1) 4 _):=SS.duo w a b
 have tm:=iV
 have sm:=nt 1
 rw [Mb] at sm
 go_enter Tryz.func122,Tryz.ntmps122
 go_wp2_with fail
 refine (sm _).mono ?_
 rintro e w1 ⟨rfl,hb1⟩
 have S1:=HS0.out.call hb1
 obtain ⟨g,hg⟩ : ∃ g,g=w1.heap.size:=⟨_,rfl⟩
 have hgR:w.heap.size+1+1<g:=by rw [hg];exact S1.rlt
 have HP0:Hid (PW w a b g (w1.alloc (.cells (nl 1).toArray 68)) 1):=⟨S1.alloc _,aj _ _ _ hg,hgR⟩
 clear hb1 S1 HS0
 go_wp2
 rw [←hg]
 clear hg
 go_loopw [6] (fun i wr => ∃ k x:Nat,k≤256∧i = .int .i64 ((k:Int) - 1)∧x<RN∧(x % pp=a ^ (b/2 ^ k) % pp∧x=pX a b (256 - k))∧PW w a b g wr x) (fun i _=>(intOf i+1).toNat)
 case atStart=>exact ⟨256,1,by omega,rfl,by decide,⟨by rw [Nat.div_eq_of_lt (show b<2 ^ 256 from hb),Nat.pow_zero],rfl⟩,HP0.out⟩
 case round =>
  obtain ⟨k,x,hk,rfl,hx,ex,hp⟩:=hrel
  have HP:Hid (PW w a b g wr x):=hp
  have HX:Hid (x % pp=a ^ (b/2 ^ k) % pp∧x=pX a b (256 - k)):=ex
  obtain ⟨c0,c1,c2,c3,f0,f1,f2,f3⟩:=four hp.out
  clear ex hp
  rcases k with _ | m
  ·have HT:Hid (wr.there (w.heap.size+1+1) 0 4):=HP.out.ss.there
   have HB:Hid (Below w.heap.size w wr):=HP.out.ss.below
   have HE:Hid (x % pp=a ^ b % pp∧x=pX a b 256):=by have:=HX.out;rwa [Nat.pow_zero,Nat.div_one] at this
   rw [show (((0:Nat):Int) - 1) = -1 from rfl]
   go_wp2_with (refine wpList_store_mid rfl 68 _ _ rfl (w.heap.size+1+1) 0 (nl x).toArray rfl rfl HT.out (r4 _) (bu _) ?_)
   refine bodyPost_ret (v := .agg (nl x).toArray) (aN Tryz.results122 _ _ (w.heap.size+1+1) 0 (nl x) _ rfl (World.rangeAt_setCells_same _ _ _ _ HT.out) Tryz.underlying68 rfl (r4 _)) rfl ⟨x,hx,rfl,HE.out,af _ (by omega) _ _ _ HB.out⟩
  ·rw [show (((m+1:Nat):Int) - 1)=(m:Int) by omega]
   have hm0:(0:Int)≤(m:Int):=by omega
   have hm64:(m:Int)/64<4:=by omega
   have hm64':m/64<4:=by omega
   go_wp2_with fail
   refine (tm x x hx hx _).mono ?_
   rintro e w2 ⟨y,hy,rfl,ey,hb2⟩
   have P2:=HP.out.call hb2
   have HP2:Hid (PW w a b g w2 x):=P2
   have cb:w2.cell? ⟨w.heap.size+1,m/64,none⟩=some (.int .u64 (lw b (m/64))):=iZ (P2.ss.holds 1 _ _ _ rfl) hm64'
   clear c0 c1 c2 c3 f0 f1 f2 f3
   obtain ⟨c0,c1,c2,c3,f0,f1,f2,f3⟩:=four P2.out
   obtain ⟨d0,d1,d2,d3,d4,d5,d6,d7⟩:=four (P2.ss.holds 0 _ _ _ rfl)
   have na : ¬ g=w.heap.size:=by omega
   have na' : ¬ w.heap.size=g:=by omega
   have nb : ¬ g=w.heap.size+1:=by omega
   have nb' : ¬ w.heap.size+1=g:=by omega
   have hbit:=LB b m
   have HEY:Hid (y % pp=x*x % pp∧y=fX (fO (x*x))):=ey
   clear hb2 P2 ey
   by_cases hbb:b/2 ^ m % 2=1
   ·rw [hbb] at hbit
    go_wp2_with fail
    refine (tm y a hy ha _).mono ?_
    rintro e w3 ⟨z,hz,rfl,ez,hb3⟩
    have P3:PW w a b g w3 y:=(HP2.out.put y).call hb3
    have HP3:Hid (PW w a b g w3 y):=P3
    have HZ:Hid (z % pp=a ^ (b/2 ^ m) % pp∧z=pX a b (256 - m)):=⟨yF a b m x y z HX.out.1 HEY.out.1 ez.1 hbb,Kx (by omega) HX.out.2 HEY.out.2 ez.2 hbb⟩
    clear c0 c1 c2 c3 f0 f1 f2 f3 d0 d1 d2 d3 d4 d5 d6 d7 cb hb3 ez
    obtain ⟨c0,c1,c2,c3,f0,f1,f2,f3⟩:=four P3.out
    clear P3
    go_wp2
    go_roundw
    case rel=>exact ⟨m,z,by omega,by go_num,hz,HZ.out,HP3.out.put z⟩
    case measure=>simp [intOf]
   ·have hb0:b/2 ^ m % 2=0:=by omega
    rw [hb0] at hbit
    have HZ:Hid (y % pp=a ^ (b/2 ^ m) % pp∧y=pX a b (256 - m)):=⟨rH a b m x y HX.out.1 HEY.out.1 hb0,E3 (by omega) HX.out.2 HEY.out.2 hb0⟩
    go_wp2
    go_roundw
    case rel=>exact ⟨m,y,by omega,by go_num,hy,HZ.out,HP2.out.put y⟩
    case measure=>simp [intOf]
theorem w8 (a b:Nat) (ha:a<RN) (hb:b<RN) (w:World) :
  Calls Tryz.prog 122 #[.agg (nl a).toArray,.agg (nl b).toArray] w fun e w' => ∃ s,s<RN∧e = .returned (.agg (nl s).toArray)∧s % pp=a ^ b % pp∧Below w.heap.size w w' :=
 (mf a b ha hb w).mono fun e w' ⟨s,h1,h2,h3,h4⟩=>⟨s,h1,h2,h3.1,h4⟩
end Go.Proofs.YtajehiidpecknaaGreatDoor
namespace Go.Proofs.YtajehiidpecknaaGreatDoor
open Go Go.RowKit Go.Lib
set_option maxRecDepth 100000
theorem Pj:(#[.int .u64 18446744073709551595,.int .u64 18446744073709551615,.int .u64 18446744073709551615,.int .u64 9223372036854775807]:Array Value)=(nl (pp - 2)).toArray:=by kernel_rfl
theorem SS.num1 (w:World) (a:Nat):SS w [(w.heap.size,nl a,68)] (w.heap.size+1) 4 ((w.alloc (.cells (nl a).toArray 68)).alloc (.cells #[.int .u64 0,.int .u64 0,.int .u64 0,.int .u64 0] 68)):=by
 refine ⟨((Below.refl _ _).alloc (Nat.le_refl _) _).alloc (by simp) _,?_,aw (aj _ _ _ (by simp)) 0 4 (by simp)⟩
 intro i g L t hm
 match i,hm with
 | 0,hm =>
  cases hm
  exact (az _ _ _ (by simp)).trans (aj _ _ _ rfl)
set_option maxRecDepth 100000 in
set_option maxHeartbeats 2000000 in
theorem pz (a:Nat) (ha:a<RN) (w:World) :
  Calls Tryz.prog 88 #[.agg (nl a).toArray] w fun e w' => ∃ s,s<RN∧e = .returned (.agg (nl s).toArray)∧(s % pp=a ^ (pp - 2) % pp∧s=pX a (pp - 2) 256)∧Below w.heap.size w w':=by
 have HS0:Hid (SS w [(w.heap.size,nl a,68)] (w.heap.size+1) 4 _):=SS.num1 w a
 have rp:=jN
 rw [←Nx] at rp
 have pw : ∀ w,Calls Tryz.prog 122 #[.agg (nl a).toArray,.agg #[.int .u64 18446744073709551595,.int .u64 18446744073709551615,.int .u64 18446744073709551615,.int .u64 9223372036854775807]] w fun e w' => ∃ s,s<RN∧e = .returned (.agg (nl s).toArray)∧(s % pp=a ^ (pp - 2) % pp∧s=pX a (pp - 2) 256)∧Below w.heap.size w w':=fun w=>by
  rw [Pj];exact mf a (pp - 2) ha (by decide) w
 go_enter Tryz.func88,Tryz.ntmps88
 go_wp2_with fail
 refine (rp _).mono ?_
 rintro e w1 ⟨rfl,hb1⟩
 have S1:=HS0.out.call hb1
 have lr:=S1.rlt
 have N1:=S1.holds 0 _ _ _ rfl
 have la:=lt_of_heap N1
 obtain ⟨c0,c1,c2,c3,f0,f1,f2,f3⟩:=four N1
 have HS1:Hid (SS w [(w.heap.size,nl a,68)] (w.heap.size+1) 4 (w1.alloc (.cells #[.int .u64 18446744073709551595,.int .u64 18446744073709551615,.int .u64 18446744073709551615,.int .u64 9223372036854775807] 68))):=S1.alloc _
 clear hb1 S1 N1 HS0
 go_wp2_with fail
 refine (pw _).mono ?_
 rintro e w2 ⟨s,hs,rfl,es,hb2⟩
 have S2:=HS1.out.call hb2
 have HT:Hid (w2.there (w.heap.size+1) 0 4):=S2.there
 have HB:Hid (Below w.heap.size w w2):=S2.below
 have HE:Hid (s % pp=a ^ (pp - 2) % pp∧s=pX a (pp - 2) 256):=es
 clear S2 hb2 es
 go_wp2_with (refine wpList_store_mid rfl 68 _ _ rfl (w.heap.size+1) 0 (nl s).toArray rfl rfl HT.out (r4 _) (bu _) ?_)
 refine bodyPost_ret (v := .agg (nl s).toArray) (aN Tryz.results88 _ _ (w.heap.size+1) 0 (nl s) _ rfl (World.rangeAt_setCells_same _ _ _ _ HT.out) Tryz.underlying68 rfl (r4 _)) rfl ⟨s,hs,rfl,HE.out,af _ (by omega) _ _ _ HB.out⟩
set_option maxRecDepth 100000 in
set_option maxHeartbeats 1000000 in
theorem fe (a:Nat) (ha:a<RN) (w:World) :
  Calls Tryz.prog 82 #[.agg (bl a).toArray] w fun e w'=>e = .returned (.bool (decide (a<pp)))∧Below w.heap.size w w':=by
 have HS:Hid (HH w [(w.heap.size,bl a,22)] (w.alloc (.cells (bl a).toArray 22))):=HH.one w _ _
 have HC:Hid (World.rangeAt _ w.heap.size 0 (bl a)):=HS.out.range (i:=0) rfl
 have hza:(bl a).toArray.size=32:=aM a
 go_enter Tryz.func82,Tryz.ntmps82
 go_wp2_with (refine wpList_load_mid rfl 22 _ rfl w.heap.size 0 rfl (bl a) _ HC.out Tryz.underlying22 rfl (i32 a) ?_)
 refine (qM a ha _).mono ?_
 rintro e w1 ⟨rfl,hb1⟩
 have S1:Hid (Below w.heap.size w w1):=chain HS.out.below hb1
 clear HC HS hb1
 go_wp2_with fail
 refine (jN _).mono ?_
 rintro e w2 ⟨rfl,hb2⟩
 have S2:Hid (Below w.heap.size w w2):=chain S1.out hb2
 clear hb2
 go_wp2_with fail
 refine (p6 a pp ha mh _).mono ?_
 rintro e w3 ⟨rfl,hb3⟩
 have S3:Hid (Below w.heap.size w w3):=chain S2.out hb3
 clear hb3
 go_wp2
 go_ret
 exact ⟨rfl,S3.out⟩
end Go.Proofs.YtajehiidpecknaaGreatDoor
