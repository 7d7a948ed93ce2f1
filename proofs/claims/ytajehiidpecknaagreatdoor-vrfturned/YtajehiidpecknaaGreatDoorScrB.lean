import Derived.Test.YtajehiidpecknaaGreatDoorScrA
set_option linter.all false
namespace Go.Proofs.YtajehiidpecknaaGreatDoor.Sc
open Go Go.RowKit
open Go Go.RowKit
def BO (n:Nat):Prop:=bl n=blm 32 (bsum (bl n))
theorem cX {n:Nat} (h:n<RN):bsum (bl n)=n:=by
 have:=kf 32 n
 rw [←iy,YK h] at this
 exact this
theorem y8 {n:Nat} (h:n<RN):BO n:=by unfold BO;rw [cX h];rfl
theorem Cr (n:Nat):sfun Tryz.prog Z2 60 Tryz.f39 (ag Tryz.f39) [bv n]=some ([BO n,IsN (nv (bsum (bl n)))∧IsN (nv LN)],.bool (decide (num (nv (bsum (bl n)))<num (nv LN)))):=by kernel_rfl
theorem fe (n:Nat) (h:n<RN) (w:World):Calls Tryz.prog 39 #[bv n] w fun e w'=>e = .returned (.bool (decide (n<LN)))∧Below w.heap.size w w':=by
 have run:=Cr n
 rw [cX h,ak h,ak (n:=LN) (by decide)] at run
 refine aq mo mixed Tryz.func39 (by kernel_rfl) run ?_ (by simp [aB]) (.inl rfl) w
 intro p hp
 simp only [List.mem_cons,List.not_mem_nil,or_false] at hp
 rcases hp with rfl | rfl
 ·exact y8 h
 ·exact ⟨aI _,aI _⟩
theorem CW (n:Nat):sfun Tryz.prog Z2 60 Tryz.f66 (ag Tryz.f66) [xK n]=some ([64≤1000∧blm 64 n=blm 64 (bsum (blm 64 n)),IsN (nv (bsum (blm 64 n) % LN))],bv (num (nv (bsum (blm 64 n) % LN)))):=by kernel_rfl
theorem vE (n:Nat) (h:n<RN*RN) (w:World):Calls Tryz.prog 66 #[xK n] w fun e w'=>e = .returned (bv (n % LN))∧Below w.heap.size w w':=by
 have run:=CW n
 have e:bsum (blm 64 n)=n:=by rw [kf,←GZ,YK h]
 rw [e,ak (ltL _)] at run
 refine aq mo mixed Tryz.func66 (by kernel_rfl) run ?_ (by simp [qP]) (.inl (aB _)) w
 intro p hp
 simp only [List.mem_cons,List.not_mem_nil,or_false] at hp
 rcases hp with rfl | rfl
 ·simp
 ·exact aI _
theorem xx:32≤1000:=by decide
def uhd (ty22 ty41 a b c:Nat) (i:Int) (x y o:Nat):Act × Mem :=
 (⟨Array.replicate 3 cT ++ #[.pointer (some ⟨0,0,none⟩),.pointer (some ⟨1,0,none⟩),.pointer (some ⟨2,0,none⟩),.pointer (some ⟨3,0,none⟩),.pointer (some ⟨4,0,none⟩),.pointer (some ⟨5,0,none⟩),.pointer (some ⟨6,0,none⟩),.int .i64 i] ++ Array.replicate 29 cT,[]⟩,
  [some ⟨bl a,ty22⟩,some ⟨bl b,ty22⟩,some ⟨bl c,ty22⟩,some ⟨bl 0,ty22⟩,some ⟨(na x).toList,ty41⟩,some ⟨(na y).toList,ty41⟩,some ⟨(na o).toList,ty41⟩])
def uF:List Nat:=[0,1,2,11,12,13,14,15,16,17,18,19,20,21,22,23,24,25,26,27,28,29,30,31,32,33,34,35,36,37,38,39]
def uK (s:Act × Mem):Act × Mem:=(forgetL s.1 uF,s.2)
def uLB (fn:Func):Code:=cL (cL (cR (cL (cR (cR (cR (ag fn)))))))
def uT (fn:Func):Code:=cR (cR (cR (cR (ag fn))))
def Zu (dec:List (Nat × Bool)):Cx:=Z2.terms.tell dec
theorem ED (dec:List (Nat × Bool)):(Zu dec).Ok Tryz.prog:=Cx.tell_ok (Cx.terms_ok mo) dec
def us1 (P:Program) (fn:Func) (a b c:Nat):Act × Mem:=cQ P Z2 20 (cL (ag fn)) (bS fn [bv a,bv b,bv c],[])
def us2 (P:Program) (fn:Func) (a b c:Nat):Act × Mem:=cQ P Z2 20 (cL (cR (ag fn))) (us1 P fn a b c)
def us3 (P:Program) (fn:Func) (a b c:Nat):Act × Mem:=cQ P Z2 20 (cL (cR (cR (ag fn)))) (us2 P fn a b c)
def us4 (P:Program) (fn:Func) (a b c:Nat):Act × Mem:=cQ P Z2 20 (cL (cL (cR (cR (cR (ag fn)))))) (us3 P fn a b c)
theorem ON (a b c:Nat):sexec Tryz.prog Z2 20 (cL (ag Tryz.f33)) [] (bS Tryz.f33 [bv a,bv b,bv c],[])=some ([],.normal,us1 Tryz.prog Tryz.f33 a b c):=by kernel_rfl
theorem OD (a b c:Nat):sexec Tryz.prog Z2 20 (cL (cR (ag Tryz.f33))) [] (us1 Tryz.prog Tryz.f33 a b c)=some ([32≤1000∧BO a,32≤1000∧BO b],.normal,us2 Tryz.prog Tryz.f33 a b c):=by kernel_rfl
theorem PZ (a b c:Nat):sexec Tryz.prog Z2 20 (cL (cR (cR (ag Tryz.f33)))) [] (us2 Tryz.prog Tryz.f33 a b c)=some ([],.normal,us3 Tryz.prog Tryz.f33 a b c):=by kernel_rfl
theorem O6 (a b c:Nat):sexec Tryz.prog Z2 20 (cL (cL (cR (cR (cR (ag Tryz.f33)))))) [] (us3 Tryz.prog Tryz.f33 a b c)=some ([],.normal,us4 Tryz.prog Tryz.f33 a b c):=by kernel_rfl
theorem u_h (a b c:Nat):uK (us4 Tryz.prog Tryz.f33 a b c)=uhd 22 97 a b c 255 (bsum (bl a) % LN) (bsum (bl b) % LN) 0:=by kernel_rfl
def qJ (i:Int):Int:=IntKind.i64.wrap (Int.tdiv i 64)
def uJ (i:Int):Int:=IntKind.u64.wrap (Int.tmod i 64)
def xJ (x:Nat) (i:Int):Int:=j8 (na x).toList (0+(qJ i).toNat*1)
def btJ (x:Nat) (i:Int):Int:=bits .and .u64 (Int.fdiv (xJ x i) (2 ^ min (uJ i).toNat 64)) 1
def uO (x:Nat) (i:Int):List Prop:=[0≤qJ i∧qJ i<((4:Nat):Int),(na x).toList[0+(qJ i).toNat*1]? = some (.int .u64 (xJ x i)),0≤uJ i]
def Kd (o y:Nat):Nat:=(num (nv (dbl o))+num (nv y)) % LN
theorem u_t (a b c:Nat) (i:Int) (x y o:Nat):proj uK (sexec Tryz.prog (Zu [(16,true),(31,true)]) 40 (uLB Tryz.f33) [] (uhd 22 97 a b c i x y o))=some ([decide (i≥0)=true,okL (nv o)∧okL (nv o)] ++ uO x i ++ [(btJ x i == 1)=true,okL (nv (dbl o))∧okL (nv y)],uhd 22 97 a b c (dn i) x y (Kd o y)):=by kernel_rfl
theorem u_f (a b c:Nat) (i:Int) (x y o:Nat):proj uK (sexec Tryz.prog (Zu [(16,true),(31,false)]) 40 (uLB Tryz.f33) [] (uhd 22 97 a b c i x y o))=some ([decide (i≥0)=true,okL (nv o)∧okL (nv o)] ++ uO x i ++ [(btJ x i == 1)=false],uhd 22 97 a b c (dn i) x y (dbl o)):=by kernel_rfl
def uX (P:Program) (fn:Func) (ty22 ty41 a b c:Nat) (i:Int) (x y o:Nat):Act × Mem:=cQ P (Zu [(16,false)]) 40 (uLB fn) (uhd ty22 ty41 a b c i x y o)
def uZ (P:Program) (fn:Func) (ty22 ty41 a b c:Nat) (i:Int) (x y o:Nat):Act × Mem:=cQ P Z2 40 (uT fn) (uX P fn ty22 ty41 a b c i x y o)
theorem u_x (a b c:Nat) (i:Int) (x y o:Nat):sexec Tryz.prog (Zu [(16,false)]) 40 (uLB Tryz.f33) [] (uhd 22 97 a b c i x y o)=some ([decide (i≥0)=false],.exit 0,uX Tryz.prog Tryz.f33 22 97 a b c i x y o):=by kernel_rfl
def fin (o c:Nat):Nat:=(num (nv o)+num (nv (bsum (bl c) % LN))) % LN
theorem u_z (a b c:Nat) (i:Int) (x y o:Nat):sexec Tryz.prog Z2 40 (uT Tryz.f33) [] (uX Tryz.prog Tryz.f33 22 97 a b c i x y o)=some ([32≤1000∧BO c,okL (nv o)∧okL (nv (bsum (bl c) % LN)),IsN (nv (fin o c))],.ret,uZ Tryz.prog Tryz.f33 22 97 a b c i x y o):=by kernel_rfl
theorem u_r (a b c:Nat) (i:Int) (x y o:Nat):sres Tryz.prog Tryz.f33 (uZ Tryz.prog Tryz.f33 22 97 a b c i x y o)=some (bv (num (nv (fin o c)))):=by kernel_rfl
theorem u_d (a b c:Nat) (i:Int) (x y o:Nat):(uZ Tryz.prog Tryz.f33 22 97 a b c i x y o).1.defers = []:=by kernel_rfl
theorem NA (x:Nat) (hx:x<18446744073709551616):bits .and .u64 (x:Int) 1=((x % 2:Nat):Int):=by
 have h:=bits_and_u64_nat x 1 hx (by omega)
 rw [Nat.and_one_is_mod] at h
 exact h
theorem Np (x j:Nat) (hj:j<256):(∀ p ∈ uO x (j:Int),p)∧btJ x (j:Int)=((x/2 ^ j % 2:Nat):Int):=by
 have hq:qJ (j:Int)=((j/64:Nat):Int):=by
  unfold qJ
  rw [Int.tdiv_eq_ediv_of_nonneg (by omega),wrap64 _ (by omega) (by omega)]
  omega
 have hu:uJ (j:Int)=((j % 64:Nat):Int):=by
  unfold uJ
  rw [Int.tmod_eq_emod_of_nonneg (by omega),yr _ (by omega) (by omega)]
  omega
 have hidx:0+(qJ (j:Int)).toNat*1=j/64:=by rw [hq];omega
 have hget:(na x).toList[j/64]? = some (.int .u64 (lw x (j/64))):=by
  have h4:j/64=0∨j/64=1∨j/64=2∨j/64=3:=by omega
  rcases h4 with e | e | e | e <;> rw [e] <;> rfl
 have hx:xJ x (j:Int)=lw x (j/64):=by unfold xJ j8;rw [hidx,hget]
 refine ⟨?_,?_⟩
 ·intro p hp
  simp only [uO,List.mem_cons,List.not_mem_nil,or_false] at hp
  rcases hp with rfl | rfl | rfl
  ·rw [hq];omega
  ·rw [hx,hidx];exact hget
  ·rw [hu];omega
 ·unfold btJ
  rw [hx,hu,Int.toNat_natCast,Nat.min_eq_left (by omega)]
  unfold lw
  rw [eB,NA _ (by
   have:x/18446744073709551616 ^ (j/64) % 18446744073709551616<18446744073709551616:=Nat.mod_lt _ (by decide)
   exact Nat.lt_of_le_of_lt (Nat.div_le_self _ _) this)]
  congr 1
  have e:(2:Nat) ^ j=18446744073709551616 ^ (j/64)*2 ^ (j % 64):=by
   rw [show (18446744073709551616:Nat)=2 ^ 64 from rfl,←Nat.pow_mul,←Nat.pow_add,Nat.div_add_mod]
  rw [e,←YL]
  generalize x/18446744073709551616 ^ (j/64)=y
  have h8:j % 64<64:=Nat.mod_lt _ (by decide)
  have e2:(18446744073709551616:Nat)=2 ^ (j % 64)*(2*2 ^ (63 - j % 64)):=by
   rw [←Nat.pow_succ',←Nat.pow_add,show j % 64+(63 - j % 64).succ=64 by omega]
  rw [e2,Nat.mod_mul_right_div_self,Nat.mod_mul_right_mod]
theorem FH {o y:Nat} (h:o<LN) (hy:y<LN):Kd o y=(o+o+y) % LN:=by
 have h2:dbl o<LN:=Nat.mod_lt _ (by decide)
 unfold Kd
 rw [ak (cC h2),ak (cC hy),tu h,Nat.mod_add_mod]
theorem uV (x y j b:Nat) (h:x/2 ^ j % 2=b):(x/2 ^ (j+1)*y % LN+x/2 ^ (j+1)*y % LN+b*y) % LN=x/2 ^ j*y % LN:=by
 rw [rF x j,h]
 generalize x/2 ^ (j+1)=q
 rw [Nat.add_mul,Nat.add_mul]
 generalize q*y=z
 rw [Nat.add_mod (z % LN+z % LN) (b*y),←Nat.add_mod z z,←Nat.add_mod]
theorem Kf (a b c:Nat) (ha:a<RN) (hb:b<RN) (hc:c<RN):SW Tryz.prog [] (ag Tryz.f33) (bS Tryz.f33 [bv a,bv b,bv c],[]) (xE Tryz.prog Tryz.f33 [] fun v=>v=bv ((a*b+c) % LN)):=by
 refine SW.seqC (by kernel_rfl) (SW.run mo mixed 20 (ON a b c) (by simp) ?_)
 refine SW.seqC (by kernel_rfl) (SW.run mo mixed 20 (OD a b c) ?_ ?_)
 ·intro p hp
  simp only [List.mem_cons,List.not_mem_nil,or_false] at hp
  rcases hp with rfl | rfl
  ·exact ⟨xx,y8 ha⟩
  ·exact ⟨xx,y8 hb⟩
 refine SW.seqC (by kernel_rfl) (SW.run mo mixed 20 (PZ a b c) (by simp) ?_)
 refine SW.seqC (by kernel_rfl) (SW.seqC (by kernel_rfl) (SW.run mo mixed 20 (O6 a b c) (by simp) ?_))
 show SW Tryz.prog [] (cR (cL (cR (cR (cR (ag Tryz.f33)))))) (us4 Tryz.prog Tryz.f33 a b c) (thenS (fun s'=>SW Tryz.prog [] (uT Tryz.f33) s' _) _)
 refine SW.blockC (by kernel_rfl) ?_
 have hci:cI (cR (cL (cR (cR (cR (ag Tryz.f33))))))=0:=by kernel_rfl
 rw [hci]
 have hlt:a % LN<LN:=Nat.mod_lt _ (by decide)
 have hy:b % LN<LN:=Nat.mod_lt _ (by decide)
 refine SW.loopC (by kernel_rfl) (fun k s=>k≤256∧uK s=uhd 22 97 a b c ((k:Int) - 1) (a % LN) (b % LN) (a % LN/2 ^ k*(b % LN) % LN)) 256 ⟨Nat.le_refl _,?_⟩ ?_
 ·rw [u_h,cX ha,cX hb]
  have e2:a % LN/2 ^ 256=0:=Nat.div_eq_of_lt (YI hlt (by decide))
  rw [e2,Nat.zero_mul]
  rfl
 ·rintro k s ⟨hk,hs⟩
  refine SW.forget (a:=s.1) (m:=s.2) uF ?_
  show SW Tryz.prog [] (uLB Tryz.f33) (uK s) _
  rw [hs]
  have ho:a % LN/2 ^ k*(b % LN) % LN<LN:=Nat.mod_lt _ (by decide)
  cases k with
  | zero =>
   refine SW.run (ED _) mixed 40 (u_x a b c _ _ _ _) (by simp) ?_
   show SW Tryz.prog [] (uT Tryz.f33) _ _
   refine SW.run mo mixed 40 (u_z a b c _ _ _ _) ?_ ⟨.inr rfl,u_d _ _ _ _ _ _ _,_,_,u_r _ _ _ _ _ _ _,.inl (aB _),(List.nil_append _).symm,?_⟩
   ·intro p hp
    simp only [List.mem_cons,List.not_mem_nil,or_false] at hp
    rcases hp with rfl | rfl | rfl
    ·exact ⟨xx,y8 hc⟩
    ·exact ⟨dz ho,dz (Nat.mod_lt _ (by decide))⟩
    ·exact aI _
   ·unfold fin
    rw [cX hc,ak (ltL c),ak (cC ho),ak (ltL _),Nat.pow_zero,Nat.div_one,←Nat.mul_mod,←Nat.add_mod]
  | succ j =>
   have hi:((j+1:Nat):Int) - 1=(j:Int):=by omega
   rw [hi]
   obtain ⟨hO,hb⟩:=Np (a % LN) j (by omega)
   have hdn:dn (j:Int)=(j:Int) - 1:=by unfold dn;exact wrap64 _ (by omega) (by omega)
   have hge:decide ((j:Int)≥0)=true:=decide_eq_true (by omega)
   have hd:dbl (a % LN/2 ^ (j+1)*(b % LN) % LN)<LN:=Nat.mod_lt _ (by decide)
   by_cases hbit:a % LN/2 ^ j % 2=1
   ·obtain ⟨s',h1,h2⟩:=bD (u_t a b c (j:Int) (a % LN) (b % LN) (a % LN/2 ^ (j+1)*(b % LN) % LN))
    refine SW.run (ED _) mixed 40 h1 ?_ ⟨j,by omega,by omega,?_⟩
    ·intro p hp
     rcases List.mem_append.1 hp with hp | hp
     ·rcases List.mem_append.1 hp with hp | hp
      ·simp only [List.mem_cons,List.not_mem_nil,or_false] at hp
       rcases hp with rfl | rfl
       ·exact hge
       ·exact ⟨dz ho,dz ho⟩
      ·exact hO p hp
     ·simp only [List.mem_cons,List.not_mem_nil,or_false] at hp
      rcases hp with rfl | rfl
      ·rw [hb,hbit];rfl
      ·exact ⟨dz hd,dz hy⟩
    ·have:=uV (a % LN) (b % LN) j 1 hbit
     rw [Nat.one_mul] at this
     rw [h2,hdn,FH ho hy,this]
   ·have hbit0:a % LN/2 ^ j % 2=0:=by omega
    obtain ⟨s',h1,h2⟩:=bD (u_f a b c (j:Int) (a % LN) (b % LN) (a % LN/2 ^ (j+1)*(b % LN) % LN))
    refine SW.run (ED _) mixed 40 h1 ?_ ⟨j,by omega,by omega,?_⟩
    ·intro p hp
     rcases List.mem_append.1 hp with hp | hp
     ·rcases List.mem_append.1 hp with hp | hp
      ·simp only [List.mem_cons,List.not_mem_nil,or_false] at hp
       rcases hp with rfl | rfl
       ·exact hge
       ·exact ⟨dz ho,dz ho⟩
      ·exact hO p hp
     ·simp only [List.mem_cons,List.not_mem_nil,or_false] at hp
      rcases hp with rfl
      rw [hb,hbit0];rfl
    ·have:=uV (a % LN) (b % LN) j 0 hbit0
     rw [Nat.zero_mul,Nat.add_zero] at this
     rw [h2,hdn,tu ho,this]
theorem va (a b c:Nat) (ha:a<RN) (hb:b<RN) (hc:c<RN) (w:World):Calls Tryz.prog 33 #[bv a,bv b,bv c] w fun e w'=>e = .returned (bv ((a*b+c) % LN))∧Below w.heap.size w w':=by
 refine (cD (R:=fun v=>v=bv ((a*b+c) % LN)) Tryz.func33 (show _=some (ag Tryz.f33) from (by kernel_rfl)) (Kf a b c ha hb hc) (Rel.nil w) (by simp) (ej (args:=[bv a,bv b,bv c]) (by simp [aB]))).mono ?_
 rintro e w' ⟨v,rfl,rfl,hb⟩
 exact ⟨rfl,hb⟩
end Go.Proofs.YtajehiidpecknaaGreatDoor.Sc
