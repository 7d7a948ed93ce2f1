/- The reference's words: eight shifts, rotations the other way round. -/
import Derived.Test.YtlihbglpdkeppaaGreatDoorShfT
import Derived.Laws.Bits64b
import Derived.Test.YtlihbglpdkeppaaGreatDoorMemN
set_option linter.unusedSimpArgs false
set_option linter.unusedVariables false
namespace Go.Proofs.YtlihbglpdkeppaaGreatDoor.Shf
open Go Go.RowKit
theorem bor_comm (a b:Int):bits .or .u64 a b=bits .or .u64 b a:=by
 show IntKind.u64.wrap ((BitVec.ofInt 64 a ||| BitVec.ofInt 64 b).toNat:Int)=IntKind.u64.wrap ((BitVec.ofInt 64 b ||| BitVec.ofInt 64 a).toNat:Int)
 rw [BitVec.or_comm]
def rotR (n:Nat) (x:Int):Int:=bits .or .u64 (Int.fdiv x (2 ^ n)) (IntKind.u64.wrap (x*2 ^ (64 - n)))
theorem rotR_eq (n:Nat) (x:Int):rotR n x=rotP n x:=bor_comm _ _
theorem or_u32 (a b:Nat) (ha:a<4294967296) (hb:b<4294967296):bits .or .u32 (a:Int) (b:Int)=((a ||| b:Nat):Int):=by
 have hx:a ||| b<2 ^ 32:=Nat.or_lt_two_pow (by omega) (by omega)
 have h1:(BitVec.ofInt 32 (a:Int)).toNat=a:=by
  rw [BitVec.ofInt_natCast,BitVec.toNat_ofNat];exact Nat.mod_eq_of_lt (by omega)
 have h2:(BitVec.ofInt 32 (b:Int)).toNat=b:=by
  rw [BitVec.ofInt_natCast,BitVec.toNat_ofNat];exact Nat.mod_eq_of_lt (by omega)
 show IntKind.u32.wrap ((BitVec.ofInt 32 (a:Int) ||| BitVec.ofInt 32 (b:Int)).toNat:Int)=_
 rw [BitVec.toNat_or,h1,h2,IntKind.wrap_u32]
 omega
theorem or_add (k a b:Nat) (h:b<2 ^ k):2 ^ k*a ||| b=2 ^ k*a+b:=(Nat.two_pow_add_eq_or_of_lt h a).symm
def sh8 (x y:Int):Int:=bits .or .u64 (IntKind.u64.wrap (x*2 ^ 8)) (IntKind.u64.wrap y)
def wS (y:Nat→Int):Nat→Int
 | 0=>0
 | k+1=>sh8 (wS y k) (y k)
def vN (y:Nat→Nat):Nat→Nat
 | 0=>0
 | k+1=>256*vN y k+y k
theorem sh8_nat {x y:Nat} (hx:x<72057594037927936) (hy:y<256):sh8 (x:Int) (y:Int)=((256*x+y:Nat):Int):=by
 unfold sh8
 have e1:IntKind.u64.wrap ((x:Int)*2 ^ 8)=((2 ^ 8*x:Nat):Int):=by rw [IntKind.wrap_u64];omega
 have e2:IntKind.u64.wrap (y:Int)=(y:Int):=by rw [IntKind.wrap_u64];omega
 rw [e1,e2,bits_or_u64_nat _ _ (by omega) (by omega),or_add 8 x y (by omega)]
theorem vN_lt (y:Nat→Nat) (h : ∀ i,i<8→y i<256) : ∀ k,k≤8→vN y k<256 ^ k
 | 0,_=>by simp [vN]
 | k+1,hk=>by
  have ih:=vN_lt y h k (by omega)
  have:=h k (by omega)
  simp only [vN]
  rw [Nat.pow_succ]
  omega
theorem wS_nat (y:Nat→Nat) (h : ∀ i,i<8→y i<256) : ∀ k,k≤8→wS (fun i=>(y i:Int)) k=(vN y k:Int)
 | 0,_=>rfl
 | k+1,hk=>by
  have ih:=wS_nat y h k (by omega)
  have hl:=vN_lt y h k (by omega)
  have hp:256 ^ k≤256 ^ 7:=Nat.pow_le_pow_right (by decide) (by omega)
  simp only [wS,vN]
  rw [ih,sh8_nat (by omega) (h k (by omega))]
theorem w32_nat (a b c d:Nat) (ha:a<256) (hb:b<256) (hc:c<256) (hd:d<256):w32 (a:Int) (b:Int) (c:Int) (d:Int)=((256*(256*(256*a+b)+c)+d:Nat):Int):=by
 unfold w32
 have e1:IntKind.u32.wrap (IntKind.u32.wrap (a:Int)*2 ^ 24)=((2 ^ 24*a:Nat):Int):=by rw [IntKind.wrap_u32,IntKind.wrap_u32];omega
 have e2:IntKind.u32.wrap (IntKind.u32.wrap (b:Int)*2 ^ 16)=((2 ^ 16*b:Nat):Int):=by rw [IntKind.wrap_u32,IntKind.wrap_u32];omega
 have e3:IntKind.u32.wrap (IntKind.u32.wrap (c:Int)*2 ^ 8)=((2 ^ 8*c:Nat):Int):=by rw [IntKind.wrap_u32,IntKind.wrap_u32];omega
 have e4:IntKind.u32.wrap (d:Int)=(d:Int):=by rw [IntKind.wrap_u32];omega
 rw [e1,e2,e3,e4,or_u32 _ _ (by omega) (by omega),or_add 24 a _ (by omega)]
 rw [show 2 ^ 24*a+2 ^ 16*b=2 ^ 16*(256*a+b) by omega,or_u32 _ _ (by omega) (by omega),or_add 16 _ _ (by omega)]
 rw [show 2 ^ 16*(256*a+b)+2 ^ 8*c=2 ^ 8*(256*(256*a+b)+c) by omega,or_u32 _ _ (by omega) (by omega),or_add 8 _ _ (by omega)]
theorem W64b_nat (y:Nat→Nat) (h : ∀ i,i<8→y i<256):W64b (fun i=>(y i:Int))=(vN y 8:Int):=by
 unfold W64b w32b
 simp only
 rw [w32_nat _ _ _ _ (h 0 (by omega)) (h 1 (by omega)) (h 2 (by omega)) (h 3 (by omega)),w32_nat _ _ _ _ (h 4 (by omega)) (h 5 (by omega)) (h 6 (by omega)) (h 7 (by omega))]
 have h0:=h 0 (by omega)
 have h1:=h 1 (by omega)
 have h2:=h 2 (by omega)
 have h3:=h 3 (by omega)
 have h4:=h 4 (by omega)
 have h5:=h 5 (by omega)
 have h6:=h 6 (by omega)
 have h7:=h 7 (by omega)
 generalize hA:256*(256*(256*y 0+y 1)+y 2)+y 3=A
 generalize hB:256*(256*(256*y 4+y 5)+y 6)+y 7=B
 have lA:A<4294967296:=by omega
 have lB:B<4294967296:=by omega
 have e1:IntKind.u64.wrap (IntKind.u64.wrap (A:Int)*2 ^ 32)=((2 ^ 32*A:Nat):Int):=by rw [IntKind.wrap_u64,IntKind.wrap_u64];omega
 have e2:IntKind.u64.wrap (B:Int)=(B:Int):=by rw [IntKind.wrap_u64];omega
 rw [e1,e2,bits_or_u64_nat _ _ (by omega) (by omega),or_add 32 A B (by omega)]
 simp only [vN]
 omega
theorem wS_congr {y y':Nat→Int} : ∀ k,(∀ i,i<k→y i=y' i)→wS y k=wS y' k
 | 0,_=>rfl
 | k+1,h=>by simp only [wS];rw [wS_congr k (fun i hi=>h i (by omega)),h k (by omega)]
theorem wS_eq {y:Nat→Int} (h : ∀ i,i<8→0≤y i∧y i<256):wS y 8=W64b y:=by
 have e : ∀ i,i<8→y i=(((y i).toNat:Nat):Int):=fun i hi=>by have:=h i hi;omega
 have hl : ∀ i,i<8→(y i).toNat<256:=fun i hi=>by have:=h i hi;omega
 rw [wS_congr 8 e,wS_nat (fun i=>(y i).toNat) hl 8 (by omega),←W64b_nat (fun i=>(y i).toNat) hl]
 exact W64b_congr fun i hi=>(e i hi).symm
end Go.Proofs.YtlihbglpdkeppaaGreatDoor.Shf
namespace Go.Proofs.YtlihbglpdkeppaaGreatDoor.Shf
open Go Go.RowKit
theorem byteT:ByteT Tryz.prog 23 5 (.int .u8 0):=⟨by kernel_rfl,by kernel_rfl,by kernel_rfl,by kernel_rfl⟩
def Nt:Cx:=Cx.none.terms
theorem Nt_ok:Nt.Ok Tryz.prog:=Cx.terms_ok Cx.none_ok
theorem Nt_gl:Nt.gl = []:=by kernel_rfl
def Ntt (d:List (Nat × Bool)):Cx:=Nt.tell d
theorem Ntt_ok (d:List (Nat × Bool)):(Ntt d).Ok Tryz.prog:=Cx.tell_ok Nt_ok d
theorem Ntt_gl (d:List (Nat × Bool)):(Ntt d).gl = []:=by kernel_rfl
def rowP (p:Nat→Int) (k:Nat):List Value:=(List.range k).map fun i => .int .u8 (p i)
theorem rowP_len (p:Nat→Int) (k:Nat):(rowP p k).length=k:=by simp [rowP]
theorem rowP_succ (p:Nat→Int) (k:Nat):rowP p (k+1)=rowP p k ++ [.int .u8 (p k)]:=by simp [rowP,List.range_succ]
theorem rowP_flat (p:Nat→Int) (k:Nat):(rowP p k).all flat1=true:=by
 refine List.all_eq_true.2 fun v hv => ?_
 obtain ⟨i,_,rfl⟩:=List.mem_map.1 hv
 rfl
theorem rowP_congr {p p':Nat→Int} {k:Nat} (h : ∀ i,i<k→p i=p' i):rowP p k=rowP p' k :=
 List.map_congr_left fun i hi=>by rw [h i (List.mem_range.1 hi)]
theorem rowP_get (p:Nat→Int) {k i:Nat} (h:i<k):(rowP p k)[i]? = some (.int .u8 (p i)):=by
 unfold rowP;rw [List.getElem?_map,List.getElem?_range h];rfl
def pdA (v:Sv) (k cap:Nat) (x8 x9:Value):Act:=⟨#[raw v.val,.int .i64 128,.int .i64 16,poison,poison,poison,poison,.slice (some ⟨0,0,none⟩) k cap,x8,x9] ++ Array.replicate 41 poison,[]⟩
def pdM (cells:List Value):Mem:=[some ⟨cells,⟨5,(0,0)⟩⟩]
def pF1:List Nat:=[3,4,5,6,8,9] ++ (List.range 41).map (· + 10)
def pF2:List Nat:=[3,4,5,6] ++ (List.range 41).map (· + 10)
def q0 (c:Code):Code:=cL c
def q1 (c:Code):Code:=cL (cR c)
def q2 (c:Code):Code:=cL (cR (cR c))
def q3 (c:Code):Code:=cL (cL (cR (cR (cR c))))
def q5 (c:Code):Code:=cL (cR (cR (cR (cR c))))
def q6 (c:Code):Code:=cL (cL (cR (cR (cR (cR (cR c))))))
def q7 (c:Code):Code:=cL (cL (cR (cL (cR (cR (cR (cR (cR c))))))))
def q7t (c:Code):Code:=cL (q7 c)
def q7b (c:Code):Code:=cL (cL (cR (q7 c)))
def q9 (c:Code):Code:=cL (q7b c)
def q10 (c:Code):Code:=cL (cR (q7b c))
def q11 (c:Code):Code:=cR (cR (q7b c))
def q8 (c:Code):Code:=cR (cR (q7 c))
def q12 (c:Code):Code:=cR (cR (cR (cR (cR (cR c)))))
def q3l (c:Code):Code:=cL (cL (cL (cR (cR (cR c)))))
theorem pd_code:bodyOf Tryz.f84 = .seq (q0 (bodyOf Tryz.f84)) (.seq (q1 (bodyOf Tryz.f84)) (.seq (q2 (bodyOf Tryz.f84)) (.seq (.block 0 (.loop (q3l (bodyOf Tryz.f84)))) (.seq (q5 (bodyOf Tryz.f84)) (.seq (.seq (q6 (bodyOf Tryz.f84)) (.block 2 (.loop (q7 (bodyOf Tryz.f84))))) (q12 (bodyOf Tryz.f84))))))):=by kernel_rfl
theorem pd_l1:q3l (bodyOf Tryz.f84) = .seq (cL (q3l (bodyOf Tryz.f84))) (.block 1 (cL (cR (q3l (bodyOf Tryz.f84))))):=by kernel_rfl
theorem pd_l2:q7 (bodyOf Tryz.f84) = .seq (q7t (bodyOf Tryz.f84)) (.seq (.block 3 (.seq (q9 (bodyOf Tryz.f84)) (.cond (.tmp 37) (q10 (bodyOf Tryz.f84)) (q11 (bodyOf Tryz.f84))))) (q8 (bodyOf Tryz.f84))):=by kernel_rfl
def pd0 (fn:Func) (v:Sv):Act × Mem:=(sinit fn [raw v.val,.int .i64 128,.int .i64 16],[])
def pd1 (P:Program) (fn:Func) (v:Sv):Act × Mem:=runL P Nt 10 [q0 (bodyOf fn)] (pd0 fn v)
theorem pd_pre (v:Sv):sexecL Tryz.prog Nt 10 [q0 (bodyOf Tryz.f84)] [] (pd0 Tryz.f84 v)=some ([],pd1 Tryz.prog Tryz.f84 v):=by kernel_rfl
variable {H:Ren→World→Prop} {Q:Exit→Act × Mem→Prop}
def PdQ (H:Ren→World→Prop) (v:Sv) (y:List Value) (k:Nat) (x8 x9:Value) (s':Act × Mem):Prop := ∃ cap' cells',OwnRow y cap' cells'∧Into H Tryz.prog [] (pdA v k cap' x8 x9,pdM cells') s'
theorem pd_a1 (hlow : ∀ r₀ w₀,H r₀ w₀→Low 0 r₀) (v:Sv) {n:Nat} {news:List Value} (hn:news.length=n) (hnf:news.all flat1=true) (hH : ∀ r₀ w₀,H r₀ w₀→WSrc v.val n news w₀∧apart r₀ v.val) (hsize:n≤140737488355328) :
  SWn H Tryz.prog [] (q1 (bodyOf Tryz.f84)) (pd1 Tryz.prog Tryz.f84 v) (thenS (PdQ H v news n poison poison) Q):=by
 have hx:(ahead Tryz.prog Nt (q1 (bodyOf Tryz.f84)) [0,1] (pd1 Tryz.prog Tryz.f84 v)).1.eval (.tmp 11)=raw v.val:=by kernel_rfl
 have hs:SrcS H Tryz.prog 23 (ahead Tryz.prog Nt (q1 (bodyOf Tryz.f84)) [0,1] (pd1 Tryz.prog Tryz.f84 v)).2 ((ahead Tryz.prog Nt (q1 (bodyOf Tryz.f84)) [0,1] (pd1 Tryz.prog Tryz.f84 v)).1.eval (.tmp 11)) n news:=by
  rw [hx]
  exact SrcS.raw byteT.ht hnf hH
 have h:=SWn.appR (Q:=Q) (y:=[]) (cells:=[]) (k:=0) (cap:=0) (n0:=0) (j:=0) (d:=7) (F:=pF1) (A1:=fun cap'=>pdA v (0+n) cap' poison poison) (mb:=[]) (pre:=[0,1]) (post:=[3]) (i:=2) (ds:=12) (sx := .tmp 10) (xx := .tmp 11) Nt_ok Nt_gl byteT (by kernel_rfl) (by kernel_rfl) (by kernel_rfl)
  (ps:=[]) (by kernel_rfl) (by simp) rfl (by kernel_rfl) (by kernel_rfl) (by kernel_rfl) ⟨rfl,Nat.le_refl _,rfl,rfl⟩ (by kernel_rfl) hs hn (by omega) (fun _ _ _=>by kernel_rfl) (fun _ _=>by kernel_rfl) (fun _ _=>by kernel_rfl) (fun _ _=>by kernel_rfl) (fun _ _=>by kernel_rfl) rfl rfl hlow (Nat.le_refl _) (fun g hg=>by cases hg)
 rw [Nat.zero_add] at h
 exact h
theorem pd_a2 (hlow : ∀ r₀ w₀,H r₀ w₀→Low 0 r₀) (v:Sv) {y cells:List Value} {k cap:Nat} (hk:y.length=k) (hrow:OwnRow y cap cells) (hsize:k+1≤140737488355328) :
  SWn H Tryz.prog [] (q2 (bodyOf Tryz.f84)) (pdA v k cap poison poison,pdM cells) (thenS (PdQ H v (y ++ [.int .u8 128]) (k+1) poison poison) Q):=by
 have hx:(ahead Tryz.prog Nt (q2 (bodyOf Tryz.f84)) [0,1] (pdA v k cap poison poison,pdM cells)).1.eval (.tmp 14) = .slice (some ⟨1,0,none⟩) 1 1:=by kernel_rfl
 have hm:getB (ahead Tryz.prog Nt (q2 (bodyOf Tryz.f84)) [0,1] (pdA v k cap poison poison,pdM cells)).2 1=some ⟨[.int .u8 128],⟨5,(0,0)⟩⟩:=by kernel_rfl
 have hs:SrcS H Tryz.prog 23 (ahead Tryz.prog Nt (q2 (bodyOf Tryz.f84)) [0,1] (pdA v k cap poison poison,pdM cells)).2 ((ahead Tryz.prog Nt (q2 (bodyOf Tryz.f84)) [0,1] (pdA v k cap poison poison,pdM cells)).1.eval (.tmp 14)) 1 [.int .u8 128]:=by
  rw [hx]
  exact SrcS.row byteT.ht hm (by simp) rfl
 exact SWn.appR (n0:=0) (j:=0) (d:=7) (F:=pF1) (A1:=fun cap'=>pdA v (k+1) cap' poison poison) (mb:=[]) (pre:=[0,1]) (post:=[3]) (i:=2) (ds:=15) (sx := .tmp 13) (xx := .tmp 14) (Nt_ok) (Nt_gl) byteT (by kernel_rfl) (by kernel_rfl) (by kernel_rfl)
  (ps:=[]) (by kernel_rfl) (by simp) hk (by kernel_rfl) (by kernel_rfl) (by kernel_rfl) hrow (by kernel_rfl) hs rfl hsize (fun _ _ _=>by kernel_rfl) (fun _ _=>by kernel_rfl) (fun _ _=>by kernel_rfl) (fun _ _=>by kernel_rfl) (fun _ _=>by kernel_rfl) rfl rfl hlow (Nat.le_refl _) (fun g hg=>by cases hg)
theorem pd_a3 (hlow : ∀ r₀ w₀,H r₀ w₀→Low 0 r₀) (v:Sv) {y cells:List Value} {k cap:Nat} (hk:y.length=k) (hrow:OwnRow y cap cells) (hsize:k+1≤140737488355328) :
  SWn H Tryz.prog [] (cL (cR (q3l (bodyOf Tryz.f84)))) (pdA v k cap poison poison,pdM cells) (thenS (PdQ H v (y ++ [.int .u8 0]) (k+1) poison poison) Q):=by
 have hx:(ahead Tryz.prog Nt (cL (cR (q3l (bodyOf Tryz.f84)))) [0,1] (pdA v k cap poison poison,pdM cells)).1.eval (.tmp 24) = .slice (some ⟨1,0,none⟩) 1 1:=by kernel_rfl
 have hm:getB (ahead Tryz.prog Nt (cL (cR (q3l (bodyOf Tryz.f84)))) [0,1] (pdA v k cap poison poison,pdM cells)).2 1=some ⟨[.int .u8 0],⟨5,(0,0)⟩⟩:=by kernel_rfl
 have hs:SrcS H Tryz.prog 23 (ahead Tryz.prog Nt (cL (cR (q3l (bodyOf Tryz.f84)))) [0,1] (pdA v k cap poison poison,pdM cells)).2 ((ahead Tryz.prog Nt (cL (cR (q3l (bodyOf Tryz.f84)))) [0,1] (pdA v k cap poison poison,pdM cells)).1.eval (.tmp 24)) 1 [.int .u8 0]:=by
  rw [hx]
  exact SrcS.row byteT.ht hm (by simp) rfl
 exact SWn.appR (n0:=0) (j:=0) (d:=7) (F:=pF1) (A1:=fun cap'=>pdA v (k+1) cap' poison poison) (mb:=[]) (pre:=[0,1]) (post:=[3]) (i:=2) (ds:=25) (sx := .tmp 23) (xx := .tmp 24) (Nt_ok) (Nt_gl) byteT (by kernel_rfl) (by kernel_rfl) (by kernel_rfl)
  (ps:=[]) (by kernel_rfl) (by simp) hk (by kernel_rfl) (by kernel_rfl) (by kernel_rfl) hrow (by kernel_rfl) hs rfl hsize (fun _ _ _=>by kernel_rfl) (fun _ _=>by kernel_rfl) (fun _ _=>by kernel_rfl) (fun _ _=>by kernel_rfl) (fun _ _=>by kernel_rfl) rfl rfl hlow (Nat.le_refl _) (fun g hg=>by cases hg)
theorem pd_a10 (hlow : ∀ r₀ w₀,H r₀ w₀→Low 0 r₀) (v:Sv) {y cells:List Value} {k cap:Nat} {b i:Int} (hk:y.length=k) (hrow:OwnRow y cap cells) (hsize:k+1≤140737488355328) :
  SWn H Tryz.prog [] (q10 (bodyOf Tryz.f84)) (pdA v k cap (.int .u64 b) (.int .i64 i),pdM cells) (thenS (PdQ H v (y ++ [.int .u8 0]) (k+1) (.int .u64 b) (.int .i64 i)) Q):=by
 have hx:(ahead Tryz.prog Nt (q10 (bodyOf Tryz.f84)) [0,1] (pdA v k cap (.int .u64 b) (.int .i64 i),pdM cells)).1.eval (.tmp 39) = .slice (some ⟨1,0,none⟩) 1 1:=by kernel_rfl
 have hm:getB (ahead Tryz.prog Nt (q10 (bodyOf Tryz.f84)) [0,1] (pdA v k cap (.int .u64 b) (.int .i64 i),pdM cells)).2 1=some ⟨[.int .u8 0],⟨5,(0,0)⟩⟩:=by kernel_rfl
 have hs:SrcS H Tryz.prog 23 (ahead Tryz.prog Nt (q10 (bodyOf Tryz.f84)) [0,1] (pdA v k cap (.int .u64 b) (.int .i64 i),pdM cells)).2 ((ahead Tryz.prog Nt (q10 (bodyOf Tryz.f84)) [0,1] (pdA v k cap (.int .u64 b) (.int .i64 i),pdM cells)).1.eval (.tmp 39)) 1 [.int .u8 0]:=by
  rw [hx]
  exact SrcS.row byteT.ht hm (by simp) rfl
 exact SWn.appR (n0:=0) (j:=0) (d:=7) (F:=pF2) (A1:=fun cap'=>pdA v (k+1) cap' (.int .u64 b) (.int .i64 i)) (mb:=[]) (pre:=[0,1]) (post:=[3]) (i:=2) (ds:=40) (sx := .tmp 38) (xx := .tmp 39) (Nt_ok) (Nt_gl) byteT (by kernel_rfl) (by kernel_rfl) (by kernel_rfl)
  (ps:=[]) (by kernel_rfl) (by simp) hk (by kernel_rfl) (by kernel_rfl) (by kernel_rfl) hrow (by kernel_rfl) hs rfl hsize (fun _ _ _=>by kernel_rfl) (fun _ _=>by kernel_rfl) (fun _ _=>by kernel_rfl) (fun _ _=>by kernel_rfl) (fun _ _=>by kernel_rfl) rfl rfl hlow (Nat.le_refl _) (fun g hg=>by cases hg)
def sc (i:Int):Int:=IntKind.u64.wrap (IntKind.i64.wrap (8*i))
def lb (b i:Int):Int:=IntKind.u8.wrap (Int.fdiv b (2 ^ min (sc i).toNat 64))
theorem pd_a11 (hlow : ∀ r₀ w₀,H r₀ w₀→Low 0 r₀) (v:Sv) {y cells:List Value} {k cap:Nat} {b i:Int} (hk:y.length=k) (hrow:OwnRow y cap cells) (hsize:k+1≤140737488355328) (h0:0≤sc i) :
  SWn H Tryz.prog [] (q11 (bodyOf Tryz.f84)) (pdA v k cap (.int .u64 b) (.int .i64 i),pdM cells) (thenS (PdQ H v (y ++ [.int .u8 (lb b i)]) (k+1) (.int .u64 b) (.int .i64 i)) Q):=by
 have hx:(ahead Tryz.prog Nt (q11 (bodyOf Tryz.f84)) [0,1,2,3,4,5,6,7] (pdA v k cap (.int .u64 b) (.int .i64 i),pdM cells)).1.eval (.tmp 48) = .slice (some ⟨1,0,none⟩) 1 1:=by kernel_rfl
 have hm:getB (ahead Tryz.prog Nt (q11 (bodyOf Tryz.f84)) [0,1,2,3,4,5,6,7] (pdA v k cap (.int .u64 b) (.int .i64 i),pdM cells)).2 1=some ⟨[.int .u8 (lb b i)],⟨5,(0,0)⟩⟩:=by kernel_rfl
 have hs:SrcS H Tryz.prog 23 (ahead Tryz.prog Nt (q11 (bodyOf Tryz.f84)) [0,1,2,3,4,5,6,7] (pdA v k cap (.int .u64 b) (.int .i64 i),pdM cells)).2 ((ahead Tryz.prog Nt (q11 (bodyOf Tryz.f84)) [0,1,2,3,4,5,6,7] (pdA v k cap (.int .u64 b) (.int .i64 i),pdM cells)).1.eval (.tmp 48)) 1 [.int .u8 (lb b i)]:=by
  rw [hx]
  exact SrcS.row byteT.ht hm (by simp) rfl
 exact SWn.appR (n0:=0) (j:=0) (d:=7) (F:=pF2) (A1:=fun cap'=>pdA v (k+1) cap' (.int .u64 b) (.int .i64 i)) (mb:=[]) (pre:=[0,1,2,3,4,5,6,7]) (post:=[9]) (i:=8) (ds:=49) (sx := .tmp 41) (xx := .tmp 48) (Nt_ok) (Nt_gl) byteT (by kernel_rfl) (by kernel_rfl) (by kernel_rfl)
  (ps:=[0≤sc i]) (by kernel_rfl) (fun p hp=>by rw [List.mem_singleton.1 hp];exact h0) hk (by kernel_rfl) (by kernel_rfl) (by kernel_rfl) hrow (by kernel_rfl) hs rfl hsize (fun _ _ _=>by kernel_rfl) (fun _ _=>by kernel_rfl) (fun _ _=>by kernel_rfl) (fun _ _=>by kernel_rfl) (fun _ _=>by kernel_rfl) rfl rfl hlow (Nat.le_refl _) (fun g hg=>by cases hg)
end Go.Proofs.YtlihbglpdkeppaaGreatDoor.Shf
namespace Go.Proofs.YtlihbglpdkeppaaGreatDoor.Shf
open Go Go.RowKit
variable {H:Ren→World→Prop} {Q:Exit→Act × Mem→Prop}
def pK1 (s:Act × Mem):Act × Mem:=(forgetL s.1 pF1,s.2)
def pK2 (s:Act × Mem):Act × Mem:=(forgetL s.1 pF2,s.2)
def nz (k:Nat):Bool := !((IntKind.i64.wrap ((k:Int)+16)).tmod 128 == 0)
theorem pd_t1 (v:Sv) (k cap:Nat) (cells:List Value):proj pK1 (sexec Tryz.prog (Ntt [(22,true)]) 20 (cL (q3l (bodyOf Tryz.f84))) [] (pdA v k cap poison poison,pdM cells))=some ([nz k=true],(pdA v k cap poison poison,pdM cells)):=by kernel_rfl
def pdX (P:Program) (fn:Func) (v:Sv) (k cap:Nat) (cells:List Value):Act × Mem:=runS P (Ntt [(22,false)]) 20 (q3l (bodyOf fn)) (pdA v k cap poison poison,pdM cells)
theorem pd_x1 (v:Sv) (k cap:Nat) (cells:List Value):sexec Tryz.prog (Ntt [(22,false)]) 20 (q3l (bodyOf Tryz.f84)) [] (pdA v k cap poison poison,pdM cells)=some ([nz k=false],.exit 0,pdX Tryz.prog Tryz.f84 v k cap cells):=by kernel_rfl
theorem pd_k1 (v:Sv) (k cap:Nat) (cells:List Value):pK1 (pdX Tryz.prog Tryz.f84 v k cap cells)=(pdA v k cap poison poison,pdM cells):=by kernel_rfl
def bts (n:Nat):Int:=IntKind.u64.wrap (IntKind.u64.wrap (n:Int)*8)
def pdY (P:Program) (fn:Func) (v:Sv) (k cap:Nat) (cells:List Value):Act × Mem:=runL P Nt 20 [q5 (bodyOf fn)] (pdA v k cap poison poison,pdM cells)
theorem pd_5 (v:Sv) (k cap:Nat) (cells:List Value):sexecL Tryz.prog Nt 20 [q5 (bodyOf Tryz.f84)] [] (pdA v k cap poison poison,pdM cells)=some ([],pdY Tryz.prog Tryz.f84 v k cap cells):=by kernel_rfl
def pdZ (P:Program) (fn:Func) (v:Sv) (k cap:Nat) (cells:List Value):Act × Mem:=runL P Nt 20 [q6 (bodyOf fn)] (pdY P fn v k cap cells)
theorem pd_6 (v:Sv) (k cap:Nat) (cells:List Value):sexecL Tryz.prog Nt 20 [q6 (bodyOf Tryz.f84)] [] (pdY Tryz.prog Tryz.f84 v k cap cells)=some ([],pdZ Tryz.prog Tryz.f84 v k cap cells):=by kernel_rfl
theorem pd_k2 (v:Sv) (k cap:Nat) (cells:List Value):pK2 (pdZ Tryz.prog Tryz.f84 v k cap cells)=(pdA v k cap (.int .u64 (bts v.n)) (.int .i64 15),pdM cells):=by kernel_rfl
theorem pd_t2 (v:Sv) (k cap:Nat) (cells:List Value) (b i:Int):proj pK2 (sexec Tryz.prog (Ntt [(33,true)]) 20 (q7t (bodyOf Tryz.f84)) [] (pdA v k cap (.int .u64 b) (.int .i64 i),pdM cells))=some ([decide (i≥0)=true],(pdA v k cap (.int .u64 b) (.int .i64 i),pdM cells)):=by kernel_rfl
def pdW (P:Program) (fn:Func) (v:Sv) (k cap:Nat) (cells:List Value) (b i:Int):Act × Mem:=runS P (Ntt [(33,false)]) 20 (q7 (bodyOf fn)) (pdA v k cap (.int .u64 b) (.int .i64 i),pdM cells)
theorem pd_x2 (v:Sv) (k cap:Nat) (cells:List Value) (b i:Int):sexec Tryz.prog (Ntt [(33,false)]) 20 (q7 (bodyOf Tryz.f84)) [] (pdA v k cap (.int .u64 b) (.int .i64 i),pdM cells)=some ([decide (i≥0)=false],.exit 2,pdW Tryz.prog Tryz.f84 v k cap cells b i):=by kernel_rfl
theorem pd_k3 (v:Sv) (k cap:Nat) (cells:List Value) (b i:Int):pK2 (pdW Tryz.prog Tryz.f84 v k cap cells b i)=(pdA v k cap (.int .u64 b) (.int .i64 i),pdM cells):=by kernel_rfl
def pd9 (P:Program) (fn:Func) (t:Bool) (v:Sv) (k cap:Nat) (cells:List Value) (b i:Int):Act × Mem:=runS P (Ntt [(37,t)]) 20 (q9 (bodyOf fn)) (pdA v k cap (.int .u64 b) (.int .i64 i),pdM cells)
theorem pd_9 (t:Bool) (v:Sv) (k cap:Nat) (cells:List Value) (b i:Int):sexec Tryz.prog (Ntt [(37,t)]) 20 (q9 (bodyOf Tryz.f84)) [] (pdA v k cap (.int .u64 b) (.int .i64 i),pdM cells)=some ([decide (i≥8)=t],.normal,pd9 Tryz.prog Tryz.f84 t v k cap cells b i):=by kernel_rfl
theorem pd_9k (t:Bool) (v:Sv) (k cap:Nat) (cells:List Value) (b i:Int):pK2 (pd9 Tryz.prog Tryz.f84 t v k cap cells b i)=(pdA v k cap (.int .u64 b) (.int .i64 i),pdM cells):=by kernel_rfl
theorem pd_9o (t:Bool) (v:Sv) (k cap:Nat) (cells:List Value) (b i:Int):okX [] (pd9 Tryz.prog Tryz.f84 t v k cap cells b i).1.eval (.tmp 37)=true:=by kernel_rfl
theorem pd_9v (t:Bool) (v:Sv) (k cap:Nat) (cells:List Value) (b i:Int):(pd9 Tryz.prog Tryz.f84 t v k cap cells b i).1.eval (.tmp 37) = .bool t:=by kernel_rfl
theorem pd_8 (v:Sv) (k cap:Nat) (cells:List Value) (b i:Int):proj pK2 (sexec Tryz.prog Nt 20 (q8 (bodyOf Tryz.f84)) [] (pdA v k cap (.int .u64 b) (.int .i64 i),pdM cells))=some ([],(pdA v k cap (.int .u64 b) (.int .i64 (IntKind.i64.wrap (i - 1))),pdM cells)):=by kernel_rfl
def pdE (P:Program) (fn:Func) (v:Sv) (k cap:Nat) (cells:List Value) (b i:Int):Act × Mem:=runS P Nt 20 (q12 (bodyOf fn)) (pdA v k cap (.int .u64 b) (.int .i64 i),pdM cells)
theorem pd_e (v:Sv) (k cap:Nat) (cells:List Value) (b i:Int):sexec Tryz.prog Nt 20 (q12 (bodyOf Tryz.f84)) [] (pdA v k cap (.int .u64 b) (.int .i64 i),pdM cells)=some ([],.ret,pdE Tryz.prog Tryz.f84 v k cap cells b i):=by kernel_rfl
theorem pd_er (v:Sv) (k cap:Nat) (cells:List Value) (b i:Int):sres Tryz.prog Tryz.f84 (pdE Tryz.prog Tryz.f84 v k cap cells b i)=some (.slice (some ⟨0,0,none⟩) k cap):=by kernel_rfl
theorem pd_ed (v:Sv) (k cap:Nat) (cells:List Value) (b i:Int):(pdE Tryz.prog Tryz.f84 v k cap cells b i).1.defers = []:=by kernel_rfl
theorem pd_em (v:Sv) (k cap:Nat) (cells:List Value) (b i:Int):(pdE Tryz.prog Tryz.f84 v k cap cells b i).2=pdM cells:=by kernel_rfl
theorem nz_eq {k:Nat} (h:k<140737488355328):nz k=decide ((k+16) % 128≠0):=by
 unfold nz
 rw [wrap_i64 (by omega) (by omega)]
 have e:((k:Int)+16).tmod 128=(((k+16) % 128:Nat):Int):=by
  rw [Int.tmod_eq_emod_of_nonneg (by omega)];omega
 rw [e]
 by_cases h0:(k+16) % 128=0
 ·rw [h0];rfl
 ·rw [decide_eq_true h0]
  simp only [Bool.not_eq_true',beq_eq_false_iff_ne,ne_eq]
  omega
theorem pd_r1 (hlow : ∀ r₀ w₀,H r₀ w₀→Low 0 r₀) (v:Sv) {y:List Value} {k:Nat} (hk:y.length=k) (hsz:k+1≤140737488355328) (hnz:(k+16) % 128≠0) {s:Act × Mem} (hs:PdQ H v y k poison poison s) :
  SWn H Tryz.prog [] (q3l (bodyOf Tryz.f84)) s (thenS (PdQ H v (y ++ [.int .u8 0]) (k+1) poison poison) Q):=by
 obtain ⟨cap,cells,hrow,hin⟩:=hs
 refine hin _ _ ?_
 rw [pd_l1]
 obtain ⟨z,hz,he⟩:=proj_some (pd_t1 v k cap cells)
 refine SWn.seq (SWn.runG (Ntt_ok _) mixed (Ntt_gl _) 20 hz ?_ (thenS_norm ?_))
 ·intro p hp
  rw [List.mem_singleton.1 hp,nz_eq (by omega)];exact decide_eq_true hnz
 ·refine forget_into pF1 he _ _ (SWn.block ((pd_a3 (Q:=fun _ _=>False) hlow v hk hrow hsz).mono ?_))
  intro e s' hs'
  obtain ⟨rfl,h⟩:=thenS_only hs'
  exact h
theorem pd_r2 (hlow : ∀ r₀ w₀,H r₀ w₀→Low 0 r₀) (v:Sv) {y:List Value} {k:Nat} {b i:Int} (hk:y.length=k) (hsz:k+1≤140737488355328) (h0:0≤i) (h1:i<16) {x:Value} (hx:x = .int .u8 (if 8≤i then 0 else lb b i)) {s:Act × Mem} (hs:PdQ H v y k (.int .u64 b) (.int .i64 i) s) :
  SWn H Tryz.prog [] (q7 (bodyOf Tryz.f84)) s (thenS (PdQ H v (y ++ [x]) (k+1) (.int .u64 b) (.int .i64 (i - 1))) Q):=by
 obtain ⟨cap,cells,hrow,hin⟩:=hs
 refine hin _ _ ?_
 rw [pd_l2]
 obtain ⟨z,hz,he⟩:=proj_some (pd_t2 v k cap cells b i)
 refine SWn.seq (SWn.runG (Ntt_ok _) mixed (Ntt_gl _) 20 hz (fun p hp=>by rw [List.mem_singleton.1 hp];exact decide_eq_true h0) (thenS_norm ?_))
 refine forget_into pF2 he _ _ (SWn.seq (SWn.block (SWn.seq (SWn.runG (Ntt_ok _) mixed (Ntt_gl _) 20 (pd_9 (decide (i≥8)) v k cap cells b i) (fun p hp=>by rw [List.mem_singleton.1 hp]) (thenS_norm ?_)))))
 refine SWn.cond (pd_9o _ v k cap cells b i) (pd_9v _ v k cap cells b i) ?_
 have fin : ∀ (e:Exit) (s':Act × Mem),thenS (PdQ H v (y ++ [x]) (k+1) (.int .u64 b) (.int .i64 i)) (fun _ _=>False) e s'→blockS 3 (thenS (fun s'=>SWn H Tryz.prog [] (q8 (bodyOf Tryz.f84)) s' (thenS (PdQ H v (y ++ [x]) (k+1) (.int .u64 b) (.int .i64 (i - 1))) Q)) (thenS (PdQ H v (y ++ [x]) (k+1) (.int .u64 b) (.int .i64 (i - 1))) Q)) e s':=by
  intro e s' hs'
  obtain ⟨rfl,cap',cells',hr',hin'⟩:=thenS_only hs'
  refine hin' _ _ ?_
  obtain ⟨z',hz',he'⟩:=proj_some (pd_8 v (k+1) cap' cells' b i)
  refine SWn.runG Nt_ok mixed Nt_gl 20 hz' (by simp) (thenS_norm ⟨cap',cells',hr',forget_into pF2 ?_⟩)
  rw [wrap_i64 (by omega) (by omega)] at he'
  exact he'
 by_cases h8:i≥8
 ·rw [decide_eq_true h8,if_pos rfl]
  rw [if_pos (show (8:Int)≤i from h8)] at hx
  subst hx
  have:=pd_9k true v k cap cells b i
  exact forget_into pF2 this _ _ ((pd_a10 (Q:=fun _ _=>False) hlow v hk hrow hsz).mono fin)
 ·rw [decide_eq_false h8,if_neg (by decide)]
  rw [if_neg (show ¬ (8:Int)≤i from h8)] at hx
  subst hx
  have:=pd_9k false v k cap cells b i
  have hsc:0≤sc i:=by unfold sc;rw [wrap_i64 (by omega) (by omega),IntKind.wrap_u64];omega
  exact forget_into pF2 this _ _ ((pd_a11 (Q:=fun _ _=>False) hlow v hk hrow hsz hsc).mono fin)
theorem bts_eq {n:Nat} (h:n<140737488355328):bts n=((8*n:Nat):Int):=by
 unfold bts
 rw [IntKind.wrap_u64,IntKind.wrap_u64];omega
theorem lb_eq {x i:Nat} (hx:x<18446744073709551616) (hi:i<8):lb (x:Int) (i:Int)=intL (by64 (x:Int)) (7 - i):=by
 have hs:sc (i:Int)=((8*i:Nat):Int):=by unfold sc;rw [wrap_i64 (by omega) (by omega),IntKind.wrap_u64];omega
 unfold lb
 rw [hs,Int.toNat_natCast,Nat.min_eq_left (by omega)]
 have fd : ∀ (a:Nat) (d:Nat),Int.fdiv (a:Int) (2 ^ d)=((a/2 ^ d:Nat):Int):=by
  intro a d
  rw [Int.fdiv_eq_ediv_of_nonneg _ (Int.pow_nonneg (by decide))]
  simp
 have hh:hi32 (x:Int)=((x/4294967296:Nat):Int):=by
  unfold hi32;rw [fd,IntKind.wrap_u32];omega
 have hl:lo32 (x:Int)=((x % 4294967296:Nat):Int):=by
  unfold lo32;rw [IntKind.wrap_u32];omega
 unfold by64 by32 b8
 rw [hh,hl]
 simp only [fd]
 have:i=0∨i=1∨i=2∨i=3∨i=4∨i=5∨i=6∨i=7:=by omega
 rcases this with rfl | rfl | rfl | rfl | rfl | rfl | rfl | rfl <;> simp only [intL,List.cons_append,List.nil_append,List.getElem?_cons_succ,List.getElem?_cons_zero,IntKind.wrap_u8,Nat.reduceSub] <;> omega
theorem pd_body (hlow : ∀ r₀ w₀,H r₀ w₀→Low 0 r₀) (v:Sv) (y:Nat→Int) (hsz:v.n+400≤140737488355328) (hH : ∀ r₀ w₀,H r₀ w₀→WSrc v.val v.n (rowP y v.n) w₀∧apart r₀ v.val) :
  SWn H Tryz.prog [] (bodyOf Tryz.f84) (pd0 Tryz.f84 v) fun ex s=>(ex = .normal∨ex = .ret)∧s.1.defers = [] ∧ ∃ b cap q,sres Tryz.prog Tryz.f84 s=some (.slice (some ⟨b,0,none⟩) (128*nb v.n) cap)∧getB s.2 b=some ⟨q,⟨5,(0,0)⟩⟩∧([]:Mem).length≤b∧q.all flat1=true∧OwnRow (rowP (padB v.n y (128*nb v.n)) (128*nb v.n)) cap q ∧ ∀ i B,getB ([]:Mem) i=some B→getB s.2 i=some B:=by
 generalize hn:v.n=n at *
 have hN:n+17≤128*nb n∧128*nb n≤n+144:=by unfold nb;omega
 generalize hNN:128*nb n=N at *
 have hN0:N % 128=0:=by omega
 generalize hp:padB n y N=p
 have p0:rowP y n=rowP p n:=rowP_congr fun i hi=>by rw [←hp];unfold padB;rw [if_pos hi]
 have pn:p n=128:=by rw [←hp];unfold padB;rw [if_neg (by omega),if_pos rfl]
 have pz : ∀ k,n<k→k<N - 8→p k=0:=fun k h1 h2=>by rw [←hp];unfold padB;rw [if_neg (by omega),if_neg (by omega),if_pos h2]
 have pl : ∀ j,j<8→p (N - 8+j)=intL (by64 ((8*n:Nat):Int)) j:=fun j hj=>by rw [←hp];unfold padB;rw [if_neg (by omega),if_neg (by omega),if_neg (by omega),show N - 8+j - (N - 8)=j by omega]
 rw [pd_code]
 refine SWn.preG Nt_ok mixed Nt_gl (cs:=[q0 (bodyOf Tryz.f84)]) rfl (pd_pre v) (by simp) ?_
 refine SWn.seq ((pd_a1 (Q:=fun _ _=>False) hlow v (news:=rowP y n) (rowP_len _ _) (rowP_flat _ _) hH (by omega)).mono ?_)
 intro e s hs
 obtain ⟨rfl,cap,cells,hrow,hin⟩:=thenS_only hs
 rw [p0] at hrow
 refine hin _ _ (SWn.seq ((pd_a2 (Q:=fun _ _=>False) hlow v (rowP_len _ _) hrow (by omega)).mono ?_))
 clear hs hin hrow
 intro e s hs
 obtain ⟨rfl,hs⟩:=thenS_only hs
 rw [←pn,←rowP_succ] at hs
 refine SWn.seq (SWn.block ?_)
 refine SWn.loopK rfl (fun j s=>PdQ H v (rowP p (n+1+j)) (n+1+j) poison poison s) 0 (N - 16 - (n+1)) hs (by omega) (fun j s _ hj hs => ?_) (fun s hs => ?_)
 ·have h:=pd_r1 (Q:=blockS 0 (thenS (fun s'=>SWn H Tryz.prog [] (.seq (q5 (bodyOf Tryz.f84)) (.seq (.seq (q6 (bodyOf Tryz.f84)) (.block 2 (.loop (q7 (bodyOf Tryz.f84))))) (q12 (bodyOf Tryz.f84)))) s' (fun ex s=>(ex = .normal∨ex = .ret)∧s.1.defers = [] ∧ ∃ b cap q,sres Tryz.prog Tryz.f84 s=some (.slice (some ⟨b,0,none⟩) N cap)∧getB s.2 b=some ⟨q,⟨5,(0,0)⟩⟩∧([]:Mem).length≤b∧q.all flat1=true∧OwnRow (rowP p N) cap q ∧ ∀ i B,getB ([]:Mem) i=some B→getB s.2 i=some B)) (fun ex s=>(ex = .normal∨ex = .ret)∧s.1.defers = [] ∧ ∃ b cap q,sres Tryz.prog Tryz.f84 s=some (.slice (some ⟨b,0,none⟩) N cap)∧getB s.2 b=some ⟨q,⟨5,(0,0)⟩⟩∧([]:Mem).length≤b∧q.all flat1=true∧OwnRow (rowP p N) cap q ∧ ∀ i B,getB ([]:Mem) i=some B→getB s.2 i=some B))) hlow v (rowP_len p (n+1+j)) (by omega) (by omega) hs
  rw [←pz (n+1+j) (by omega) (by omega),←rowP_succ] at h
  exact h
 obtain ⟨cap,cells,hrow,hin⟩:=hs
 rw [show n+1+(N - 16 - (n+1))=N - 16 by omega] at hrow hin
 refine hin _ _ (SWn.runG (Ntt_ok _) mixed (Ntt_gl _) 20 (pd_x1 v (N - 16) cap cells) (fun p hp => ?_) (thenS_exit (blockS_exit (thenS_norm ?_))))
 ·rw [List.mem_singleton.1 hp,nz_eq (by omega)];exact decide_eq_false (by omega)
 refine forget_into pF1 (pd_k1 v (N - 16) cap cells) _ _ ?_
 refine SWn.preG Nt_ok mixed Nt_gl (cs:=[q5 (bodyOf Tryz.f84)]) rfl (pd_5 v (N - 16) cap cells) (by simp) (SWn.seq ?_)
 refine SWn.preG Nt_ok mixed Nt_gl (cs:=[q6 (bodyOf Tryz.f84)]) rfl (pd_6 v (N - 16) cap cells) (by simp) (SWn.block ?_)
 have hk2:=pd_k2 v (N - 16) cap cells
 rw [hn,bts_eq (by omega)] at hk2
 have hz:PdQ H v (rowP p (N - 16+0)) (N - 16+0) (.int .u64 ((8*n:Nat):Int)) (.int .i64 (15 - ((0:Nat):Int))) (pdZ Tryz.prog Tryz.f84 v (N - 16) cap cells):=by
  rw [show (15:Int) - ((0:Nat):Int)=15 by omega,Nat.add_zero]
  exact ⟨cap,cells,hrow,forget_into pF2 hk2⟩
 refine SWn.loopK rfl (fun j s=>PdQ H v (rowP p (N - 16+j)) (N - 16+j) (.int .u64 ((8*n:Nat):Int)) (.int .i64 (15 - (j:Int))) s) 0 16 hz (by omega) (fun j s _ hj hs => ?_) (fun s hs => ?_)
 ·have hx:Value.int .u8 (p (N - 16+j)) = .int .u8 (if 8≤15 - (j:Int) then 0 else lb ((8*n:Nat):Int) (15 - (j:Int))):=by
   by_cases h8:j<8
   ·rw [if_pos (by omega),pz _ (by omega) (by omega)]
   ·rw [if_neg (by omega),show N - 16+j=N - 8+(j - 8) by omega,pl _ (by omega),show (15:Int) - (j:Int)=((15 - j:Nat):Int) by omega,lb_eq (by omega) (by omega),show 7 - (15 - j)=j - 8 by omega]
  have h:=pd_r2 (Q:=blockS 2 (thenS (fun s'=>SWn H Tryz.prog [] (q12 (bodyOf Tryz.f84)) s' (fun ex s=>(ex = .normal∨ex = .ret)∧s.1.defers = [] ∧ ∃ b cap q,sres Tryz.prog Tryz.f84 s=some (.slice (some ⟨b,0,none⟩) N cap)∧getB s.2 b=some ⟨q,⟨5,(0,0)⟩⟩∧([]:Mem).length≤b∧q.all flat1=true∧OwnRow (rowP p N) cap q ∧ ∀ i B,getB ([]:Mem) i=some B→getB s.2 i=some B)) (fun ex s=>(ex = .normal∨ex = .ret)∧s.1.defers = [] ∧ ∃ b cap q,sres Tryz.prog Tryz.f84 s=some (.slice (some ⟨b,0,none⟩) N cap)∧getB s.2 b=some ⟨q,⟨5,(0,0)⟩⟩∧([]:Mem).length≤b∧q.all flat1=true∧OwnRow (rowP p N) cap q ∧ ∀ i B,getB ([]:Mem) i=some B→getB s.2 i=some B))) hlow v (rowP_len p (N - 16+j)) (by omega) (by omega) (by omega) hx hs
  rw [←rowP_succ,show (15:Int) - (j:Int) - 1=15 - ((j+1:Nat):Int) by omega] at h
  exact h
 clear hrow hin
 obtain ⟨cap,cells,hrow,hin⟩:=hs
 rw [show N - 16+16=N by omega] at hrow hin
 refine hin _ _ (SWn.runG (Ntt_ok _) mixed (Ntt_gl _) 20 (pd_x2 v N cap cells _ _) (fun p hp=>by rw [List.mem_singleton.1 hp];exact decide_eq_false (by omega)) (thenS_exit (blockS_exit (thenS_norm ?_))))
 refine forget_into pF2 (pd_k3 v N cap cells _ _) _ _ ?_
 refine SWn.runG Nt_ok mixed Nt_gl 20 (pd_e v N cap cells _ _) (by simp) ⟨.inr rfl,pd_ed v N cap cells _ _,0,cap,cells,pd_er v N cap cells _ _,?_,Nat.zero_le _,hrow.flat,hrow,fun i B h=>by simp [getB] at h⟩
 rw [pd_em];rfl
theorem pd_calls (v:Sv) (y:Nat→Int) (hsz:v.n+400≤140737488355328) (w:World) (hw:WSrc v.val v.n (rowP y v.n) w) :
  CallOK Tryz.prog 84 #[v.val,.int .i64 128,.int .i64 16] w fun v' w' => ∃ c cap q,v' = .slice (some ⟨c,0,none⟩) (128*nb v.n) cap∧w.heap.size≤c∧w'.heap[c]? = some (.cells q.toArray 5 (0,0))∧q.all flat1=true∧OwnRow (rowP (padB v.n y (128*nb v.n)) (128*nb v.n)) cap q∧Below w.heap.size w w':=by
 have hap:apart (fun _=>none) v.val:=by
  unfold apart Sv.val
  cases v.x with
  | none=>trivial
  | some a=>exact .inr (fun b h=>by cases h)
 refine call_enter Tryz.func84 (by kernel_rfl) (show _=some (bodyOf Tryz.f84) from (by kernel_rfl)) ?_
 exact callsN_of_SWn (H:=fun r₀ w₀=>Low 0 r₀∧WSrc v.val v.n (rowP y v.n) w₀∧apart r₀ v.val) (gl:=[]) (m:=[]) (args:=[raw v.val,.int .i64 128,.int .i64 16]) (R:=fun cap q=>OwnRow (rowP (padB v.n y (128*nb v.n)) (128*nb v.n)) cap q) Tryz.func84 (by kernel_rfl) (pd_body (fun r₀ w₀ h=>h.1) v y hsz (fun r₀ w₀ h=>h.2)) (Rel.nil w) ⟨fun b c h=>(by cases h),hw,hap⟩ (fun g hg=>by cases hg) rfl
end Go.Proofs.YtlihbglpdkeppaaGreatDoor.Shf
