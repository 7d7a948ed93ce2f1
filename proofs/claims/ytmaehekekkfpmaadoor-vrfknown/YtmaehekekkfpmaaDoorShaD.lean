/- One block of SHA-256: what 'mix256' answers. -/
import Derived.Test.YtmaehekekkfpmaaDoorShaA
import Derived.Deep.RegionHeld3
import Derived.Deep.MidRow
import Derived.Deep.DrawnRows
import Derived.Test.YtmaehekekkfpmaaDoorQ5C
set_option linter.unusedSimpArgs false
set_option linter.unusedVariables false
namespace Go.Proofs.YtmaehekekkfpmaaDoor.Sh
open Go Go.RowKit
theorem u_not (x:BitVec 32):bits .xor .u32 (4294967295:Int) (u x)=u (~~~ x):=by
 show IntKind.u32.wrap ((BitVec.ofInt 32 (4294967295:Int) ^^^ BitVec.ofInt 32 (u x)).toNat:Int)=_
 rw [u_ofInt,show BitVec.ofInt 32 (4294967295:Int)=BitVec.allOnes 32 by decide,BitVec.allOnes_xor];exact u_wrap _
theorem u_not' (x:BitVec 32):bits .xor .u32 (if IntKind.u32.signed=true then -1 else IntKind.u32.max) (u x)=u (~~~ x):=u_not x
attribute [local go_sem] u_xor u_and u_or u_add u_not u_not'
end Go.Proofs.YtmaehekekkfpmaaDoor.Sh
/- Words into bytes, the sum's bytes, a Hash in memory: 'putWord64', 'bytes256', 'held', 'begin'. -/
namespace Go.Proofs.YtmaehekekkfpmaaDoor.Sh
open Go Go.RowKit
attribute [local go_sem] u_xor u_and u_or u_add ul_shr32 u_of_l
theorem putWord32_any (b off cap:Nat) (x:BitVec 32) (w:World) (ht:w.there b off 4) :
  Calls Tryd.prog 50 #[.slice (some ⟨b,off,none⟩) 4 cap,U x] w fun e w'=>e = .returned (.tuple #[])∧w.setCells b off (bytes4 x)=w':=by
 obtain ⟨v0,h0⟩:=Option.isSome_iff_exists.1 (ht 0 (by omega)).1
 obtain ⟨v1,h1⟩:=Option.isSome_iff_exists.1 (ht 1 (by omega)).1
 obtain ⟨v2,h2⟩:=Option.isSome_iff_exists.1 (ht 2 (by omega)).1
 obtain ⟨v3,h3⟩:=Option.isSome_iff_exists.1 (ht 3 (by omega)).1
 refine (putWord32_walk b off cap x w v0 v1 v2 v3 h0 h1 h2 h3 (ht 0 (by omega)).2 (ht 1 (by omega)).2 (ht 2 (by omega)).2 (ht 3 (by omega)).2).mono ?_
 rintro e w' ⟨rfl,rfl⟩
 exact ⟨rfl,rfl⟩
set_option maxHeartbeats 400000 in
theorem putWord64_any (b off cap:Nat) (hcap:8≤cap) (x:BitVec 64) (w:World) (ht:w.there b off 8) :
  Calls Tryd.prog 31 #[.slice (some ⟨b,off,none⟩) 8 cap,L x] w fun e w'=>e = .returned (.tuple #[])∧w.setCells b off (bytes8 x)=w':=by
 have HT:Hid (w.there b off 4):=fun j hj=>ht j (by omega)
 have HT2:Hid ((w.setCells b off (bytes4 ((x >>> 32).setWidth 32))).there b (off+4) 4):=World.there_setCells (fun j hj=>by have:=ht (4+j) (by omega);rwa [←Nat.add_assoc] at this) _ _ _
 clear ht
 go_enter Tryd.func31,Tryd.ntmps31
 go_wp2_with fail
 refine (putWord32_any b off _ ((x >>> 32).setWidth 32) _ HT.out).mono ?_
 rintro e w' ⟨rfl,rfl⟩
 go_wp2_with fail
 refine (putWord32_any b (off+4) _ (x.setWidth 32) _ HT2.out).mono ?_
 rintro e w' ⟨rfl,rfl⟩
 go_wp2
 go_end0
 exact ⟨rfl,(setCells_append b (bytes4 ((x >>> 32).setWidth 32)) off w (bytes4 (x.setWidth 32))).symm⟩
end Go.Proofs.YtmaehekekkfpmaaDoor.Sh
/- The sum's 32 bytes: what 'bytes256' answers. -/
namespace Go.Proofs.YtmaehekekkfpmaaDoor.Sh
open Go Go.RowKit
theorem size_u8:(Tryd.prog.info? 5).map (·.size)=some 1:=by kernel_rfl
end Go.Proofs.YtmaehekekkfpmaaDoor.Sh
/- The sum's 64 bytes: what 'bytes512' answers. -/
namespace Go.Proofs.YtmaehekekkfpmaaDoor.Sh.Q5
open Go Go.RowKit
def St.at (s:St) (i:Nat):BitVec 64:=[s.a,s.b,s.c,s.d,s.e,s.f,s.g,s.h].getD i 0
def sbyte (s:St) (i:Nat):BitVec 8:=((s.at (i/8)) >>> (56 - 8*(i % 8))).setWidth 8
theorem bytes8_get (x:BitVec 64) (j:Nat) (h:j<8):(bytes8 x)[j]? = some (B ((x >>> (56 - 8*j)).setWidth 8)):=by
 have e : ∀ k:Nat,k≤24→((((x >>> 32).setWidth 32:BitVec 32) >>> k).setWidth 8:BitVec 8)=(x >>> (32+k)).setWidth 8:=fun k hk=>by
  apply BitVec.eq_of_toNat_eq
  simp only [BitVec.toNat_setWidth,BitVec.toNat_ushiftRight,Nat.shiftRight_eq_div_pow]
  rw [Nat.pow_add]
  have h1:=x.isLt
  rw [Nat.mod_eq_of_lt (by omega:x.toNat/2 ^ 32<2 ^ 32),Nat.div_div_eq_div_mul]
 have f : ∀ k:Nat,k≤24→(((x.setWidth 32:BitVec 32) >>> k).setWidth 8:BitVec 8)=(x >>> k).setWidth 8:=fun k hk=>by
  apply BitVec.eq_of_toNat_eq
  simp only [BitVec.toNat_setWidth,BitVec.toNat_ushiftRight,Nat.shiftRight_eq_div_pow]
  have e2:(2:Nat) ^ 32=2 ^ k*2 ^ (32 - k):=by rw [←Nat.pow_add];congr 1;omega
  have e3:(2:Nat) ^ (32 - k)=2 ^ 8*2 ^ (24 - k):=by rw [←Nat.pow_add];congr 1;omega
  rw [e2,Nat.mod_mul_right_div_self,e3,Nat.mod_mul_right_mod]
 match j,h with
 | 0,_=>exact congrArg (fun z=>some (B z)) (e 24 (by omega))
 | 1,_=>exact congrArg (fun z=>some (B z)) (e 16 (by omega))
 | 2,_=>exact congrArg (fun z=>some (B z)) (e 8 (by omega))
 | 3,_=>exact congrArg (fun z=>some (B z)) (e 0 (by omega))
 | 4,_=>exact congrArg (fun z=>some (B z)) (f 24 (by omega))
 | 5,_=>exact congrArg (fun z=>some (B z)) (f 16 (by omega))
 | 6,_=>exact congrArg (fun z=>some (B z)) (f 8 (by omega))
 | 7,_=>exact congrArg (fun z=>some (B z)) (f 0 (by omega))
def srow (s:St):Array Value:=((List.range 64).map fun i=>B (sbyte s i)).toArray
theorem srow_size (s:St):(srow s).size=64:=by simp [srow]
theorem srow_one (s:St):(srow s).all (·.oneCell')=true :=
 all_oneCell_toArray (fun v hv=>by
  obtain ⟨i,_,rfl⟩:=List.mem_map.1 hv
  rfl)
def obyte (s:St) (k i:Nat):Value:=if i<8*k then B (sbyte s i) else B 0
structure BRel (w wr:World) (s:St) (k:Nat):Prop where
 below:Below w.heap.size w wr
 cell : ∀ i,i<64→wr.cell? ⟨w.heap.size+2,i,none⟩=some (obyte s k i)
 froz : ∀ i,wr.frozen? ⟨w.heap.size+2,i,none⟩=false
 res:wr.there (w.heap.size+1) 0 64
theorem BRel.start (w:World) (s:St) (A C:Obj):BRel w (((w.alloc A).alloc (.cells (List.replicate 64 (Value.int .u8 0)).toArray 28)).alloc (.cells (List.replicate 64 (Value.int .u8 0)).toArray 28)) s 0:=by
 have hn:((w.alloc A).alloc C).heap.size=w.heap.size+2:=by simp
 refine ⟨(((Below.refl _ _).alloc (Nat.le_refl _) _).alloc (by simp) _).alloc (by simp;omega) _,?_,?_,?_⟩
 ·intro i hi
  rw [World.cell?_alloc_at _ _ _ _ (by simp),List.getElem?_toArray,List.getElem?_replicate,if_pos hi,obyte,if_neg (by omega)];rfl
 ·intro i
  rw [World.frozen?_alloc_at _ _ _ _ (by simp)]
 ·intro j hj
  rw [World.cell?_alloc_past _ _ _ (by simp),World.frozen?_alloc_past _ _ _ (by simp),World.cell?_alloc_at _ _ _ _ (by simp),World.frozen?_alloc_at _ _ _ _ (by simp),List.getElem?_toArray,List.getElem?_replicate,if_pos (by omega)]
  exact ⟨rfl,rfl⟩
theorem BRel.put {w wr:World} {s:St} {k:Nat} (h:BRel w wr s k) (hk:k<8):BRel w (wr.setCells (w.heap.size+2) (8*k) (bytes8 (s.at k))) s (k+1):=by
 have ht:wr.there (w.heap.size+2) (8*k) (bytes8 (s.at k)).length:=there_of_cells (fun i=>obyte s k (8*k+i)) (fun i hi=>h.cell _ (by simp [bytes8,bytes4] at hi;omega)) h.froz
 refine ⟨below_setCells _ (by omega) _ _ _ h.below,?_,?_,World.there_setCells h.res _ _ _⟩
 ·intro i hi
  rw [cell_setCells _ _ _ _ _ ht]
  have hl:(bytes8 (s.at k)).length=8:=rfl
  rw [hl]
  split
  ·rename_i hi2
   rw [bytes8_get _ _ (by omega),obyte,if_pos (by omega),sbyte,show i/8=k by omega,show i % 8=i - 8*k by omega]
  ·rename_i hi2
   rw [h.cell i hi,obyte,obyte]
   by_cases h1:i<8*k
   ·rw [if_pos h1,if_pos (by omega)]
   ·rw [if_neg h1,if_neg (by omega)]
 ·intro i
  rw [World.frozen?_setCells];exact h.froz i
theorem st_index (s:St) : ∀ k:Nat,k<8 → ∀ w:World,(Instr.index 62 (.agg s.row) (.int .i64 (k:Int))).run Tryd.prog w = .ok (U (s.at k)) w
 | 0,_,_=>by kernel_rfl
 | 1,_,_=>by kernel_rfl
 | 2,_,_=>by kernel_rfl
 | 3,_,_=>by kernel_rfl
 | 4,_,_=>by kernel_rfl
 | 5,_,_=>by kernel_rfl
 | 6,_,_=>by kernel_rfl
 | 7,_,_=>by kernel_rfl
set_option maxRecDepth 100000 in
set_option maxHeartbeats 400000 in
theorem bytes512_any (s:St) (w:World) :
  Calls Tryd.prog 32 #[.agg s.row] w fun e w'=>e = .returned (.agg (srow s))∧Below w.heap.size w w':=by
 have HI:Hid (∀ k:Nat,k<8 → ∀ w:World,(Instr.index 62 (.agg s.row) (.int .i64 (k:Int))).run Tryd.prog w = .ok (U (s.at k)) w):=st_index s
 have HS:Hid (∀ A C,BRel w (((w.alloc A).alloc (.cells (List.replicate 64 (Value.int .u8 0)).toArray 28)).alloc (.cells (List.replicate 64 (Value.int .u8 0)).toArray 28)) s 0):=BRel.start w s
 obtain ⟨sa,sb,sc,sd,se,sf,sg,sh⟩:=s
 unfold St.row at *
 go_enter Tryd.func32,Tryd.ntmps32
 go_wp2
 go_loopw [4,5,7] (fun _ _ i wr => ∃ k:Nat,k≤8∧i = .int .i64 k∧BRel w wr ⟨sa,sb,sc,sd,se,sf,sg,sh⟩ k) (fun _ _ i _=>8 - (intOf i).toNat)
 case atStart=>exact ⟨0,by omega,rfl,HS.out _ (.cells #[] 0)⟩
 case round =>
  obtain ⟨k,hk,rfl,hr⟩:=hrel
  have HR:Hid (BRel w _ ⟨sa,sb,sc,sd,se,sf,sg,sh⟩ k):=hr
  clear hr
  by_cases hlt:k<8
  ·have hi:=HI.out k hlt
   have sl:=fun w1=>sliceAt_lh w1 28 5 64 (w.heap.size+1+1) 0 (8*(k:Int)) (8*(k:Int)+8) (8*k) (8*k+8) (by omega) (by omega) Tryd.underlying28 size_u8 (by omega) (by omega) (by omega)
   rw [show 8*k+8 - 8*k=8 by omega] at sl
   go_wp2_with fail
   refine (putWord64_any (w.heap.size+1+1) (8*k) _ (by omega) _ _ ?_).mono ?_
   ·exact there_of_cells (fun i=>obyte ⟨sa,sb,sc,sd,se,sf,sg,sh⟩ k (8*k+i)) (fun i hi=>HR.out.cell _ (by omega)) HR.out.froz
   rintro e w' ⟨rfl,rfl⟩
   go_wp2
   go_roundw
   case rel=>exact ⟨k+1,by omega,by go_num,HR.out.put hlt⟩
   case measure=>simp [intOf];omega
  ·obtain rfl:k=8:=by omega
   have HC:Hid (wr.rangeAt (w.heap.size+1+1) 0 (srow ⟨sa,sb,sc,sd,se,sf,sg,sh⟩).toList):=by
    have:=range_of_cells (w:=wr) (g:=w.heap.size+2) (o:=0) (n:=64) (fun i=>B (sbyte ⟨sa,sb,sc,sd,se,sf,sg,sh⟩ i)) (fun i hi=>by rw [Nat.zero_add,HR.out.cell i hi,obyte,if_pos (by omega)])
    exact this
   have HT:Hid (wr.there (w.heap.size+1) 0 (srow ⟨sa,sb,sc,sd,se,sf,sg,sh⟩).size):=by rw [srow_size];exact HR.out.res
   go_wp2_with (first | (refine wpList_load_mid rfl 28 _ rfl (w.heap.size+1+1) 0 rfl (srow ⟨sa,sb,sc,sd,se,sf,sg,sh⟩).toList _ HC.out Tryd.underlying28 rfl (by rw [Array.length_toList,srow_size];kernel_rfl) ?_) | (refine wpList_store_mid rfl 28 _ _ rfl (w.heap.size+1) 0 (srow ⟨sa,sb,sc,sd,se,sf,sg,sh⟩) rfl rfl HT.out (by rw [srow_size];kernel_rfl) (by exact srow_one _) ?_))
   refine bodyPost_ret (v := .agg (srow ⟨sa,sb,sc,sd,se,sf,sg,sh⟩)) ?_ rfl ⟨rfl,?_⟩
   ·exact results_mid Tryd.results32 _ _ (w.heap.size+1) 0 (srow ⟨sa,sb,sc,sd,se,sf,sg,sh⟩).toList _ rfl (World.rangeAt_setCells_same _ _ _ _ HT.out) Tryd.underlying28 rfl (by rw [Array.length_toList,srow_size];kernel_rfl)
   ·exact below_setCells _ (by omega) _ _ _ HR.out.below
end Go.Proofs.YtmaehekekkfpmaaDoor.Sh.Q5
