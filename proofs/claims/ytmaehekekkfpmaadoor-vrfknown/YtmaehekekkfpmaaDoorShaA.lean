/- Plain mathematics of SHA-256: words, bytes, sigma functions, and the walk's own spellings of them. No dump is read here. -/
import Derived.WalkKit
import Derived.WalkSpells
import Derived.Test.YtmaehekekkfpmaaDoorProg
import Derived.Test.YtmaehekekkfpmaaDoorChecked
import Derived.Outline
import Derived.BigQuiet
import Derived.Deep.QuietTactic
import Derived.Deep.MidRow
import Derived.Laws.CopyOwn
import Derived.Lib.BufferOwn
set_option linter.unusedSimpArgs false
set_option linter.unusedVariables false
namespace Go.Proofs.YtmaehekekkfpmaaDoor.Sh
open Go
def u (x:BitVec 32):Int:=(x.toNat:Int)
def ub (x:BitVec 8):Int:=(x.toNat:Int)
def ul (x:BitVec 64):Int:=(x.toNat:Int)
abbrev U (x:BitVec 32):Value := .int .u32 (u x)
abbrev B (x:BitVec 8):Value := .int .u8 (ub x)
abbrev L (x:BitVec 64):Value := .int .u64 (ul x)
theorem u_nonneg (x:BitVec 32):0≤u x:=by unfold u;omega
theorem u_lt (x:BitVec 32):u x<4294967296:=by unfold u;have:=x.isLt;omega
theorem u_ofInt (x:BitVec 32):BitVec.ofInt 32 (u x)=x:=by
 apply BitVec.eq_of_toNat_eq;unfold u;rw [BitVec.ofInt_natCast,BitVec.toNat_ofNat];exact Nat.mod_eq_of_lt x.isLt
theorem u_wrap (x:BitVec 32):IntKind.u32.wrap (u x)=u x:=by
 rw [IntKind.wrap_u32'];exact Int.emod_eq_of_lt (u_nonneg x) (u_lt x)
theorem u_xor (a b:BitVec 32):bits .xor .u32 (u a) (u b)=u (a ^^^ b):=by
 show IntKind.u32.wrap ((BitVec.ofInt 32 (u a) ^^^ BitVec.ofInt 32 (u b)).toNat:Int)=_
 rw [u_ofInt,u_ofInt];exact u_wrap _
theorem u_and (a b:BitVec 32):bits .and .u32 (u a) (u b)=u (a &&& b):=by
 show IntKind.u32.wrap ((BitVec.ofInt 32 (u a) &&& BitVec.ofInt 32 (u b)).toNat:Int)=_
 rw [u_ofInt,u_ofInt];exact u_wrap _
theorem u_or (a b:BitVec 32):bits .or .u32 (u a) (u b)=u (a ||| b):=by
 show IntKind.u32.wrap ((BitVec.ofInt 32 (u a) ||| BitVec.ofInt 32 (u b)).toNat:Int)=_
 rw [u_ofInt,u_ofInt];exact u_wrap _
theorem u_add (a b:BitVec 32):IntKind.u32.wrap (u a+u b)=u (a+b):=by
 rw [IntKind.wrap_u32'];unfold u;rw [BitVec.toNat_add];omega
theorem u_shl (a:BitVec 32) (n:Nat):IntKind.u32.wrap (u a*2 ^ n)=u (a <<< n):=by
 rw [IntKind.wrap_u32'];unfold u;rw [BitVec.toNat_shiftLeft,Nat.shiftLeft_eq,Int.natCast_emod,Int.natCast_mul,Int.natCast_pow];rfl
theorem u_shr (a:BitVec 32) (n:Nat):u a/2 ^ n=u (a >>> n):=by
 unfold u;rw [BitVec.toNat_ushiftRight,Nat.shiftRight_eq_div_pow,Int.natCast_ediv,Int.natCast_pow];rfl
theorem u_shr3 (a:BitVec 32):u a/(8:Int)=u (a >>> 3):=u_shr a 3
theorem u_shr10 (a:BitVec 32):u a/(1024:Int)=u (a >>> 10):=u_shr a 10
theorem u_shr24 (a:BitVec 32):u a/(16777216:Int)=u (a >>> 24):=u_shr a 24
theorem u_shr16 (a:BitVec 32):u a/(65536:Int)=u (a >>> 16):=u_shr a 16
theorem u_shr8 (a:BitVec 32):u a/(256:Int)=u (a >>> 8):=u_shr a 8
theorem u_shl24 (a:BitVec 32):IntKind.u32.wrap (u a*(16777216:Int))=u (a <<< 24):=u_shl a 24
theorem u_shl16 (a:BitVec 32):IntKind.u32.wrap (u a*(65536:Int))=u (a <<< 16):=u_shl a 16
theorem u_shl8 (a:BitVec 32):IntKind.u32.wrap (u a*(256:Int))=u (a <<< 8):=u_shl a 8
theorem u_of_b (x:BitVec 8):IntKind.u32.wrap (ub x)=u (x.setWidth 32):=by
 have h:=x.isLt
 rw [IntKind.wrap_u32'];unfold u ub;rw [BitVec.toNat_setWidth];omega
theorem b_of_u (x:BitVec 32):IntKind.u8.wrap (u x)=ub (x.setWidth 8):=by
 rw [IntKind.wrap_u8'];unfold u ub;rw [BitVec.toNat_setWidth];omega
theorem ul_shr32 (x:BitVec 64):ul x/(4294967296:Int)=ul (x >>> 32):=by
 unfold ul;rw [BitVec.toNat_ushiftRight,Nat.shiftRight_eq_div_pow,Int.natCast_ediv];rfl
theorem ul_shr8 (x:BitVec 64):ul x/(256:Int)=ul (x >>> 8):=by
 unfold ul;rw [BitVec.toNat_ushiftRight,Nat.shiftRight_eq_div_pow,Int.natCast_ediv];rfl
theorem ul_shr16 (x:BitVec 64):ul x/(65536:Int)=ul (x >>> 16):=by
 unfold ul;rw [BitVec.toNat_ushiftRight,Nat.shiftRight_eq_div_pow,Int.natCast_ediv];rfl
theorem ul_shr24 (x:BitVec 64):ul x/(16777216:Int)=ul (x >>> 24):=by
 unfold ul;rw [BitVec.toNat_ushiftRight,Nat.shiftRight_eq_div_pow,Int.natCast_ediv];rfl
theorem ul_shr40 (x:BitVec 64):ul x/(1099511627776:Int)=ul (x >>> 40):=by
 unfold ul;rw [BitVec.toNat_ushiftRight,Nat.shiftRight_eq_div_pow,Int.natCast_ediv];rfl
theorem ul_shr48 (x:BitVec 64):ul x/(281474976710656:Int)=ul (x >>> 48):=by
 unfold ul;rw [BitVec.toNat_ushiftRight,Nat.shiftRight_eq_div_pow,Int.natCast_ediv];rfl
theorem ul_shr56 (x:BitVec 64):ul x/(72057594037927936:Int)=ul (x >>> 56):=by
 unfold ul;rw [BitVec.toNat_ushiftRight,Nat.shiftRight_eq_div_pow,Int.natCast_ediv];rfl
theorem b_of_l (x:BitVec 64):IntKind.u8.wrap (ul x)=ub (x.setWidth 8):=by
 rw [IntKind.wrap_u8'];unfold ub ul;rw [BitVec.toNat_setWidth];omega
theorem u_of_l (x:BitVec 64):IntKind.u32.wrap (ul x)=u (x.setWidth 32):=by
 rw [IntKind.wrap_u32'];unfold u ul;rw [BitVec.toNat_setWidth];omega
def bytes4 (x:BitVec 32):List Value:=[B ((x >>> 24).setWidth 8),B ((x >>> 16).setWidth 8),B ((x >>> 8).setWidth 8),B (x.setWidth 8)]
def bytes8 (x:BitVec 64):List Value:=bytes4 ((x >>> 32).setWidth 32) ++ bytes4 (x.setWidth 32)
def word (b0 b1 b2 b3:BitVec 8):BitVec 32:=b0.setWidth 32 <<< 24 ||| b1.setWidth 32 <<< 16 ||| b2.setWidth 32 <<< 8 ||| b3.setWidth 32
end Go.Proofs.YtmaehekekkfpmaaDoor.Sh
/- The small functions of package sha2 (SHA-256): rotations, sigmas, words and bytes, each by a contract of its own. -/
namespace Go.Proofs.YtmaehekekkfpmaaDoor.Sh
open Go Go.RowKit
attribute [local go_sem] u_xor u_and u_or u_add u_shl u_shr u_shr3 u_shr10 u_shr24 u_shr16 u_shr8 u_shl24 u_shl16 u_shl8 u_of_b b_of_u
set_option maxHeartbeats 400000 in
theorem word32_any (b off cap:Nat) (b0 b1 b2 b3:BitVec 8) (w:World) (h0:w.cell? ⟨b,off,none⟩=some (B b0)) (h1:w.cell? ⟨b,off+1,none⟩=some (B b1)) (h2:w.cell? ⟨b,off+2,none⟩=some (B b2)) (h3:w.cell? ⟨b,off+3,none⟩=some (B b3)) :
  Calls Tryd.prog 85 #[.slice (some ⟨b,off,none⟩) 4 cap] w fun e w'=>e = .returned (U (word b0 b1 b2 b3)) ∧ ∃ n,w'=w.drewN n:=by
 go_enter Tryd.func85,Tryd.ntmps85
 go_wp2
 go_quiet (fail)
 go_wp2
 go_ret
 exact ⟨rfl,nq,rfl⟩
set_option maxHeartbeats 400000 in
theorem putWord32_walk (b off cap:Nat) (x:BitVec 32) (w:World) (v0 v1 v2 v3:Value) (h0:w.cell? ⟨b,off,none⟩=some v0) (h1:w.cell? ⟨b,off+1,none⟩=some v1) (h2:w.cell? ⟨b,off+2,none⟩=some v2) (h3:w.cell? ⟨b,off+3,none⟩=some v3)
  (f0:w.frozen? ⟨b,off,none⟩=false) (f1:w.frozen? ⟨b,off+1,none⟩=false) (f2:w.frozen? ⟨b,off+2,none⟩=false) (f3:w.frozen? ⟨b,off+3,none⟩=false) :
  Calls Tryd.prog 50 #[.slice (some ⟨b,off,none⟩) 4 cap,U x] w fun e w'=>e = .returned (.tuple #[]) ∧
   w'=(((w.setCell ⟨b,off,none⟩ (B ((x >>> 24).setWidth 8))).setCell ⟨b,off+1,none⟩ (B ((x >>> 16).setWidth 8))).setCell ⟨b,off+2,none⟩ (B ((x >>> 8).setWidth 8))).setCell ⟨b,off+3,none⟩ (B (x.setWidth 8)):=by
 go_enter Tryd.func50,Tryd.ntmps50
 go_wp2
 go_end0
 exact ⟨rfl,rfl⟩
end Go.Proofs.YtmaehekekkfpmaaDoor.Sh
/- Small laws of memory that the walks want: rows in the midst of a block, results that lie in memory, frames. No dump is read here. -/
namespace Go.Proofs.YtmaehekekkfpmaaDoor.Sh
open Go Go.RowKit
theorem below_setCells {B0:Nat} {a:World} (b:Nat) (hB:B0≤b) : ∀ (vs:List Value) (o:Nat) (w:World),Below B0 a w→Below B0 a (w.setCells b o vs)
 | [],_,_,h=>h
 | v :: r,o,w,h=>by
  rw [World.setCells]
  exact below_setCells b hB r (o+1) _ (h.setCell hB v)
theorem setCells_append (b:Nat) : ∀ (xs:List Value) (o:Nat) (w:World) (ys:List Value),(w.setCells b o xs).setCells b (o+xs.length) ys=w.setCells b o (xs ++ ys)
 | [],_,_,_=>rfl
 | x :: r,o,w,ys=>by
  rw [World.setCells,List.cons_append,World.setCells,←setCells_append b r (o+1) _ ys,List.length_cons]
  congr 1;omega
theorem below_drewN {B0:Nat} {a w:World} (h:Below B0 a w) (n:Nat):Below B0 a (w.drewN n):=by
 induction n with
 | zero=>exact h
 | succ n ih=>exact ih.drew
theorem results_mid {P:Program} {fn:Func} {p:Tmp} {ty:TypeId} (h:fn.results = #[.cell p ty]) (tmps:Array Value) (w:World) (b o:Nat) (cs:List Value) (d:TypeDesc)
  (hp:tmps.getD p undef = .pointer (some ⟨b,o,none⟩)) (hc:w.rangeAt b o cs) (hu:P.underlying ty=some d) (hd:d.isRow=true) (hi:(P.info? ty).map (·.size)=some cs.length) :
  (results fn tmps).run P w = .ok (.agg cs.toArray) w:=by
 have hp':tmps[p]?.getD undef = .pointer (some ⟨b,o,none⟩):=by simpa using hp
 simp [results,h,hp',asAddr,run_loadVar_mid w b o ty cs d hc hu hd hi]
theorem there_of_row {w:World} {g:Nat} {cs:Array Value} {t:TypeId} (hg:w.heap[g]? = some (.cells cs t (0,0))) (o n:Nat) (hn:o+n≤cs.size):w.there g o n:=fun j hj =>
 ⟨by rw [cell_of_row w g (o+j) cs t _ hg,Array.getElem?_eq_getElem (by omega)];rfl,frozen_of_row _ _ _ _ _ hg⟩
theorem wpList_store_midL {P:Program} {ops:Array Oper} {rest:List Oper} {op:Oper} {a:Act} {w:World} {Q:Exit→Act→World→Prop} (hgd:op.guard=none) (ty:TypeId) (x y:Operand) (ho:op.op = .store ty x y)
  (b o:Nat) (cells:Array Value) (hx:a.eval x = .pointer (some ⟨b,o,none⟩)) (hy:a.eval y = .agg cells)
  (ht:w.there b o cells.size) (hi:(P.info? ty).map (·.size)=some cells.size) (h1:cells.all (·.oneCell')=true)
  (h : ∀ w',w'=w.setCells b o cells.toList→wpList P ops Q rest (a.put op.dst undef) w'):wpList P ops Q (op :: rest) a w :=
 wpList_store_mid hgd ty x y ho b o cells hx hy ht hi h1 (h _ rfl)
theorem cell_setCells (w:World) (g o i:Nat) (vs:List Value) (ht:w.there g o vs.length) :
  (w.setCells g o vs).cell? ⟨g,i,none⟩=if o≤i∧i<o+vs.length then vs[i - o]? else w.cell? ⟨g,i,none⟩:=by
 split
 ·rename_i h
  have hj:i - o<vs.length:=by omega
  have:=World.cell?_setCells_in g vs o w (fun j hj=>(ht j hj).1) (i - o) hj
  rw [show o+(i - o)=i by omega] at this
  rw [this,List.getElem?_eq_getElem hj]
 ·rename_i h
  exact World.cell?_setCells_out g vs o w ⟨g,i,none⟩ (fun _ _=>by simp only;omega)
theorem there_of_cells {w:World} {g o n:Nat} (f:Nat→Value) (hc : ∀ i,i<n→w.cell? ⟨g,o+i,none⟩=some (f i)) (hf : ∀ i,w.frozen? ⟨g,i,none⟩=false):w.there g o n:=fun j hj =>
 ⟨by rw [hc j hj];rfl,hf _⟩
theorem range_of_cells {w:World} {g o n:Nat} (f:Nat→Value) (hc : ∀ i,i<n→w.cell? ⟨g,o+i,none⟩=some (f i)):w.rangeAt g o ((List.range n).map f):=fun j v hv=>by
 obtain ⟨hj,hv'⟩:=List.getElem?_eq_some_iff.1 hv
 simp at hj hv'
 rw [hc j hj,hv']
theorem addr_add0 (g o j:Nat):(⟨g,o,none⟩:Addr).add j=⟨g,o+j,none⟩:=Addr.add_mid g o j
theorem arr_desc {P:Program} {t e:TypeId} {n:Nat} (hu:P.underlying t=some (.array n e)):P.arrayLen t=n∧P.elem t=e:=by
 constructor
 ·simp [Program.arrayLen,hu]
 ·simp [Program.elem,hu]
theorem size_run {P:Program} {e:TypeId} {s:Nat} (hs:(P.info? e).map (·.size)=some s) (w:World):(sizeOf e).run P w = .ok s w:=by
 cases hq:P.info? e with
 | none=>simp [hq] at hs
 | some i=>simp [hq] at hs;simp [sizeOf,typeInfo,hq,hs]
theorem sliceAt_lh {P:Program} (w:World) (t e:TypeId) (n g o:Nat) (lo hi:Int) (l h:Nat) (hl:lo=l) (hh:hi=h) (hu:P.underlying t=some (.array n e)) (hs:(P.info? e).map (·.size)=some 1) (h1:l≤h) (h2:h≤n) (h3:l<n) :
  (Instr.sliceAt t (.pointer (some ⟨g,o,none⟩)) (some (.int .i64 lo)) (some (.int .i64 hi)) none).run P w = .ok (.slice (some ⟨g,o+l,none⟩) (h - l) (n - l)) w:=by
 subst hl;subst hh
 obtain ⟨e1,e2⟩:=arr_desc hu
 rw [run_sliceAt_array_lh w t _ (by rw [e1,e2];exact hu) _ _ _ _ (by omega) (by omega) (by rw [e1];omega),e2,size_run hs w,e1]
 simp [slicedAt,addr_add0]
 omega
theorem sliceAt_h {P:Program} (w:World) (t e:TypeId) (n g o:Nat) (hi:Int) (h:Nat) (hh:hi=h) (hu:P.underlying t=some (.array n e)) (hs:(P.info? e).map (·.size)=some 1) (h2:h≤n) :
  (Instr.sliceAt t (.pointer (some ⟨g,o,none⟩)) none (some (.int .i64 hi)) none).run P w = .ok (.slice (some ⟨g,o,none⟩) h n) w:=by
 subst hh
 obtain ⟨e1,e2⟩:=arr_desc hu
 rw [run_sliceAt_array_h w t _ (by rw [e1,e2];exact hu) _ _ (by omega) (by rw [e1];omega),e2,size_run hs w,e1]
 simp [slicedAt,addr_add0]
theorem sliceAt_l {P:Program} (w:World) (t e:TypeId) (n g o:Nat) (lo:Int) (l:Nat) (hl:lo=l) (hu:P.underlying t=some (.array n e)) (hs:(P.info? e).map (·.size)=some 1) (h3:l<n) :
  (Instr.sliceAt t (.pointer (some ⟨g,o,none⟩)) (some (.int .i64 lo)) none none).run P w = .ok (.slice (some ⟨g,o+l,none⟩) (n - l) (n - l)) w:=by
 subst hl
 obtain ⟨e1,e2⟩:=arr_desc hu
 rw [run_sliceAt_array_l w t _ (by rw [e1,e2];exact hu) _ _ (by omega) (by rw [e1];omega),e2,size_run hs w,e1]
 simp [slicedAt,addr_add0]
 omega
theorem sliceAt_all {P:Program} (w:World) (t e:TypeId) (n g o:Nat) (hu:P.underlying t=some (.array n e)) (hs:(P.info? e).map (·.size)=some 1) :
  (Instr.sliceAt t (.pointer (some ⟨g,o,none⟩)) none none none).run P w = .ok (.slice (some ⟨g,o,none⟩) n n) w:=by
 obtain ⟨e1,e2⟩:=arr_desc hu
 rw [run_sliceAt_array_all w t _ (by rw [e1,e2];exact hu),e2,size_run hs w,e1]
 simp [slicedAt,addr_add0]
theorem wpList_copyL {P:Program} {w:World} {ops:Array Oper} {rest:List Oper} {o:Oper} {a:Act} {Q:Exit→Act→World→Prop} (hgd:o.guard=none) (d s:Operand) (dT sT:TypeId)
  (ho:o.op = .call { callee := .builtin .copy,args := #[d,s],argTypes := #[dT,sT] }) (elem:TypeId) (hu:P.underlying dT=some (.slice elem)) (hsz:(P.info? elem).map (·.size)=some 1)
  (g off dLen dCap:Nat) (ad:Addr) (sLen sCap:Nat) (hd:a.eval d = .slice (some ⟨g,off,none⟩) dLen dCap) (hs:a.eval s = .slice (some ad) sLen sCap)
  (cur:Array Value) (t:TypeId) (hg:w.heap[g]? = some (.cells cur t (0,0))) (cs:List Value) (hn:cs.length=Nat.min sLen dLen)
  (hsrc : ∀ j v,cs[j]? = some v→w.cell? (ad.add j)=some v) (hfit:off+cs.length≤cur.size) (h1 : ∀ v ∈ cs,v.oneCell'=true)
  (h : ∀ w',w.grownBy w' (some g)→w'.heap.size=w.heap.size→w'.heap[g]? = some (.cells (cur.toList.take off ++ (cs ++ cur.toList.drop (off+cs.length))).toArray t (0,0))→wpList P ops Q rest (a.put o.dst (.int .i64 (cs.length:Int))) w'):wpList P ops Q (o :: rest) a w :=
 wpList_copy_own hgd d s dT sT ho elem hu hsz g off dLen dCap ad sLen sCap hd hs cur t hg cs hn hsrc hfit h1
  (h _ ⟨rfl,rfl,rfl,by simp [World.setRow],fun k _ hk=>setRow_other w g k _ (fun e=>hk (by rw [e]))⟩ (by simp) (setRow_heap w g cur _ t _ hg))
end Go.Proofs.YtmaehekekkfpmaaDoor.Sh
/- Plain mathematics of SHA-512: words of 64 bits, sigma functions, and the walk's own spellings of them. -/
namespace Go.Proofs.YtmaehekekkfpmaaDoor.Sh.Q5
open Go
def u (x:BitVec 64):Int:=(x.toNat:Int)
abbrev U (x:BitVec 64):Value := .int .u64 (u x)
theorem u_nonneg (x:BitVec 64):0≤u x:=by unfold u;omega
theorem u_lt (x:BitVec 64):u x<18446744073709551616:=by unfold u;have:=x.isLt;omega
theorem u_ofInt (x:BitVec 64):BitVec.ofInt 64 (u x)=x:=by
 apply BitVec.eq_of_toNat_eq;unfold u;rw [BitVec.ofInt_natCast,BitVec.toNat_ofNat];exact Nat.mod_eq_of_lt x.isLt
theorem u_wrap (x:BitVec 64):IntKind.u64.wrap (u x)=u x:=by
 rw [IntKind.wrap_u64];exact Int.emod_eq_of_lt (u_nonneg x) (u_lt x)
theorem u_xor (a b:BitVec 64):bits .xor .u64 (u a) (u b)=u (a ^^^ b):=by
 show IntKind.u64.wrap ((BitVec.ofInt 64 (u a) ^^^ BitVec.ofInt 64 (u b)).toNat:Int)=_
 rw [u_ofInt,u_ofInt];exact u_wrap _
theorem u_and (a b:BitVec 64):bits .and .u64 (u a) (u b)=u (a &&& b):=by
 show IntKind.u64.wrap ((BitVec.ofInt 64 (u a) &&& BitVec.ofInt 64 (u b)).toNat:Int)=_
 rw [u_ofInt,u_ofInt];exact u_wrap _
theorem u_or (a b:BitVec 64):bits .or .u64 (u a) (u b)=u (a ||| b):=by
 show IntKind.u64.wrap ((BitVec.ofInt 64 (u a) ||| BitVec.ofInt 64 (u b)).toNat:Int)=_
 rw [u_ofInt,u_ofInt];exact u_wrap _
theorem u_add (a b:BitVec 64):IntKind.u64.wrap (u a+u b)=u (a+b):=by
 rw [IntKind.wrap_u64];unfold u;rw [BitVec.toNat_add];omega
theorem u_shl (a:BitVec 64) (n:Nat):IntKind.u64.wrap (u a*2 ^ n)=u (a <<< n):=by
 rw [IntKind.wrap_u64];unfold u;rw [BitVec.toNat_shiftLeft,Nat.shiftLeft_eq,Int.natCast_emod,Int.natCast_mul,Int.natCast_pow];rfl
theorem u_shr (a:BitVec 64) (n:Nat):u a/2 ^ n=u (a >>> n):=by
 unfold u;rw [BitVec.toNat_ushiftRight,Nat.shiftRight_eq_div_pow,Int.natCast_ediv,Int.natCast_pow];rfl
theorem u_shr7 (a:BitVec 64):u a/(128:Int)=u (a >>> 7):=u_shr a 7
theorem u_shr6 (a:BitVec 64):u a/(64:Int)=u (a >>> 6):=u_shr a 6
theorem u_shr56 (a:BitVec 64):u a/(72057594037927936:Int)=u (a >>> 56):=u_shr a 56
theorem u_shr48 (a:BitVec 64):u a/(281474976710656:Int)=u (a >>> 48):=u_shr a 48
theorem u_shr40 (a:BitVec 64):u a/(1099511627776:Int)=u (a >>> 40):=u_shr a 40
theorem u_shr32 (a:BitVec 64):u a/(4294967296:Int)=u (a >>> 32):=u_shr a 32
theorem u_shr24 (a:BitVec 64):u a/(16777216:Int)=u (a >>> 24):=u_shr a 24
theorem u_shr16 (a:BitVec 64):u a/(65536:Int)=u (a >>> 16):=u_shr a 16
theorem u_shr8 (a:BitVec 64):u a/(256:Int)=u (a >>> 8):=u_shr a 8
theorem u_shl32 (a:BitVec 64):IntKind.u64.wrap (u a*(4294967296:Int))=u (a <<< 32):=u_shl a 32
theorem u_shl8 (a:BitVec 64):IntKind.u64.wrap (u a*(256:Int))=u (a <<< 8):=u_shl a 8
theorem u_of_b (x:BitVec 8):IntKind.u64.wrap (ub x)=u (x.setWidth 64):=by
 have h:=x.isLt
 rw [IntKind.wrap_u64];unfold u ub;rw [BitVec.toNat_setWidth];omega
theorem u_of_w (x:BitVec 32):IntKind.u64.wrap (Go.Proofs.YtmaehekekkfpmaaDoor.Sh.u x)=u (x.setWidth 64):=by
 have h:=x.isLt
 rw [IntKind.wrap_u64];unfold u Go.Proofs.YtmaehekekkfpmaaDoor.Sh.u;rw [BitVec.toNat_setWidth];omega
theorem b_of_u (x:BitVec 64):IntKind.u8.wrap (u x)=ub (x.setWidth 8):=by
 rw [IntKind.wrap_u8'];unfold u ub;rw [BitVec.toNat_setWidth];omega
def rotr (x:BitVec 64) (n:Nat):BitVec 64:=(x <<< (64 - n)) ||| (x >>> n)
theorem neg_and : ∀ n:Fin 64,1≤n.val→bits BinOp.and IntKind.u64 (IntKind.u64.wrap (-(n.val:Int))) 63=((64 - n.val:Nat):Int):=by decide +kernel
def up0 (x:BitVec 64):BitVec 64:=rotr x 28 ^^^ rotr x 34 ^^^ rotr x 39
def up1 (x:BitVec 64):BitVec 64:=rotr x 14 ^^^ rotr x 18 ^^^ rotr x 41
def lo0 (x:BitVec 64):BitVec 64:=rotr x 1 ^^^ rotr x 8 ^^^ x >>> 7
def lo1 (x:BitVec 64):BitVec 64:=rotr x 19 ^^^ rotr x 61 ^^^ x >>> 6
def word (b:Nat→BitVec 8):BitVec 64:=(Go.Proofs.YtmaehekekkfpmaaDoor.Sh.word (b 0) (b 1) (b 2) (b 3)).setWidth 64 <<< 32 ||| (Go.Proofs.YtmaehekekkfpmaaDoor.Sh.word (b 4) (b 5) (b 6) (b 7)).setWidth 64
end Go.Proofs.YtmaehekekkfpmaaDoor.Sh.Q5
