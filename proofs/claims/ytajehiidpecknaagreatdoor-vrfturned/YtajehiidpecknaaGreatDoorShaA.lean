import Derived.WalkKit
import Derived.WalkSpells
import Derived.Test.YtajehiidpecknaaGreatDoorProg
import Derived.Test.YtajehiidpecknaaGreatDoorChecked
import Derived.Outline
import Derived.BigQuiet
import Derived.Deep.QuietTactic
import Derived.Deep.MidRow
import Derived.Laws.CopyOwn
import Derived.Lib.BufferOwn
import Derived.Test.YtajehiidpecknaaGreatDoorRgnG
set_option linter.all false
namespace Go.Proofs.YtajehiidpecknaaGreatDoor.Sh
open Go
def u (x:BitVec 32):Int:=(x.toNat:Int)
def ub (x:BitVec 8):Int:=(x.toNat:Int)
def ul (x:BitVec 64):Int:=(x.toNat:Int)
abbrev U (x:BitVec 32):Value := .int .u32 (u x)
abbrev B (x:BitVec 8):Value := .int .u8 (ub x)
abbrev L (x:BitVec 64):Value := .int .u64 (ul x)
theorem nN (x:BitVec 32):0≤u x:=by unfold u;omega
theorem J0 (x:BitVec 32):u x<4294967296:=by unfold u;have:=x.isLt;omega
theorem cE (x:BitVec 32):BitVec.ofInt 32 (u x)=x:=by
 apply BitVec.eq_of_toNat_eq;unfold u;rw [BitVec.ofInt_natCast,BitVec.toNat_ofNat];exact YK x.isLt
theorem gT (x:BitVec 32):IntKind.u32.wrap (u x)=u x:=by
 rw [IntKind.wrap_u32'];exact Int.emod_eq_of_lt (nN x) (J0 x)
theorem ju (a b:BitVec 32):bits .xor .u32 (u a) (u b)=u (a ^^^ b):=by
 show IntKind.u32.wrap ((BitVec.ofInt 32 (u a) ^^^ BitVec.ofInt 32 (u b)).toNat:Int)=_
 rw [cE,cE];exact gT _
theorem jG (a b:BitVec 32):bits .and .u32 (u a) (u b)=u (a &&& b):=by
 show IntKind.u32.wrap ((BitVec.ofInt 32 (u a) &&& BitVec.ofInt 32 (u b)).toNat:Int)=_
 rw [cE,cE];exact gT _
theorem nL (a b:BitVec 32):bits .or .u32 (u a) (u b)=u (a ||| b):=by
 show IntKind.u32.wrap ((BitVec.ofInt 32 (u a) ||| BitVec.ofInt 32 (u b)).toNat:Int)=_
 rw [cE,cE];exact gT _
theorem jv (a b:BitVec 32):IntKind.u32.wrap (u a+u b)=u (a+b):=by
 rw [IntKind.wrap_u32'];unfold u;rw [BitVec.toNat_add];omega
theorem jt (a:BitVec 32) (n:Nat):IntKind.u32.wrap (u a*2 ^ n)=u (a <<< n):=by
 rw [IntKind.wrap_u32'];unfold u;rw [BitVec.toNat_shiftLeft,Nat.shiftLeft_eq,Int.natCast_emod,Int.natCast_mul,Int.natCast_pow];rfl
theorem dy (a:BitVec 32) (n:Nat):u a/2 ^ n=u (a >>> n):=by
 unfold u;rw [BitVec.toNat_ushiftRight,Nat.shiftRight_eq_div_pow,Int.natCast_ediv,Int.natCast_pow];rfl
theorem KV (a:BitVec 32):u a/(8:Int)=u (a >>> 3):=dy a 3
theorem GN (a:BitVec 32):u a/(1024:Int)=u (a >>> 10):=dy a 10
theorem sS (a:BitVec 32):u a/(16777216:Int)=u (a >>> 24):=dy a 24
theorem rV (a:BitVec 32):u a/(65536:Int)=u (a >>> 16):=dy a 16
theorem wV (a:BitVec 32):u a/(256:Int)=u (a >>> 8):=dy a 8
theorem IP (a:BitVec 32):IntKind.u32.wrap (u a*(16777216:Int))=u (a <<< 24):=jt a 24
theorem Im (a:BitVec 32):IntKind.u32.wrap (u a*(65536:Int))=u (a <<< 16):=jt a 16
theorem xS (a:BitVec 32):IntKind.u32.wrap (u a*(256:Int))=u (a <<< 8):=jt a 8
theorem yg (x:BitVec 8):IntKind.u32.wrap (ub x)=u (x.setWidth 32):=by
 have h:=x.isLt
 rw [IntKind.wrap_u32'];unfold u ub;rw [BitVec.toNat_setWidth];omega
theorem x9 (x:BitVec 32):IntKind.u8.wrap (u x)=ub (x.setWidth 8):=by
 rw [IntKind.wrap_u8'];unfold u ub;rw [BitVec.toNat_setWidth];omega
theorem o9 (x:BitVec 64):ul x/(4294967296:Int)=ul (x >>> 32):=by
 unfold ul;rw [BitVec.toNat_ushiftRight,Nat.shiftRight_eq_div_pow,Int.natCast_ediv];rfl
theorem y9 (x:BitVec 64):ul x/(256:Int)=ul (x >>> 8):=by
 unfold ul;rw [BitVec.toNat_ushiftRight,Nat.shiftRight_eq_div_pow,Int.natCast_ediv];rfl
theorem uz (x:BitVec 64):ul x/(65536:Int)=ul (x >>> 16):=by
 unfold ul;rw [BitVec.toNat_ushiftRight,Nat.shiftRight_eq_div_pow,Int.natCast_ediv];rfl
theorem uU (x:BitVec 64):ul x/(16777216:Int)=ul (x >>> 24):=by
 unfold ul;rw [BitVec.toNat_ushiftRight,Nat.shiftRight_eq_div_pow,Int.natCast_ediv];rfl
theorem vq (x:BitVec 64):ul x/(1099511627776:Int)=ul (x >>> 40):=by
 unfold ul;rw [BitVec.toNat_ushiftRight,Nat.shiftRight_eq_div_pow,Int.natCast_ediv];rfl
theorem vn (x:BitVec 64):ul x/(281474976710656:Int)=ul (x >>> 48):=by
 unfold ul;rw [BitVec.toNat_ushiftRight,Nat.shiftRight_eq_div_pow,Int.natCast_ediv];rfl
theorem vh (x:BitVec 64):ul x/(72057594037927936:Int)=ul (x >>> 56):=by
 unfold ul;rw [BitVec.toNat_ushiftRight,Nat.shiftRight_eq_div_pow,Int.natCast_ediv];rfl
theorem EP (x:BitVec 64):IntKind.u8.wrap (ul x)=ub (x.setWidth 8):=by
 rw [IntKind.wrap_u8'];unfold ub ul;rw [BitVec.toNat_setWidth];omega
theorem Kq (x:BitVec 64):IntKind.u32.wrap (ul x)=u (x.setWidth 32):=by
 rw [IntKind.wrap_u32'];unfold u ul;rw [BitVec.toNat_setWidth];omega
def ic (x:BitVec 32):List Value:=[B ((x >>> 24).setWidth 8),B ((x >>> 16).setWidth 8),B ((x >>> 8).setWidth 8),B (x.setWidth 8)]
def eI (x:BitVec 64):List Value:=ic ((x >>> 32).setWidth 32) ++ ic (x.setWidth 32)
def word (b0 b1 b2 b3:BitVec 8):BitVec 32:=b0.setWidth 32 <<< 24 ||| b1.setWidth 32 <<< 16 ||| b2.setWidth 32 <<< 8 ||| b3.setWidth 32
end Go.Proofs.YtajehiidpecknaaGreatDoor.Sh
namespace Go.Proofs.YtajehiidpecknaaGreatDoor.Sh
open Go Go.RowKit
attribute [local go_sem] ju jG nL jv jt dy KV GN sS rV wV IP Im xS yg x9
set_option maxHeartbeats 400000 in
theorem wT (b off cap:Nat) (b0 b1 b2 b3:BitVec 8) (w:World) (h0:w.cell? ⟨b,off,none⟩=some (B b0)) (h1:w.cell? ⟨b,off+1,none⟩=some (B b1)) (h2:w.cell? ⟨b,off+2,none⟩=some (B b2)) (h3:w.cell? ⟨b,off+3,none⟩=some (B b3)) :
  Calls Tryz.prog 149 #[.slice (some ⟨b,off,none⟩) 4 cap] w fun e w'=>e = .returned (U (word b0 b1 b2 b3)) ∧ ∃ n,w'=w.drewN n:=by
 go_enter Tryz.func149,Tryz.ntmps149
 go_wp2
 go_quiet (fail)
 go_wp2
 go_ret
 exact ⟨rfl,nq,rfl⟩
set_option maxHeartbeats 400000 in
theorem oh (b off cap:Nat) (x:BitVec 32) (w:World) (v0 v1 v2 v3:Value) (h0:w.cell? ⟨b,off,none⟩=some v0) (h1:w.cell? ⟨b,off+1,none⟩=some v1) (h2:w.cell? ⟨b,off+2,none⟩=some v2) (h3:w.cell? ⟨b,off+3,none⟩=some v3)
  (f0:w.frozen? ⟨b,off,none⟩=false) (f1:w.frozen? ⟨b,off+1,none⟩=false) (f2:w.frozen? ⟨b,off+2,none⟩=false) (f3:w.frozen? ⟨b,off+3,none⟩=false) :
  Calls Tryz.prog 105 #[.slice (some ⟨b,off,none⟩) 4 cap,U x] w fun e w'=>e = .returned (.tuple #[]) ∧
   w'=(((w.setCell ⟨b,off,none⟩ (B ((x >>> 24).setWidth 8))).setCell ⟨b,off+1,none⟩ (B ((x >>> 16).setWidth 8))).setCell ⟨b,off+2,none⟩ (B ((x >>> 8).setWidth 8))).setCell ⟨b,off+3,none⟩ (B (x.setWidth 8)):=by
 go_enter Tryz.func105,Tryz.ntmps105
 go_wp2
 go_end0
 exact ⟨rfl,rfl⟩
end Go.Proofs.YtajehiidpecknaaGreatDoor.Sh
namespace Go.Proofs.YtajehiidpecknaaGreatDoor.Sh
open Go Go.RowKit
theorem af {B0:Nat} {a:World} (b:Nat) (hB:B0≤b) : ∀ (vs:List Value) (o:Nat) (w:World),Below B0 a w→Below B0 a (w.setCells b o vs)
 | [],_,_,h=>h
 | v :: r,o,w,h=>by
  rw [World.setCells]
  exact af b hB r (o+1) _ (h.setCell hB v)
theorem ij (b:Nat) : ∀ (xs:List Value) (o:Nat) (w:World) (ys:List Value),(w.setCells b o xs).setCells b (o+xs.length) ys=w.setCells b o (xs ++ ys)
 | [],_,_,_=>rfl
 | x :: r,o,w,ys=>by
  rw [World.setCells,List.cons_append,World.setCells,←ij b r (o+1) _ ys,List.length_cons]
  congr 1;omega
theorem fG {B0:Nat} {a w:World} (h:Below B0 a w) (n:Nat):Below B0 a (w.drewN n):=by
 induction n with
 | zero=>exact h
 | succ n ih=>exact ih.drew
theorem aN {P:Program} {fn:Func} {p:Tmp} {ty:TypeId} (h:fn.results = #[.cell p ty]) (tmps:Array Value) (w:World) (b o:Nat) (cs:List Value) (d:TypeDesc)
  (hp:tmps.getD p undef = .pointer (some ⟨b,o,none⟩)) (hc:w.rangeAt b o cs) (hu:P.underlying ty=some d) (hd:d.isRow=true) (hi:(P.info? ty).map (·.size)=some cs.length) :
  (results fn tmps).run P w = .ok (.agg cs.toArray) w:=by
 have hp':tmps[p]?.getD undef = .pointer (some ⟨b,o,none⟩):=by simpa using hp
 simp [results,h,hp',asAddr,run_loadVar_mid w b o ty cs d hc hu hd hi]
theorem aw {w:World} {g:Nat} {cs:Array Value} {t:TypeId} (hg:w.heap[g]? = some (.cells cs t (0,0))) (o n:Nat) (hn:o+n≤cs.size):w.there g o n:=fun j hj =>
 ⟨by rw [cell_of_row w g (o+j) cs t _ hg,Array.getElem?_eq_getElem (by omega)];rfl,frozen_of_row _ _ _ _ _ hg⟩
theorem fI {P:Program} {ops:Array Oper} {rest:List Oper} {op:Oper} {a:Act} {w:World} {Q:Exit→Act→World→Prop} (hgd:op.guard=none) (ty:TypeId) (x y:Operand) (ho:op.op = .store ty x y)
  (b o:Nat) (cells:Array Value) (hx:a.eval x = .pointer (some ⟨b,o,none⟩)) (hy:a.eval y = .agg cells)
  (ht:w.there b o cells.size) (hi:(P.info? ty).map (·.size)=some cells.size) (h1:cells.all (·.oneCell')=true)
  (h : ∀ w',w'=w.setCells b o cells.toList→wpList P ops Q rest (a.put op.dst undef) w'):wpList P ops Q (op :: rest) a w :=
 wpList_store_mid hgd ty x y ho b o cells hx hy ht hi h1 (h _ rfl)
theorem jE (w:World) (g o i:Nat) (vs:List Value) (ht:w.there g o vs.length) :
  (w.setCells g o vs).cell? ⟨g,i,none⟩=if o≤i∧i<o+vs.length then vs[i - o]? else w.cell? ⟨g,i,none⟩:=by
 split
 ·rename_i h
  have hj:i - o<vs.length:=by omega
  have:=World.cell?_setCells_in g vs o w (fun j hj=>(ht j hj).1) (i - o) hj
  rw [show o+(i - o)=i by omega] at this
  rw [this,List.getElem?_eq_getElem hj]
 ·rename_i h
  exact World.cell?_setCells_out g vs o w ⟨g,i,none⟩ (fun _ _=>by simp only;omega)
theorem iD {w:World} {g o n:Nat} (f:Nat→Value) (hc : ∀ i,i<n→w.cell? ⟨g,o+i,none⟩=some (f i)) (hf : ∀ i,w.frozen? ⟨g,i,none⟩=false):w.there g o n:=fun j hj =>
 ⟨by rw [hc j hj];rfl,hf _⟩
theorem iO {w:World} {g o n:Nat} (f:Nat→Value) (hc : ∀ i,i<n→w.cell? ⟨g,o+i,none⟩=some (f i)):w.rangeAt g o ((List.range n).map f):=fun j v hv=>by
 obtain ⟨hj,hv'⟩:=List.getElem?_eq_some_iff.1 hv
 simp at hj hv'
 rw [hc j hj,hv']
theorem bL (g o j:Nat):(⟨g,o,none⟩:Addr).add j=⟨g,o+j,none⟩:=Addr.add_mid g o j
theorem gv {P:Program} {t e:TypeId} {n:Nat} (hu:P.underlying t=some (.array n e)):P.arrayLen t=n∧P.elem t=e:=by
 constructor
 ·simp [Program.arrayLen,hu]
 ·simp [Program.elem,hu]
theorem gH {P:Program} {e:TypeId} {s:Nat} (hs:(P.info? e).map (·.size)=some s) (w:World):(sizeOf e).run P w = .ok s w:=by
 cases hq:P.info? e with
 | none=>simp [hq] at hs
 | some i=>simp [hq] at hs;simp [sizeOf,typeInfo,hq,hs]
theorem cF {P:Program} (w:World) (t e:TypeId) (n g o:Nat) (lo hi:Int) (l h:Nat) (hl:lo=l) (hh:hi=h) (hu:P.underlying t=some (.array n e)) (hs:(P.info? e).map (·.size)=some 1) (h1:l≤h) (h2:h≤n) (h3:l<n) :
  (Instr.sliceAt t (.pointer (some ⟨g,o,none⟩)) (some (.int .i64 lo)) (some (.int .i64 hi)) none).run P w = .ok (.slice (some ⟨g,o+l,none⟩) (h - l) (n - l)) w:=by
 subst hl;subst hh
 obtain ⟨e1,e2⟩:=gv hu
 rw [run_sliceAt_array_lh w t _ (by rw [e1,e2];exact hu) _ _ _ _ (by omega) (by omega) (by rw [e1];omega),e2,gH hs w,e1]
 simp [slicedAt,bL]
 omega
theorem Bf {P:Program} (w:World) (t e:TypeId) (n g o:Nat) (hi:Int) (h:Nat) (hh:hi=h) (hu:P.underlying t=some (.array n e)) (hs:(P.info? e).map (·.size)=some 1) (h2:h≤n) :
  (Instr.sliceAt t (.pointer (some ⟨g,o,none⟩)) none (some (.int .i64 hi)) none).run P w = .ok (.slice (some ⟨g,o,none⟩) h n) w:=by
 subst hh
 obtain ⟨e1,e2⟩:=gv hu
 rw [run_sliceAt_array_h w t _ (by rw [e1,e2];exact hu) _ _ (by omega) (by rw [e1];omega),e2,gH hs w,e1]
 simp [slicedAt,bL]
theorem Ay {P:Program} (w:World) (t e:TypeId) (n g o:Nat) (lo:Int) (l:Nat) (hl:lo=l) (hu:P.underlying t=some (.array n e)) (hs:(P.info? e).map (·.size)=some 1) (h3:l<n) :
  (Instr.sliceAt t (.pointer (some ⟨g,o,none⟩)) (some (.int .i64 lo)) none none).run P w = .ok (.slice (some ⟨g,o+l,none⟩) (n - l) (n - l)) w:=by
 subst hl
 obtain ⟨e1,e2⟩:=gv hu
 rw [run_sliceAt_array_l w t _ (by rw [e1,e2];exact hu) _ _ (by omega) (by rw [e1];omega),e2,gH hs w,e1]
 simp [slicedAt,bL]
 omega
theorem vv {P:Program} (w:World) (t e:TypeId) (n g o:Nat) (hu:P.underlying t=some (.array n e)) (hs:(P.info? e).map (·.size)=some 1) :
  (Instr.sliceAt t (.pointer (some ⟨g,o,none⟩)) none none none).run P w = .ok (.slice (some ⟨g,o,none⟩) n n) w:=by
 obtain ⟨e1,e2⟩:=gv hu
 rw [run_sliceAt_array_all w t _ (by rw [e1,e2];exact hu),e2,gH hs w,e1]
 simp [slicedAt,bL]
theorem kN {P:Program} {w:World} {ops:Array Oper} {rest:List Oper} {o:Oper} {a:Act} {Q:Exit→Act→World→Prop} (hgd:o.guard=none) (d s:Operand) (dT sT:TypeId)
  (ho:o.op = .call { callee := .builtin .copy,args := #[d,s],argTypes := #[dT,sT] }) (elem:TypeId) (hu:P.underlying dT=some (.slice elem)) (hsz:(P.info? elem).map (·.size)=some 1)
  (g off dLen dCap:Nat) (ad:Addr) (sLen sCap:Nat) (hd:a.eval d = .slice (some ⟨g,off,none⟩) dLen dCap) (hs:a.eval s = .slice (some ad) sLen sCap)
  (cur:Array Value) (t:TypeId) (hg:w.heap[g]? = some (.cells cur t (0,0))) (cs:List Value) (hn:cs.length=Nat.min sLen dLen)
  (hsrc : ∀ j v,cs[j]? = some v→w.cell? (ad.add j)=some v) (hfit:off+cs.length≤cur.size) (h1 : ∀ v ∈ cs,v.oneCell'=true)
  (h : ∀ w',w.grownBy w' (some g)→w'.heap.size=w.heap.size→w'.heap[g]? = some (.cells (cur.toList.take off ++ (cs ++ cur.toList.drop (off+cs.length))).toArray t (0,0))→wpList P ops Q rest (a.put o.dst (.int .i64 (cs.length:Int))) w'):wpList P ops Q (o :: rest) a w :=
 wpList_copy_own hgd d s dT sT ho elem hu hsz g off dLen dCap ad sLen sCap hd hs cur t hg cs hn hsrc hfit h1
  (h _ ⟨rfl,rfl,rfl,by simp [World.setRow],fun k _ hk=>setRow_other w g k _ (fun e=>hk (by rw [e]))⟩ (by simp) (setRow_heap w g cur _ t _ hg))
end Go.Proofs.YtajehiidpecknaaGreatDoor.Sh
namespace Go.Proofs.YtajehiidpecknaaGreatDoor.Sh.Q5
open Go
def u (x:BitVec 64):Int:=(x.toNat:Int)
abbrev U (x:BitVec 64):Value := .int .u64 (u x)
theorem nN (x:BitVec 64):0≤u x:=by unfold u;omega
theorem J0 (x:BitVec 64):u x<18446744073709551616:=by unfold u;have:=x.isLt;omega
theorem cE (x:BitVec 64):BitVec.ofInt 64 (u x)=x:=by
 apply BitVec.eq_of_toNat_eq;unfold u;rw [BitVec.ofInt_natCast,BitVec.toNat_ofNat];exact YK x.isLt
theorem gT (x:BitVec 64):IntKind.u64.wrap (u x)=u x:=by
 rw [IntKind.wrap_u64];exact Int.emod_eq_of_lt (nN x) (J0 x)
theorem ju (a b:BitVec 64):bits .xor .u64 (u a) (u b)=u (a ^^^ b):=by
 show IntKind.u64.wrap ((BitVec.ofInt 64 (u a) ^^^ BitVec.ofInt 64 (u b)).toNat:Int)=_
 rw [cE,cE];exact gT _
theorem jG (a b:BitVec 64):bits .and .u64 (u a) (u b)=u (a &&& b):=by
 show IntKind.u64.wrap ((BitVec.ofInt 64 (u a) &&& BitVec.ofInt 64 (u b)).toNat:Int)=_
 rw [cE,cE];exact gT _
theorem nL (a b:BitVec 64):bits .or .u64 (u a) (u b)=u (a ||| b):=by
 show IntKind.u64.wrap ((BitVec.ofInt 64 (u a) ||| BitVec.ofInt 64 (u b)).toNat:Int)=_
 rw [cE,cE];exact gT _
theorem jv (a b:BitVec 64):IntKind.u64.wrap (u a+u b)=u (a+b):=by
 rw [IntKind.wrap_u64];unfold u;rw [BitVec.toNat_add];omega
theorem jt (a:BitVec 64) (n:Nat):IntKind.u64.wrap (u a*2 ^ n)=u (a <<< n):=by
 rw [IntKind.wrap_u64];unfold u;rw [BitVec.toNat_shiftLeft,Nat.shiftLeft_eq,Int.natCast_emod,Int.natCast_mul,Int.natCast_pow];rfl
theorem dy (a:BitVec 64) (n:Nat):u a/2 ^ n=u (a >>> n):=by
 unfold u;rw [BitVec.toNat_ushiftRight,Nat.shiftRight_eq_div_pow,Int.natCast_ediv,Int.natCast_pow];rfl
theorem EM (a:BitVec 64):u a/(128:Int)=u (a >>> 7):=dy a 7
theorem CV (a:BitVec 64):u a/(64:Int)=u (a >>> 6):=dy a 6
theorem Ja (a:BitVec 64):u a/(72057594037927936:Int)=u (a >>> 56):=dy a 56
theorem I1 (a:BitVec 64):u a/(281474976710656:Int)=u (a >>> 48):=dy a 48
theorem FW (a:BitVec 64):u a/(1099511627776:Int)=u (a >>> 40):=dy a 40
theorem H5 (a:BitVec 64):u a/(4294967296:Int)=u (a >>> 32):=dy a 32
theorem sS (a:BitVec 64):u a/(16777216:Int)=u (a >>> 24):=dy a 24
theorem rV (a:BitVec 64):u a/(65536:Int)=u (a >>> 16):=dy a 16
theorem wV (a:BitVec 64):u a/(256:Int)=u (a >>> 8):=dy a 8
theorem I3 (a:BitVec 64):IntKind.u64.wrap (u a*(4294967296:Int))=u (a <<< 32):=jt a 32
theorem xS (a:BitVec 64):IntKind.u64.wrap (u a*(256:Int))=u (a <<< 8):=jt a 8
theorem yg (x:BitVec 8):IntKind.u64.wrap (ub x)=u (x.setWidth 64):=by
 have h:=x.isLt
 rw [IntKind.wrap_u64];unfold u ub;rw [BitVec.toNat_setWidth];omega
theorem JQ (x:BitVec 32):IntKind.u64.wrap (Go.Proofs.YtajehiidpecknaaGreatDoor.Sh.u x)=u (x.setWidth 64):=by
 have h:=x.isLt
 rw [IntKind.wrap_u64];unfold u Go.Proofs.YtajehiidpecknaaGreatDoor.Sh.u;rw [BitVec.toNat_setWidth];omega
theorem x9 (x:BitVec 64):IntKind.u8.wrap (u x)=ub (x.setWidth 8):=by
 rw [IntKind.wrap_u8'];unfold u ub;rw [BitVec.toNat_setWidth];omega
def gD (x:BitVec 64) (n:Nat):BitVec 64:=(x <<< (64 - n)) ||| (x >>> n)
theorem Gd : ∀ n:Fin 64,1≤n.val→bits BinOp.and IntKind.u64 (IntKind.u64.wrap (-(n.val:Int))) 63=((64 - n.val:Nat):Int):=by decide +kernel
def up0 (x:BitVec 64):BitVec 64:=gD x 28 ^^^ gD x 34 ^^^ gD x 39
def up1 (x:BitVec 64):BitVec 64:=gD x 14 ^^^ gD x 18 ^^^ gD x 41
def lo0 (x:BitVec 64):BitVec 64:=gD x 1 ^^^ gD x 8 ^^^ x >>> 7
def lo1 (x:BitVec 64):BitVec 64:=gD x 19 ^^^ gD x 61 ^^^ x >>> 6
def word (b:Nat→BitVec 8):BitVec 64:=(Go.Proofs.YtajehiidpecknaaGreatDoor.Sh.word (b 0) (b 1) (b 2) (b 3)).setWidth 64 <<< 32 ||| (Go.Proofs.YtajehiidpecknaaGreatDoor.Sh.word (b 4) (b 5) (b 6) (b 7)).setWidth 64
def cM (b:Nat→BitVec 8):Nat→BitVec 64
 | 0=>0
 | i+1=>cM b i <<< 8 ||| (b i).setWidth 64
theorem dH (a b:BitVec 64) (n:Nat) (ha:a.toNat*2 ^ n<2 ^ 64) (hb:b.toNat<2 ^ n):(a <<< n ||| b).toNat=a.toNat*2 ^ n+b.toNat:=by
 rw [BitVec.toNat_or,BitVec.toNat_shiftLeft,Nat.shiftLeft_eq,YK ha,←Nat.shiftLeft_eq,←Nat.shiftLeft_add_eq_or_of_lt hb]
theorem ot (a b:BitVec 32) (n:Nat) (ha:a.toNat*2 ^ n<2 ^ 32) (hb:b.toNat<2 ^ n):(a <<< n ||| b).toNat=a.toNat*2 ^ n+b.toNat:=by
 rw [BitVec.toNat_or,BitVec.toNat_shiftLeft,Nat.shiftLeft_eq,YK ha,←Nat.shiftLeft_eq,←Nat.shiftLeft_add_eq_or_of_lt hb]
theorem jk (b0 b1 b2 b3:BitVec 8):(Go.Proofs.YtajehiidpecknaaGreatDoor.Sh.word b0 b1 b2 b3).toNat=b0.toNat*16777216+b1.toNat*65536+b2.toNat*256+b3.toNat:=by
 have h0:=b0.isLt
 have h1:=b1.isLt
 have h2:=b2.isLt
 have h3:=b3.isLt
 have e:Go.Proofs.YtajehiidpecknaaGreatDoor.Sh.word b0 b1 b2 b3=b0.setWidth 32 <<< 24 ||| (b1.setWidth 32 <<< 16 ||| (b2.setWidth 32 <<< 8 ||| b3.setWidth 32)):=by
  unfold Go.Proofs.YtajehiidpecknaaGreatDoor.Sh.word
  rw [BitVec.or_assoc,BitVec.or_assoc]
 have s : ∀ b:BitVec 8,(b.setWidth 32).toNat=b.toNat:=fun b=>by have:=b.isLt;rw [BitVec.toNat_setWidth];omega
 have e1:(b2.setWidth 32 <<< 8 ||| b3.setWidth 32).toNat=b2.toNat*256+b3.toNat:=by rw [ot _ _ _ (by rw [s];omega) (by rw [s];omega),s,s]
 have e2:(b1.setWidth 32 <<< 16 ||| (b2.setWidth 32 <<< 8 ||| b3.setWidth 32)).toNat=b1.toNat*65536+(b2.toNat*256+b3.toNat):=by rw [ot _ _ _ (by rw [s];omega) (by rw [e1];omega),s,e1]
 rw [e,ot _ _ _ (by rw [s];omega) (by rw [e2];omega),s,e2];omega
theorem dx (b:Nat→BitVec 8) : ∀ i,i<8→(cM b i).toNat<256 ^ i∧(cM b (i+1)).toNat=(cM b i).toNat*256+(b i).toNat
 | 0,_=>by
  have:=(b 0).isLt
  have z:(cM b 0).toNat=0:=rfl
  refine ⟨by rw [z];decide,?_⟩
  rw [show cM b (0+1)=cM b 0 <<< 8 ||| (b 0).setWidth 64 from rfl,dH _ _ _ (by rw [z];decide) (by rw [BitVec.toNat_setWidth];omega),BitVec.toNat_setWidth,z];omega
 | i+1,h=>by
  obtain ⟨h1,h2⟩:=dx b i (by omega)
  have hb:=(b i).isLt
  have hb':=(b (i+1)).isLt
  have h3:(cM b (i+1)).toNat<256 ^ (i+1):=by rw [h2,Nat.pow_succ];omega
  refine ⟨h3,?_⟩
  have h4:(cM b (i+1)).toNat<256 ^ 7:=YI h3 (Nat.pow_le_pow_right (by omega) (by omega))
  rw [show cM b (i+1+1)=cM b (i+1) <<< 8 ||| (b (i+1)).setWidth 64 from rfl,dH _ _ _ (by omega) (by rw [BitVec.toNat_setWidth];omega),BitVec.toNat_setWidth];omega
theorem Az (b:Nat→BitVec 8):cM b 8=word b:=by
 apply BitVec.eq_of_toNat_eq
 have g0:=(dx b 0 (by omega)).2
 have g1:=(dx b 1 (by omega)).2
 have g2:=(dx b 2 (by omega)).2
 have g3:=(dx b 3 (by omega)).2
 have g4:=(dx b 4 (by omega)).2
 have g5:=(dx b 5 (by omega)).2
 have g6:=(dx b 6 (by omega)).2
 have g7:=(dx b 7 (by omega)).2
 have z:(cM b 0).toNat=0:=rfl
 have h0:=(b 0).isLt
 have h1:=(b 1).isLt
 have h2:=(b 2).isLt
 have h3:=(b 3).isLt
 have h4:=(b 4).isLt
 have h5:=(b 5).isLt
 have h6:=(b 6).isLt
 have h7:=(b 7).isLt
 have s : ∀ x:BitVec 32,(x.setWidth 64).toNat=x.toNat:=fun x=>by have:=x.isLt;rw [BitVec.toNat_setWidth];omega
 rw [word,dH _ _ _ (by rw [s,jk];omega) (by rw [s,jk];omega),s,s,jk,jk]
 rw [show cM b 8=cM b (7+1) from rfl,g7,show cM b 7=cM b (6+1) from rfl,g6,show cM b 6=cM b (5+1) from rfl,g5,show cM b 5=cM b (4+1) from rfl,g4,show cM b 4=cM b (3+1) from rfl,g3,show cM b 3=cM b (2+1) from rfl,g2,show cM b 2=cM b (1+1) from rfl,g1,show cM b 1=cM b (0+1) from rfl,g0,z]
 clear g0 g1 g2 g3 g4 g5 g6 g7 z s
 generalize (b 0).toNat=x0 at *
 generalize (b 1).toNat=x1 at *
 generalize (b 2).toNat=x2 at *
 generalize (b 3).toNat=x3 at *
 generalize (b 4).toNat=x4 at *
 generalize (b 5).toNat=x5 at *
 generalize (b 6).toNat=x6 at *
 generalize (b 7).toNat=x7 at *
 omega
end Go.Proofs.YtajehiidpecknaaGreatDoor.Sh.Q5
namespace Go.Proofs.YtajehiidpecknaaGreatDoor.Sh.Q5
open Go Go.RowKit
set_option maxRecDepth 100000
section rots
attribute [local go_sem] ju jG nL jv jt dy EM CV
set_option maxHeartbeats 400000 in
theorem Kv (x:BitVec 64) (k:Int) (s:Nat) (hk:bits BinOp.and IntKind.u64 (IntKind.u64.wrap k) 63=(s:Int)) (hs:s≤64) (w:World) :
  Calls Tryz.prog 150 #[U x,.int .i64 k] w fun e w'=>e = .returned (U ((x <<< s) ||| (x >>> (64 - s))))∧w'=w:=by
 have hw:IntKind.u64.wrap (64 - (s:Int))=((64 - s:Nat):Int):=by rw [IntKind.wrap_u64];omega
 have m1:min s 64=s:=by omega
 have m2:min (64 - s) 64=64 - s:=by omega
 go_enter Tryz.func150,Tryz.ntmps150
 go_wp2
 go_ret
 exact ⟨rfl,rfl⟩
set_option maxHeartbeats 400000 in
theorem sV (x:BitVec 64) (k:Int) (h1:1≤k) (h2:k≤63) (w:World) :
  Calls Tryz.prog 134 #[U x,.int .i64 k] w fun e w'=>e = .returned (U (gD x k.toNat))∧w'=w:=by
 obtain ⟨n,rfl⟩:=Int.eq_ofNat_of_zero_le (show 0≤k by omega)
 have HN:Hid (bits BinOp.and IntKind.u64 (IntKind.u64.wrap (-(n:Int))) 63=((64 - n:Nat):Int)):=Gd ⟨n,by omega⟩ (by show 1≤n;omega)
 have HE:Hid ((x <<< (64 - n)) ||| (x >>> (64 - (64 - n)))=gD x n):=by unfold gD;rw [show 64 - (64 - n)=n by omega];rfl
 go_enter Tryz.func134,Tryz.ntmps134
 go_wp2_with fail
 refine (Kv x _ (64 - n) HN.out (by omega) _).mono ?_
 rintro e w' ⟨rfl,rfl⟩
 rw [HE.out]
 go_wp2
 go_ret
 exact ⟨rfl,rfl⟩
set_option maxHeartbeats 400000 in
theorem Ha (x:BitVec 64) (w:World):Calls Tryz.prog 104 #[U x] w fun e w'=>e = .returned (U (up0 x))∧w'=w:=by
 go_enter Tryz.func104,Tryz.ntmps104
 go_wp2_with (go_at_call 134;refine (sV x _ (by decide) (by decide) _).mono ?_;rintro e w' ⟨rfl,rfl⟩)
 go_ret
 exact ⟨rfl,rfl⟩
set_option maxHeartbeats 400000 in
theorem Iv (x:BitVec 64) (w:World):Calls Tryz.prog 103 #[U x] w fun e w'=>e = .returned (U (up1 x))∧w'=w:=by
 go_enter Tryz.func103,Tryz.ntmps103
 go_wp2_with (go_at_call 134;refine (sV x _ (by decide) (by decide) _).mono ?_;rintro e w' ⟨rfl,rfl⟩)
 go_ret
 exact ⟨rfl,rfl⟩
set_option maxHeartbeats 400000 in
theorem I9 (x:BitVec 64) (w:World):Calls Tryz.prog 133 #[U x] w fun e w'=>e = .returned (U (lo0 x))∧w'=w:=by
 go_enter Tryz.func133,Tryz.ntmps133
 go_wp2_with (go_at_call 134;refine (sV x _ (by decide) (by decide) _).mono ?_;rintro e w' ⟨rfl,rfl⟩)
 go_ret
 exact ⟨rfl,rfl⟩
set_option maxHeartbeats 400000 in
theorem GP (x:BitVec 64) (w:World):Calls Tryz.prog 132 #[U x] w fun e w'=>e = .returned (U (lo1 x))∧w'=w:=by
 go_enter Tryz.func132,Tryz.ntmps132
 go_wp2_with (go_at_call 134;refine (sV x _ (by decide) (by decide) _).mono ?_;rintro e w' ⟨rfl,rfl⟩)
 go_ret
 exact ⟨rfl,rfl⟩
end rots
attribute [local go_sem] nL I3 JQ
theorem vJ (b off cap:Nat) (b0 b1 b2 b3:BitVec 8) (w:World) (n:Nat) (h0:w.cell? ⟨b,off,none⟩=some (B b0)) (h1:w.cell? ⟨b,off+1,none⟩=some (B b1)) (h2:w.cell? ⟨b,off+2,none⟩=some (B b2)) (h3:w.cell? ⟨b,off+3,none⟩=some (B b3)) :
  Calls Tryz.prog 149 #[.slice (some ⟨b,off,none⟩) 4 cap] (w.drewN n) fun e w'=>e = .returned (Go.Proofs.YtajehiidpecknaaGreatDoor.Sh.U (Go.Proofs.YtajehiidpecknaaGreatDoor.Sh.word b0 b1 b2 b3)) ∧ ∃ m,w'=w.drewN m :=
 Calls.quiet_of (wT b off cap b0 b1 b2 b3 (w.drewN n) h0 h1 h2 h3)
def wfn (b off cap:Nat) (x:Nat→BitVec 8):Nat→Value
 | 0 => .slice (some ⟨b,off,none⟩) 8 cap
 | 1 => .slice (some ⟨b,off,none⟩) 4 cap
 | 2=>Go.Proofs.YtajehiidpecknaaGreatDoor.Sh.U (Go.Proofs.YtajehiidpecknaaGreatDoor.Sh.word (x 0) (x 1) (x 2) (x 3))
 | 3=>U ((Go.Proofs.YtajehiidpecknaaGreatDoor.Sh.word (x 0) (x 1) (x 2) (x 3)).setWidth 64)
 | 4=>U ((Go.Proofs.YtajehiidpecknaaGreatDoor.Sh.word (x 0) (x 1) (x 2) (x 3)).setWidth 64 <<< 32)
 | 5 => .slice (some ⟨b,off,none⟩) 8 cap
 | 6 => .slice (some ⟨b,off+4,none⟩) 4 (cap - 4)
 | 7=>Go.Proofs.YtajehiidpecknaaGreatDoor.Sh.U (Go.Proofs.YtajehiidpecknaaGreatDoor.Sh.word (x 4) (x 5) (x 6) (x 7))
 | 8=>U ((Go.Proofs.YtajehiidpecknaaGreatDoor.Sh.word (x 4) (x 5) (x 6) (x 7)).setWidth 64)
 | 9=>U (word x)
 | 10=>U (word x)
 | _=>undef
set_option maxHeartbeats 1000000 in
theorem xR (b off cap:Nat) (hc:8≤cap) (x:Nat→BitVec 8) (w:World) (h : ∀ i,i<8→w.cell? ⟨b,off+i,none⟩=some (B (x i))) :
  Calls Tryz.prog 131 #[.slice (some ⟨b,off,none⟩) 8 cap] w fun e w'=>e = .returned (U (word x)) ∧ ∃ n,w'=w.drewN n:=by
 have H:Hid (∀ i,i<8→w.cell? ⟨b,off+i,none⟩=some (B (x i))):=h
 clear h
 have c4:(4:Int)≤(cap:Int):=by omega
 have c8:(8:Int)≤(cap:Int):=by omega
 have c5 : ¬ cap=4:=by omega
 go_enter Tryz.func131,Tryz.ntmps131
 go_wp2_with fail
 refine RT.wp_rgn' [] (wfn b off cap x) (fun _=>0) (fun _ _ W => ∃ n,W=w.drewN n) (by kernel_rfl) (by kernel_rfl) ⟨1,rfl⟩ ?_ ?_
 ·refine ⟨?_,?_,?_,?_,?_,?_,?_,?_,?_,?_,?_,trivial⟩
  ·refine RT.ObT.pure rfl rfl rfl (fun a V hf hp ev he hc W => ?_)
   have q0:ev (.tmp 0) = .slice (some ⟨b,off,none⟩) 8 cap:=(he (.tmp 0)).trans (hf 0 rfl)
   simp only [qF,qD,qE,execOp];rw [q0]
   first | (go_simp;done) | (go_simp;rfl)
  ·refine RT.ObT.pure rfl rfl rfl (fun a V hf hp ev he hc W => ?_)
   have q3:ev (.tmp 3) = .slice (some ⟨b,off,none⟩) 8 cap:=(he (.tmp 3)).trans (hp 0 3 rfl)
   simp only [qF,qD,qE,execOp];rw [q3]
   try simp only [hc]
   first | (go_simp;done) | (go_simp;rfl)
  ·refine RT.ObT.silent rfl (fun a W k V hO hf hp hk => ?_)
   obtain ⟨n,rfl⟩:=hO
   have q:a.eval (.tmp 4) = .slice (some ⟨b,off,none⟩) 4 cap:=hp 1 4 rfl
   refine RT.ob_call (g:=149) (args := #[.slice (some ⟨b,off,none⟩) 4 cap]) rfl (RT.wanted_none rfl) (fun ev he hc => ?_) ((vJ b off cap (x 0) (x 1) (x 2) (x 3) w n (H.out 0 (by omega)) (H.out 1 (by omega)) (H.out 2 (by omega)) (H.out 3 (by omega))).mono ?_)
   ·have e1:=(he (.tmp 4)).trans q
    have hfn:=he (.func 149)
    simp only [qF,qD,qE,execOp]
    simp only [resolve,invoke,Sem.run_bind,Sem.run_pure,Result.andThen_ok,List.map_toArray,List.map_cons,List.map_nil,e1,hfn,Act.eval]
    rfl
   ·rintro e W' ⟨rfl,m,rfl⟩
    exact ⟨_,rfl,rfl,m,rfl⟩
  ·refine RT.ObT.pure rfl rfl rfl (fun a V hf hp ev he hc W => ?_)
   have q5:ev (.tmp 5)=Go.Proofs.YtajehiidpecknaaGreatDoor.Sh.U (Go.Proofs.YtajehiidpecknaaGreatDoor.Sh.word (x 0) (x 1) (x 2) (x 3)):=(he (.tmp 5)).trans (hp 2 5 rfl)
   simp only [qF,qD,qE,execOp];rw [q5]
   first | (go_simp;done) | (go_simp;rfl)
  ·refine RT.ObT.pure rfl rfl rfl (fun a V hf hp ev he hc W => ?_)
   have q6:ev (.tmp 6)=U ((Go.Proofs.YtajehiidpecknaaGreatDoor.Sh.word (x 0) (x 1) (x 2) (x 3)).setWidth 64):=(he (.tmp 6)).trans (hp 3 6 rfl)
   simp only [qF,qD,qE,execOp];rw [q6]
   try simp only [hc]
   first | (go_simp;done) | (go_simp;rfl)
  ·refine RT.ObT.pure rfl rfl rfl (fun a V hf hp ev he hc W => ?_)
   have q0:ev (.tmp 0) = .slice (some ⟨b,off,none⟩) 8 cap:=(he (.tmp 0)).trans (hf 0 rfl)
   simp only [qF,qD,qE,execOp];rw [q0]
   first | (go_simp;done) | (go_simp;rfl)
  ·refine RT.ObT.pure rfl rfl rfl (fun a V hf hp ev he hc W => ?_)
   have q8:ev (.tmp 8) = .slice (some ⟨b,off,none⟩) 8 cap:=(he (.tmp 8)).trans (hp 5 8 rfl)
   simp only [qF,qD,qE,execOp];rw [q8]
   try simp only [hc]
   first | (go_simp;done) | (go_simp;rfl)
  ·refine RT.ObT.silent rfl (fun a W k V hO hf hp hk => ?_)
   obtain ⟨n,rfl⟩:=hO
   have q:a.eval (.tmp 9) = .slice (some ⟨b,off+4,none⟩) 4 (cap - 4):=hp 6 9 rfl
   refine RT.ob_call (g:=149) (args := #[.slice (some ⟨b,off+4,none⟩) 4 (cap - 4)]) rfl (RT.wanted_none rfl) (fun ev he hc => ?_) ((vJ b (off+4) (cap - 4) (x 4) (x 5) (x 6) (x 7) w n (H.out 4 (by omega)) (H.out 5 (by omega)) (H.out 6 (by omega)) (H.out 7 (by omega))).mono ?_)
   ·have e1:=(he (.tmp 9)).trans q
    have hfn:=he (.func 149)
    simp only [qF,qD,qE,execOp]
    simp only [resolve,invoke,Sem.run_bind,Sem.run_pure,Result.andThen_ok,List.map_toArray,List.map_cons,List.map_nil,e1,hfn,Act.eval]
    rfl
   ·rintro e W' ⟨rfl,m,rfl⟩
    exact ⟨_,rfl,rfl,m,rfl⟩
  ·refine RT.ObT.pure rfl rfl rfl (fun a V hf hp ev he hc W => ?_)
   have q10:ev (.tmp 10)=Go.Proofs.YtajehiidpecknaaGreatDoor.Sh.U (Go.Proofs.YtajehiidpecknaaGreatDoor.Sh.word (x 4) (x 5) (x 6) (x 7)):=(he (.tmp 10)).trans (hp 7 10 rfl)
   simp only [qF,qD,qE,execOp];rw [q10]
   first | (go_simp;done) | (go_simp;rfl)
  ·refine RT.ObT.pure rfl rfl rfl (fun a V hf hp ev he hc W => ?_)
   have q7:ev (.tmp 7)=U ((Go.Proofs.YtajehiidpecknaaGreatDoor.Sh.word (x 0) (x 1) (x 2) (x 3)).setWidth 64 <<< 32):=(he (.tmp 7)).trans (hp 4 7 rfl)
   have q11:ev (.tmp 11)=U ((Go.Proofs.YtajehiidpecknaaGreatDoor.Sh.word (x 4) (x 5) (x 6) (x 7)).setWidth 64):=(he (.tmp 11)).trans (hp 8 11 rfl)
   simp only [qF,qD,qE,execOp];rw [q7,q11]
   first | (go_simp;done) | (go_simp;rfl)
  ·refine RT.ObT.pure rfl rfl rfl (fun a V hf hp ev he hc W => ?_)
   have q12:ev (.tmp 12)=U (word x):=(he (.tmp 12)).trans (hp 9 12 rfl)
   simp only [qF,qD,qE,execOp];rw [q12]
   first | (go_simp;done) | (go_simp;rfl)
 ·intro w' V hO
  obtain ⟨n,rfl⟩:=hO
  simp only [RT.lay,RT.val,RT.at',wfn,Act.put]
  go_wp2
  go_ret
  exact ⟨by simp [Array.getD_eq_getD_getElem?,Array.getElem?_setIfInBounds],n,rfl⟩
end Go.Proofs.YtajehiidpecknaaGreatDoor.Sh.Q5
