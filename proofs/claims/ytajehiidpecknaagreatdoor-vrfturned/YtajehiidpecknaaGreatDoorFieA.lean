import Derived.Test.YtajehiidpecknaaGreatDoorProg
import Derived.Test.YtajehiidpecknaaGreatDoorChecked
import Derived.WalkKit
import Derived.WalkSpells
import Derived.Laws.Externs
import Derived.Laws.Pointers
import Derived.Lib.Mul64
import Derived.Laws.Bits64b
import Derived.Outline
import Derived.BigQuiet
import Derived.Deep.QuietTactic
import Derived.Deep.MidRow
import Derived.Deep.RegionHeld3
import Derived.Shelf.Spec.BitsCarry
import Derived.Test.YtajehiidpecknaaGreatDoorSho
set_option linter.all false
namespace Go.Proofs.YtajehiidpecknaaGreatDoor
open Go Go.RowKit Go.Lib
theorem nC (x y c:Int) (hx:0≤x) (hy:0≤y) (hc0:0≤c) (hc:c≤1) (w:World):(callFunc 108 #[.int .u64 x,.int .u64 y,.int .u64 c]).run Tryz.prog w =
  .ok (.value (.tuple #[.int .u64 ((x+y+c) % 18446744073709551616),.int .u64 ((x+y+c)/18446744073709551616)])) w:=by
 rw [run_callFunc_extern Tryz.func108 (by kernel_rfl) (by kernel_rfl) (by kernel_rfl) (e:=add64Entry) (by kernel_rfl),run_add64 x y c hx hy hc0 hc]
 rfl
theorem zi (x y:Int) (hx:0≤x) (hy:0≤y) (w:World):(callFunc 108 #[.int .u64 x,.int .u64 y,.int .u64 0]).run Tryz.prog w =
  .ok (.value (.tuple #[.int .u64 ((x+y) % 18446744073709551616),.int .u64 ((x+y)/18446744073709551616)])) w:=by
 simpa using nC x y 0 hx hy (Int.le_refl 0) (by decide) w
def bor (x y:Int):Int:=if x<y then 1 else 0
namespace M64
theorem maskN (a:Nat) (ha:a<18446744073709551616):bits .and .u64 (a:Int) 4294967295=((a % 4294967296:Nat):Int):=by
 have h:=bits_and_u64_nat a 4294967295 ha (by omega)
 have e:a &&& 4294967295=a % 4294967296:=Nat.and_two_pow_sub_one_eq_mod a 32
 rw [e] at h
 exact h
theorem divN (a:Nat):(a:Int)/4294967296=((a/4294967296:Nat):Int):=by omega
theorem mulN (a b:Nat):(a:Int)*(b:Int)=((a*b:Nat):Int):=(Int.natCast_mul a b).symm
theorem addN (a b:Nat):(a:Int)+(b:Int)=((a+b:Nat):Int):=(Int.natCast_add a b).symm
theorem wrapN (a:Nat) (ha:a<18446744073709551616):IntKind.u64.wrap (a:Int)=(a:Int):=by rw [IntKind.wrap_u64];omega
theorem wrapM (a:Nat):IntKind.u64.wrap (a:Int)=((a % 18446744073709551616:Nat):Int):=by rw [IntKind.wrap_u64];omega
end M64
set_option maxHeartbeats 1000000 in
theorem gu (x y:Nat) (hx:x<18446744073709551616) (hy:y<18446744073709551616) (w:World) :
  Calls Tryz.prog 60 #[.int .u64 x,.int .u64 y] w fun e w'=>e = .returned (.tuple #[.int .u64 ((x*y/18446744073709551616:Nat):Int),.int .u64 ((x*y % 18446744073709551616:Nat):Int)])∧w'=w:=by
 obtain ⟨bd,bt,bw,hhi⟩:=Lib.mul64_hi x y hx hy
 have ba:=Lib.half_mul_le (a:=x/4294967296) (b:=y/4294967296) (by omega) (by omega)
 have bb:=Lib.half_mul_le (a:=x/4294967296) (b:=y % 4294967296) (by omega) (by omega)
 have bc:=Lib.half_mul_le (a:=x % 4294967296) (b:=y/4294967296) (by omega) (by omega)
 have ba':x/4294967296*(y/4294967296)<18446744073709551616:=by omega
 have bb':x/4294967296*(y % 4294967296)<18446744073709551616:=by omega
 have bc':x % 4294967296*(y/4294967296)<18446744073709551616:=by omega
 have bh1:x/4294967296*(y/4294967296)+(x/4294967296*(y % 4294967296)+x % 4294967296*(y % 4294967296)/4294967296)/4294967296<18446744073709551616:=by omega
 have bh:x/4294967296*(y/4294967296)+(x/4294967296*(y % 4294967296)+x % 4294967296*(y % 4294967296)/4294967296)/4294967296+((x/4294967296*(y % 4294967296)+x % 4294967296*(y % 4294967296)/4294967296) % 4294967296+x % 4294967296*(y/4294967296))/4294967296<18446744073709551616:=by omega
 go_enter Tryz.func60,Tryz.ntmps60
 go_wp2
 simp only [M64.maskN x hx,M64.maskN y hy,M64.divN,M64.mulN,M64.addN,M64.wrapN _ bd,M64.wrapN _ bb',M64.wrapN _ bt,M64.maskN _ bt,M64.wrapN _ bc',M64.wrapN _ bw,M64.wrapN _ ba',M64.wrapN _ bh1,M64.wrapN _ bh,M64.wrapM (x*y)]
 rw [hhi]
 go_ret2
 exact ⟨rfl,rfl⟩
def Word (x:Int):Prop:=0≤x∧x<18446744073709551616
theorem Ey (x y:Int) (hx:Word x) (hy:Word y) (w:World) :
  Calls Tryz.prog 60 #[.int .u64 x,.int .u64 y] w fun e w' => ∃ h l:Int,e = .returned (.tuple #[.int .u64 h,.int .u64 l])∧Word h∧Word l∧x*y=h*18446744073709551616+l∧w=w':=by
 obtain ⟨hx0,hx1⟩:=hx
 obtain ⟨hy0,hy1⟩:=hy
 obtain ⟨x,rfl⟩:=Int.eq_ofNat_of_zero_le hx0
 obtain ⟨y,rfl⟩:=Int.eq_ofNat_of_zero_le hy0
 refine (gu x y (by omega) (by omega) w).mono ?_
 rintro e w' ⟨rfl,rfl⟩
 have hlt:x*y<18446744073709551616*18446744073709551616:=by
  have:=Nat.mul_le_mul (show x≤18446744073709551615 by omega) (show y≤18446744073709551615 by omega)
  omega
 refine ⟨_,_,rfl,⟨by omega,by omega⟩,⟨by omega,by omega⟩,?_,rfl⟩
 rw [←Int.natCast_mul]
 omega
abbrev RR:Int:=115792089237316195423570985008687907853269984665640564039457584007913129639936
structure Num where
 w0:Int
 w1:Int
 w2:Int
 w3:Int
def Num.ok (n:Num):Prop:=Word n.w0∧Word n.w1∧Word n.w2∧Word n.w3
def Num.val (n:Num):Int:=n.w0+n.w1*18446744073709551616+n.w2*340282366920938463463374607431768211456+n.w3*6277101735386680763835789423207666416102355444464034512896
def Num.v (n:Num):Value := .agg #[.int .u64 n.w0,.int .u64 n.w1,.int .u64 n.w2,.int .u64 n.w3]
theorem Num.bound {n:Num} (h:n.ok):0≤n.val∧n.val<RR:=by
 obtain ⟨⟨_,_⟩,⟨_,_⟩,⟨_,_⟩,⟨_,_⟩⟩:=h
 unfold Num.val RR;omega
theorem Num.inj {m n:Num} (hm:m.ok) (hn:n.ok) (h:m.val=n.val):m=n:=by
 obtain ⟨⟨_,_⟩,⟨_,_⟩,⟨_,_⟩,⟨_,_⟩⟩:=hm
 obtain ⟨⟨_,_⟩,⟨_,_⟩,⟨_,_⟩,⟨_,_⟩⟩:=hn
 obtain ⟨m0,m1,m2,m3⟩:=m
 obtain ⟨n0,n1,n2,n3⟩:=n
 simp only [Num.val] at *
 congr 1 <;> omega
end Go.Proofs.YtajehiidpecknaaGreatDoor
namespace Go.Proofs.YtajehiidpecknaaGreatDoor
open Go Go.RowKit Go.Lib
theorem four {w:World} {b:Nat} {x0 x1 x2 x3:Value} {t:TypeId} (h:w.heap[b]? = some (.cells #[x0,x1,x2,x3] t (0,0))) :
  w.cell? ⟨b,0,none⟩=some x0∧w.cell? ⟨b,1,none⟩=some x1∧w.cell? ⟨b,2,none⟩=some x2∧w.cell? ⟨b,3,none⟩=some x3 ∧
  w.frozen? ⟨b,0,none⟩=false∧w.frozen? ⟨b,1,none⟩=false∧w.frozen? ⟨b,2,none⟩=false∧w.frozen? ⟨b,3,none⟩=false :=
 ⟨by rw [cell_of_row w b 0 _ t _ h];rfl,by rw [cell_of_row w b 1 _ t _ h];rfl,by rw [cell_of_row w b 2 _ t _ h];rfl,by rw [cell_of_row w b 3 _ t _ h];rfl,
  frozen_of_row _ _ _ _ _ h,frozen_of_row _ _ _ _ _ h,frozen_of_row _ _ _ _ _ h,frozen_of_row _ _ _ _ _ h⟩
abbrev PP:Int:=57896044618658097711785492504343953926634992332820282019728792003956564819949
theorem keep {B:Nat} {w w':World} (h:Below B w w') {b:Nat} (hb:b<B) {o:Obj} (hc:w.heap[b]? = some o):w'.heap[b]? = some o:=(h.block b hb).trans hc
theorem aj (w:World) (o:Obj) (b:Nat) (h:b=w.heap.size):(w.alloc o).heap[b]? = some o:=by subst h;exact heap_alloc_new _ _
theorem az (w:World) (o:Obj) (b:Nat) (h:b<w.heap.size):(w.alloc o).heap[b]? = w.heap[b]? := by
 show (w.heap.push o)[b]? = _;rw [Array.getElem?_push,if_neg (by omega)]
def kX (w:World) (b:Nat) (y0 y1 y2 y3:Value):World:=(((w.setCell ⟨b,0,none⟩ y0).setCell ⟨b,1,none⟩ y1).setCell ⟨b,2,none⟩ y2).setCell ⟨b,3,none⟩ y3
theorem Hn (w:World) (b:Nat) (y0 y1 y2 y3:Value):(((w.setCell ⟨b,0,none⟩ y0).setCell ⟨b,1,none⟩ y1).setCell ⟨b,2,none⟩ y2).setCell ⟨b,3,none⟩ y3=kX w b y0 y1 y2 y3:=rfl
theorem eZ (w:World) (b:Nat) (y0 y1 y2 y3:Value):(kX w b y0 y1 y2 y3).heap.size=w.heap.size:=by simp [kX,World.setCell]
theorem eV {w:World} {b:Nat} {x0 x1 x2 x3:Value} {t:TypeId} (y0 y1 y2 y3:Value) (h:w.heap[b]? = some (.cells #[x0,x1,x2,x3] t (0,0))):(kX w b y0 y1 y2 y3).heap[b]? = some (.cells #[y0,y1,y2,y3] t (0,0)):=by
 simp [kX,World.setCell,Array.getElem?_modify,h]
theorem kP (w:World) (b c:Nat) (y0 y1 y2 y3:Value) (h:c≠b):(kX w b y0 y1 y2 y3).heap[c]? = w.heap[c]? := by
 simp [kX,World.setCell,Array.getElem?_modify,Ne.symm h]
theorem jM {B:Nat} {a w:World} (h:Below B a w) {b:Nat} (hb:B≤b) (y0 y1 y2 y3:Value):Below B a (kX w b y0 y1 y2 y3) :=
 (((h.setCell hb y0).setCell hb y1).setCell hb y2).setCell hb y3
theorem lt_of_heap {w:World} {b:Nat} {o:Obj} (h:w.heap[b]? = some o):b<w.heap.size:=(YM.1 h).1
theorem cS {w w':World} (h:Below w.heap.size w w') {b:Nat} {o:Obj} (hc:w.heap[b]? = some o):w'.heap[b]? = some o:=keep h (lt_of_heap hc) hc
theorem chain {a w w':World} (h:Below a.heap.size a w) (hb:Below w.heap.size w w'):Below a.heap.size a w':=h.trans (hb.mono h.size)
theorem aN {P:Program} {fn:Func} {p:Tmp} {ty:TypeId} (h:fn.results = #[.cell p ty]) (tmps:Array Value) (w:World) (b o:Nat) (cs:List Value) (d:TypeDesc)
  (hp:tmps.getD p undef = .pointer (some ⟨b,o,none⟩)) (hc:w.rangeAt b o cs) (hu:P.underlying ty=some d) (hd:d.isRow=true) (hi:(P.info? ty).map (·.size)=some cs.length) :
  (results fn tmps).run P w = .ok (.agg cs.toArray) w:=by
 have hp':tmps[p]?.getD undef = .pointer (some ⟨b,o,none⟩):=by simpa using hp
 simp [results,h,hp',asAddr,run_loadVar_mid w b o ty cs d hc hu hd hi]
theorem au {P:Program} {fn:Func} {p q:Tmp} {ty:TypeId} (h:fn.results = #[.cell p ty,.tmp q]) (tmps:Array Value) (w:World) (b o:Nat) (cs:List Value) (d:TypeDesc) (x:Value)
  (hp:tmps.getD p undef = .pointer (some ⟨b,o,none⟩)) (hq:tmps.getD q undef=x) (hc:w.rangeAt b o cs) (hu:P.underlying ty=some d) (hd:d.isRow=true) (hi:(P.info? ty).map (·.size)=some cs.length) :
  (results fn tmps).run P w = .ok (.tuple #[.agg cs.toArray,x]) w:=by
 have hp':tmps[p]?.getD undef = .pointer (some ⟨b,o,none⟩):=by simpa using hp
 have hq':tmps[q]?.getD undef=x:=by simpa using hq
 simp [results,h,hp',hq',asAddr,run_loadVar_mid w b o ty cs d hc hu hd hi]
theorem Kg {w:World} {b:Nat} {x0 x1 x2 x3:Value} {t:TypeId} (h:w.heap[b]? = some (.cells #[x0,x1,x2,x3] t (0,0))):w.rangeAt b 0 [x0,x1,x2,x3]:=fun j v hv=>by
 rw [Nat.zero_add,cell_of_row w b j _ t _ h]
 simpa using hv
end Go.Proofs.YtajehiidpecknaaGreatDoor
namespace Go.Proofs.YtajehiidpecknaaGreatDoor

def Prm (n : Nat) : Prop := 2 ≤ n ∧ ∀ d, d ∣ n → d = 1 ∨ d = n

theorem Prm.coprime {p a : Nat} (h : Prm p) (ha : ¬ p ∣ a) : Nat.gcd p a = 1 := by
  rcases h.2 (Nat.gcd p a) (Nat.gcd_dvd_left p a) with e | e
  · exact e
  · exact absurd (e ▸ Nat.gcd_dvd_right p a) ha

theorem Prm.euclid {p a b : Nat} (h : Prm p) (hd : p ∣ a * b) : p ∣ a ∨ p ∣ b := by
  by_cases ha : p ∣ a
  · exact Or.inl ha
  · exact Or.inr (Nat.Coprime.dvd_of_dvd_mul_left (h.coprime ha) hd)

def ch : Nat → Nat → Nat
  | _, 0 => 1
  | 0, _ + 1 => 0
  | n + 1, k + 1 => ch n k + ch n (k + 1)

theorem m7 (n : Nat) : ch n 0 = 1 := by cases n <;> rfl
theorem gW (n k : Nat) : ch (n + 1) (k + 1) = ch n k + ch n (k + 1) := rfl
theorem jf : ∀ n k, n < k → ch n k = 0
  | 0, k + 1, _ => rfl
  | n + 1, k + 1, h => by rw [gW, jf n k (by omega), jf n (k + 1) (by omega)]
theorem yo : ∀ n, ch n n = 1
  | 0 => rfl
  | n + 1 => by rw [gW, yo n, jf n (n + 1) (by omega)]
theorem rS : ∀ n k, (k + 1) * ch (n + 1) (k + 1) = (n + 1) * ch n k
  | 0, 0 => rfl
  | 0, k + 1 => by rw [gW, jf 0 (k + 1) (by omega), jf 0 (k + 1 + 1) (by omega)]; simp
  | n + 1, 0 => by
    have h := rS n 0
    rw [gW, m7]; rw [m7] at h; omega
  | n + 1, k + 1 => by
    have h1 := rS n k
    have h2 := rS n (k + 1)
    rw [gW (n + 1) (k + 1), Nat.mul_add, h2, show k + 1 + 1 = (k + 1) + 1 from rfl, Nat.add_mul (k + 1) 1, h1, gW n k]
    simp only [Nat.add_mul, Nat.mul_add]; omega

theorem Prm.dvd_ch {p k : Nat} (h : Prm p) (h0 : 0 < k) (hk : k < p) : p ∣ ch p k := by
  obtain ⟨p, rfl⟩ : ∃ q, p = q + 1 := ⟨p - 1, by omega⟩
  obtain ⟨k, rfl⟩ : ∃ q, k = q + 1 := ⟨k - 1, by omega⟩
  have e := rS p k
  rcases h.euclid (a := k + 1) (b := ch (p + 1) (k + 1)) ⟨ch p k, e⟩ with d | d
  · exact absurd (Nat.le_of_dvd (by omega) d) (by omega)
  · exact d

def bin (a n : Nat) : Nat → Nat
  | 0 => 0
  | m + 1 => bin a n m + ch n m * a ^ m

theorem um (a n : Nat) : ∀ m, bin a (n + 1) (m + 1) = bin a n (m + 1) + a * bin a n m
  | 0 => by simp [bin, m7]
  | m + 1 => by
    rw [bin, um a n m, gW, bin.eq_2 a n (m + 1), bin.eq_2 a n m, Nat.pow_succ]
    simp only [Nat.add_mul, Nat.mul_add]
    have : ch n m * (a ^ m * a) = a * (ch n m * a ^ m) := by rw [Nat.mul_comm a, Nat.mul_assoc]
    omega
theorem yT (a : Nat) : ∀ n, (1 + a) ^ n = bin a n (n + 1)
  | 0 => by simp [bin, ch]
  | n + 1 => by
    rw [um, bin.eq_2 a n (n + 1), jf n (n + 1) (by omega), Nat.pow_succ, yT a n]
    rw [Nat.mul_add, Nat.mul_comm (bin a n (n + 1)) a]; omega

theorem Prm.bin_mod {p : Nat} (h : Prm p) (a : Nat) : ∀ m, m < p → bin a p (m + 1) % p = 1 % p
  | 0, _ => by simp [bin, m7]
  | m + 1, hm => by
    rw [bin, Nat.add_mod, h.bin_mod a m (by omega), Nat.mul_mod, Nat.mod_eq_zero_of_dvd (h.dvd_ch (k := m + 1) (by omega) hm)]
    simp

theorem Prm.frob {p : Nat} (h : Prm p) : ∀ a, a ^ p % p = a % p
  | 0 => by rw [Nat.zero_pow (by have := h.1; omega)]
  | a + 1 => by
    obtain ⟨q, e⟩ : ∃ q, p = q + 1 := ⟨p - 1, by have := h.1; omega⟩
    rw [Nat.add_comm a 1, yT, bin, yo, Nat.one_mul, Nat.add_mod, h.frob a]
    have := h.bin_mod a q (by omega)
    rw [← e] at this
    rw [this, ← Nat.add_mod]

theorem Prm.fermat {p a : Nat} (h : Prm p) (ha : ¬ p ∣ a) : a ^ (p - 1) % p = 1 := by
  have hp := h.1
  have ha0 : 0 < a := by rcases Nat.eq_zero_or_pos a with e | e; · exact absurd (e ▸ Nat.dvd_zero p) ha
                         · exact e
  have e1 : a ^ p = a * a ^ (p - 1) := by
    rw [Nat.mul_comm, ← Nat.pow_succ]; congr 1; omega
  have hpos : 1 ≤ a ^ (p - 1) := Nat.pos_of_ne_zero (by have := Nat.pow_pos (n := p - 1) ha0; omega)
  have d : p ∣ a * (a ^ (p - 1) - 1) := by
    rw [Nat.mul_sub, Nat.mul_one, ← e1]
    have := h.frob a
    exact Nat.dvd_of_mod_eq_zero (Nat.sub_mod_eq_zero_of_mod_eq this)
  rcases h.euclid d with d | d
  · exact absurd d ha
  · obtain ⟨k, hk⟩ := d
    have : a ^ (p - 1) = 1 + p * k := by omega
    rw [this, Nat.add_mul_mod_self_left]
    exact YK (by omega)

theorem II {x r : Nat} (m n : Nat) (hm : x ^ m % r = 1 % r) (hn : x ^ n % r = 1 % r) : x ^ Nat.gcd m n % r = 1 % r := by
  induction m, n using Nat.gcd.induction with
  | H0 n => simpa using hn
  | H1 m n hpos ih =>
    rw [Nat.gcd_rec]
    refine ih ?_ hm
    have e : x ^ n = (x ^ m) ^ (n / m) * x ^ (n % m) := by
      rw [← Nat.pow_mul, ← Nat.pow_add, Nat.div_add_mod]
    rw [e, Nat.mul_mod, Nat.pow_mod, hm, ← Nat.pow_mod, Nat.one_pow, ← Nat.mul_mod, Nat.one_mul] at hn
    exact hn

theorem kp : ∀ n, 2 ≤ n → ∃ r, Prm r ∧ r ∣ n ∧ (r * r ≤ n ∨ r = n) := by
  intro n hn
  have ex : ∃ d, 2 ≤ d ∧ d ∣ n := ⟨n, hn, Nat.dvd_refl n⟩
  -- the least such d
  have least : ∀ k, ∀ d, d ≤ k → 2 ≤ d → d ∣ n → ∃ r, 2 ≤ r ∧ r ∣ n ∧ ∀ e, 2 ≤ e → e ∣ n → r ≤ e := by
    intro k
    induction k with
    | zero => intro d h1 h2; omega
    | succ k ih =>
      intro d h1 h2 h3
      by_cases hh : ∃ e, 2 ≤ e ∧ e ∣ n ∧ e ≤ k
      · obtain ⟨e, e1, e2, e3⟩ := hh; exact ih e e3 e1 e2
      · refine ⟨d, h2, h3, fun e e1 e2 => ?_⟩
        by_cases hek : e ≤ k
        · exact absurd ⟨e, e1, e2, hek⟩ hh
        · omega
  obtain ⟨r, r2, rd, rl⟩ := least n n (Nat.le_refl n) hn (Nat.dvd_refl n)
  refine ⟨r, ⟨r2, fun d hd => ?_⟩, rd, ?_⟩
  · have hd0 : 0 < d := Nat.pos_of_dvd_of_pos hd (by omega)
    by_cases h1 : d = 1
    · exact Or.inl h1
    · have := rl d (by omega) (Nat.dvd_trans hd rd)
      have := Nat.le_of_dvd (by omega) hd
      exact Or.inr (by omega)
  · obtain ⟨c, hc⟩ := rd
    by_cases hc1 : c = 1
    · right; rw [hc, hc1, Nat.mul_one]
    · left
      have hc0 : c ≠ 0 := by rintro rfl; omega
      have := rl c (by omega) ⟨r, by rw [hc, Nat.mul_comm]⟩
      rw [hc]; exact Nat.mul_le_mul_left r this

theorem vl {N q R a B : Nat} (hq : Prm q) (hN : N = q * R + 1) (hR : 0 < R) (h1 : a ^ (q * R) % N = 1) (h2 : Nat.gcd (a ^ R % N + (N - 1)) N = 1)
    (hB : N < (q * (B + 1) + 1) * (q * (B + 1) + 1)) (ht : ∀ s, s < B → N % (q * (s + 1) + 1) ≠ 0) : Prm N := by
  have hq2 := hq.1
  have hqR : 0 < q * R := Nat.mul_pos (by omega) hR
  obtain ⟨r, hr, hrd, hl⟩ := kp N (by omega)
  rcases hl with hl | hl
  · exfalso
    have r2 := hr.1
    obtain ⟨c, hc⟩ := hrd
    have red : ∀ y z : Nat, y % N = z % N → y % r = z % r := fun y z e => by
      have := congrArg (· % r) e
      simp only [hc, Nat.mod_mul_right_mod] at this
      exact this
    have one : 1 % r = 1 := YK (by omega)
    have hx : (a ^ R) ^ q % r = 1 % r := by
      rw [← Nat.pow_mul, Nat.mul_comm R q]
      exact red _ _ (by rw [h1]; exact (YK (by omega)).symm)
    have hn1 : ¬ a ^ R % r = 1 % r := by
      intro e
      have d : r ∣ Nat.gcd (a ^ R % N + (N - 1)) N := by
        refine Nat.dvd_gcd ?_ ⟨c, hc⟩
        apply Nat.dvd_of_mod_eq_zero
        have e2 : a ^ R % N % r = a ^ R % r := by rw [hc, Nat.mod_mul_right_mod]
        rw [Nat.add_mod, e2, e, ← Nat.add_mod, show 1 + (N - 1) = r * c by omega]
        exact Nat.mul_mod_right r c
      rw [h2] at d
      have := Nat.le_of_dvd (by omega) d
      omega
    have hnd : ¬ r ∣ a ^ R := by
      intro d
      have : (a ^ R) ^ q % r = 0 := by
        rw [Nat.pow_mod, Nat.mod_eq_zero_of_dvd d, Nat.zero_pow (by omega), Nat.zero_mod]
      omega
    have hf := hr.fermat hnd
    have hg := II q (r - 1) hx (hf.trans one.symm)
    rcases hq.2 _ (Nat.gcd_dvd_left q (r - 1)) with e | e
    · rw [e, Nat.pow_one] at hg; exact hn1 hg
    · have d := Nat.gcd_dvd_right q (r - 1)
      rw [e] at d
      obtain ⟨s, hs⟩ := d
      have hs0 : s ≠ 0 := by rintro rfl; omega
      by_cases hsB : s ≤ B
      · refine ht (s - 1) (by omega) ?_
        rw [show s - 1 + 1 = s by omega, ← hs, show r - 1 + 1 = r by omega, hc]
        exact Nat.mul_mod_right r c
      · have m : q * (B + 1) ≤ q * s := Nat.mul_le_mul_left q (by omega)
        have : (q * (B + 1) + 1) * (q * (B + 1) + 1) ≤ r * r := Nat.mul_le_mul (by omega) (by omega)
        omega
  · exact hl ▸ hr

def pw (N : Nat) : Nat → Nat → Nat → Nat
  | 0, _, _ => 1 % N
  | f + 1, a, e => if e = 0 then 1 % N else if e % 2 = 1 then a * pw N f (a * a % N) (e / 2) % N else pw N f (a * a % N) (e / 2)
theorem yp (N : Nat) : ∀ f a e, e < 2 ^ f → pw N f a e = a ^ e % N
  | 0, a, e, h => by have : e = 0 := by simpa using h
                     subst this; rfl
  | f + 1, a, e, h => by
    have hh : e / 2 < 2 ^ f := by rw [Nat.pow_succ] at h; omega
    have hm : (a * a % N) ^ (e / 2) % N = (a * a) ^ (e / 2) % N := (Nat.pow_mod _ _ _).symm
    rw [pw, yp N f _ _ hh, hm, ← Nat.pow_two, ← Nat.pow_mul]
    split
    · subst_vars; rfl
    · split
      · rw [Nat.mul_mod, Nat.mod_mod, ← Nat.mul_mod, Nat.mul_comm a, ← Nat.pow_succ]; congr 2; omega
      · congr 2; omega

theorem Ab {n : Nat} (B : Nat) (h2 : 2 ≤ n) (hB : n < (B + 2) * (B + 2)) (ht : (List.range B).all (fun s => n % (s + 2) != 0) = true) : Prm n := by
  obtain ⟨r, hr, hrd, hl⟩ := kp n h2
  rcases hl with hl | hl
  · exfalso
    have r2 := hr.1
    by_cases hrB : r < B + 2
    · have := List.all_eq_true.1 ht (r - 2) (List.mem_range.2 (by omega))
      rw [show r - 2 + 2 = r by omega, Nat.mod_eq_zero_of_dvd hrd] at this
      exact absurd this (by decide)
    · have : (B + 2) * (B + 2) ≤ r * r := Nat.mul_le_mul (by omega) (by omega)
      omega
  · exact hl ▸ hr

theorem kH {N q R B : Nat} (f a : Nat) (hq : Prm q)
    (hc : (N == q * R + 1 && (R != 0 && (decide (q * R < 2 ^ f) && (pw N f a (q * R) == 1 && (Nat.gcd (pw N f a R + (N - 1)) N == 1 && (decide (N < (q * (B + 1) + 1) * (q * (B + 1) + 1)) && (List.range B).all (fun s => N % (q * (s + 1) + 1) != 0))))))) = true) : Prm N := by
  simp only [Bool.and_eq_true, beq_iff_eq, bne_iff_ne, decide_eq_true_eq] at hc
  obtain ⟨h0, hR, hf, h1, h2, hB, ht⟩ := hc
  have hq2 := hq.1
  have hRf : R < 2 ^ f := Nat.lt_of_le_of_lt (Nat.le_mul_of_pos_left R (by omega)) hf
  rw [yp N f a _ hf] at h1
  rw [yp N f a _ hRf] at h2
  refine vl hq h0 (by omega) h1 h2 hB fun s hs => ?_
  have := List.all_eq_true.1 ht s (List.mem_range.2 hs)
  simpa using this

theorem Pq : Prm 8574133 := Ab 2928 (by decide) (by decide) (by decide +kernel)
theorem PE : Prm 1919519569386763 := kH (q := 8574133) (R := 223873314) (B := 5) 64 2 Pq (by decide +kernel)
theorem Qi : Prm 75445702479781427272750846543864801 := kH (q := 1919519569386763) (R := 39304471641247389600) (B := 143) 128 2 PE (by decide +kernel)
theorem Pe : Prm 74058212732561358302231226437062788676166966415465897661863160754340907 := kH (q := 75445702479781427272750846543864801) (R := 981609426360740691344999861639072106) (B := 3) 256 2 Qi (by decide +kernel)
def pp : Nat := 57896044618658097711785492504343953926634992332820282019728792003956564819949
theorem prm : Prm pp := kH (q := 74058212732561358302231226437062788676166966415465897661863160754340907) (R := 781764) (B := 0) 256 2 Pe (by decide +kernel)
end Go.Proofs.YtajehiidpecknaaGreatDoor
