/- The field's reference as contracts of the small memory: just what each call answers. -/
import Derived.Test.YtlihbglpdkeppaaGreatDoorFieRL
import Derived.Test.YtlihbglpdkeppaaGreatDoorPoiJ
set_option linter.unusedSimpArgs false
set_option linter.unusedVariables false
namespace Go.Proofs.YtlihbglpdkeppaaGreatDoor
open Go Go.RowKit
def wsum:List Value→Nat
 | []=>0
 | .int _ x :: l=>x.toNat+18446744073709551616*wsum l
 | _ :: l=>18446744073709551616*wsum l
def wnum:Value→Nat
 | .agg cs=>wsum cs.toList
 | _=>0
theorem wsum_nl {n:Nat} (h:n<RN):wsum (nl n)=n:=by
 have e:wsum (nl n)=(lw n 0).toNat+18446744073709551616*((lw n 1).toNat+18446744073709551616*((lw n 2).toNat+18446744073709551616*((lw n 3).toNat+18446744073709551616*0))):=rfl
 rw [e]
 unfold lw
 simp only [Int.toNat_natCast]
 have e2:n/18446744073709551616 ^ 2=n/18446744073709551616/18446744073709551616:=by rw [Nat.div_div_eq_div_mul]
 have e3:n/18446744073709551616 ^ 3=n/18446744073709551616/18446744073709551616/18446744073709551616:=by rw [Nat.div_div_eq_div_mul,Nat.div_div_eq_div_mul]
 rw [e2,e3,Nat.pow_zero,Nat.div_one,Nat.pow_one]
 simp only [RN] at h
 omega
theorem wnum_nv {n:Nat} (h:n<RN):wnum (nv n)=n:=wsum_nl h
def IsW (A:Value):Prop:=A=nv (wnum A)∧wnum A<RN
theorem isW_nv {n:Nat} (h:n<RN):IsW (nv n):=by unfold IsW;rw [wnum_nv h];exact ⟨rfl,h⟩
theorem flat_nv' (n:Nat):flat (nv n)=true:=rfl
def rfa (a b:Nat):Nat:=fX (a+b)
def rfs (a b:Nat):Nat:=fX (a+(pp - b % pp))
def rfm (a b:Nat):Nat:=fX (tFold (a*b))
def rfi (a:Nat):Nat:=pX a (pp - 2) 256
theorem fX_lt {T:Nat} (h:T/RN<18446744073709551616):fX T<RN:=by
 unfold fX
 have:=Nat.mod_lt T (show 0<RN by decide)
 simp only [RN] at *
 split <;> omega
theorem fX_mod {T:Nat} (h:T/RN<18446744073709551616):fX T % pp=T % pp:=by
 have e:=Nat.div_add_mod T RN
 unfold fX
 have:=Nat.mod_lt T (show 0<RN by decide)
 generalize T/RN=q at *
 generalize T % RN=r at *
 subst e
 simp only [RN,pp] at *
 split <;> omega
theorem tFold_div {a b:Nat} (ha:a<RN) (hb:b<RN):tFold (a*b)/RN<18446744073709551616:=by
 have h1:a*b/RN<RN:=by
  rw [Nat.div_lt_iff_lt_mul (by decide)]
  exact Nat.mul_lt_mul'' ha hb
 unfold tFold
 have:=Nat.mod_lt (a*b) (show 0<RN by decide)
 generalize a*b/RN=q at *
 generalize a*b % RN=r at *
 simp only [RN] at *
 omega
theorem tFold_mod (n:Nat):tFold n % pp=n % pp:=by
 have e:=Nat.div_add_mod n RN
 unfold tFold
 generalize n/RN=q at *
 generalize n % RN=r at *
 subst e
 simp only [RN,pp] at *
 omega
theorem rfa_div {a b:Nat} (ha:a<RN) (hb:b<RN):(a+b)/RN<18446744073709551616:=by simp only [RN] at *;omega
theorem rfs_div {a:Nat} (b:Nat) (ha:a<RN):(a+(pp - b % pp))/RN<18446744073709551616:=by simp only [RN,pp] at *;omega
theorem rfa_lt {a b:Nat} (ha:a<RN) (hb:b<RN):rfa a b<RN:=fX_lt (rfa_div ha hb)
theorem rfs_lt {a:Nat} (b:Nat) (ha:a<RN):rfs a b<RN:=fX_lt (rfs_div b ha)
theorem rfm_lt {a b:Nat} (ha:a<RN) (hb:b<RN):rfm a b<RN:=fX_lt (tFold_div ha hb)
theorem pX_lt {a:Nat} (b:Nat) (ha:a<RN) : ∀ j,pX a b j<RN
 | 0=>by show (1:Nat)<RN;decide
 | j+1=>by
  have ih:=pX_lt b ha j
  unfold pX
  split
  ·exact fX_lt (tFold_div (fX_lt (tFold_div ih ih)) ha)
  ·exact fX_lt (tFold_div ih ih)
theorem rfi_lt {a:Nat} (ha:a<RN):rfi a<RN:=pX_lt _ ha 256
theorem rfm_mod {a b:Nat} (ha:a<RN) (hb:b<RN):rfm a b % pp=a*b % pp:=by
 unfold rfm;rw [fX_mod (tFold_div ha hb),tFold_mod]
theorem pX_mod {a b:Nat} (ha:a<RN) (hb:b<2 ^ 256) : ∀ j,j≤256→pX a b j % pp=a ^ (b/2 ^ (256 - j)) % pp
 | 0,_=>by rw [Nat.sub_zero,Nat.div_eq_of_lt hb,Nat.pow_zero];rfl
 | j+1,hj=>by
  have ih:=pX_mod ha hb j (by omega)
  have hl:=pX_lt b ha j
  have e1:256 - j=(255 - j)+1:=by omega
  have e2:256 - (j+1)=255 - j:=by omega
  rw [e1] at ih
  rw [e2]
  unfold pX
  split
  ·rename_i h
   exact pow_bit a b (255 - j) _ _ _ ih (rfm_mod hl hl) (rfm_mod (rfm_lt hl hl) ha) h
  ·rename_i h
   exact pow_nobit a b (255 - j) _ _ ih (rfm_mod hl hl) (by omega)
theorem cK_rfa {a b:Nat} (ha:a<RN) (hb:b<RN):cK (rfa a b)=cK a+cK b:=by
 rw [←cK_add];exact cK_eq.2 (by rw [Nat.mod_mod];exact fX_mod (rfa_div ha hb))
theorem cK_rfs {a:Nat} (b:Nat) (ha:a<RN):cK (rfs a b)=cK a - cK b:=by
 rw [←cK_sub];exact cK_eq.2 (by rw [Nat.mod_mod];exact fX_mod (rfs_div b ha))
theorem cK_rfm {a b:Nat} (ha:a<RN) (hb:b<RN):cK (rfm a b)=cK a*cK b:=by
 rw [←cK_mul];exact cK_eq.2 (by rw [Nat.mod_mod];exact rfm_mod ha hb)
theorem cK_rfi {a:Nat} (ha:a<RN):cK (rfi a)=invK (cK a):=by
 rw [invK_cK]
 refine cK_eq.2 ?_
 rw [Nat.mod_mod]
 have:=pX_mod (b:=pp - 2) ha (by decide) 256 (Nat.le_refl _)
 rw [Nat.sub_self,Nat.pow_zero,Nat.div_one] at this
 exact this
def WA (A B:Value):Value:=nv (rfa (wnum A) (wnum B))
def WS (A B:Value):Value:=nv (rfs (wnum A) (wnum B))
def WM (A B:Value):Value:=nv (rfm (wnum A) (wnum B))
def WI (A:Value):Value:=nv (rfi (wnum A))
def WL (A:Value):Value:=nv (wnum A % pp)
def gWpl:List Value→Option (List Prop × Value)
 | [A,B]=>some ([IsW A∧IsW B],WA A B)
 | _=>none
theorem gWpl_ok {X:Cx} (hX:X.Ok Tryz.prog):(X.pure 67 gWpl).Ok Tryz.prog:=by
 refine gBody_ok hX Tryz.func67 (by kernel_rfl) (by kernel_rfl) ?_
 intro args ps v ha hg hp
 unfold gWpl at hg
 split at hg
 ·rename_i A B
  simp only [Option.some.injEq,Prod.mk.injEq] at hg
  obtain ⟨rfl,rfl⟩:=hg
  obtain ⟨hA,hB⟩:=hp _ (List.mem_singleton.2 rfl)
  refine ⟨.inl (flat_nv' _),fun w => ?_⟩
  have h:Calls Tryz.prog 67 #[nv (wnum A),nv (wnum B)] w fun e w'=>e = .returned (WA A B)∧Below w.heap.size w w':=(rplusX_nat (wnum A) (wnum B) hA.2 hB.2 w).mono fun e w' ⟨z,h1,h2,h3,h4⟩=>⟨by rw [h2,h3.2];rfl,h4⟩
  rw [←hA.1,←hB.1] at h
  exact h
 ·simp at hg
def gWmi:List Value→Option (List Prop × Value)
 | [A,B]=>some ([IsW A∧IsW B],WS A B)
 | _=>none
theorem gWmi_ok {X:Cx} (hX:X.Ok Tryz.prog):(X.pure 64 gWmi).Ok Tryz.prog:=by
 refine gBody_ok hX Tryz.func64 (by kernel_rfl) (by kernel_rfl) ?_
 intro args ps v ha hg hp
 unfold gWmi at hg
 split at hg
 ·rename_i A B
  simp only [Option.some.injEq,Prod.mk.injEq] at hg
  obtain ⟨rfl,rfl⟩:=hg
  obtain ⟨hA,hB⟩:=hp _ (List.mem_singleton.2 rfl)
  refine ⟨.inl (flat_nv' _),fun w => ?_⟩
  have h:Calls Tryz.prog 64 #[nv (wnum A),nv (wnum B)] w fun e w'=>e = .returned (WS A B)∧Below w.heap.size w w':=(rminusX_nat (wnum A) (wnum B) hA.2 hB.2 w).mono fun e w' ⟨z,h1,h2,h3,h4⟩=>⟨by rw [h2,h3.2];rfl,h4⟩
  rw [←hA.1,←hB.1] at h
  exact h
 ·simp at hg
def gWti:List Value→Option (List Prop × Value)
 | [A,B]=>some ([IsW A∧IsW B],WM A B)
 | _=>none
theorem gWti_ok {X:Cx} (hX:X.Ok Tryz.prog):(X.pure 62 gWti).Ok Tryz.prog:=by
 refine gBody_ok hX Tryz.func62 (by kernel_rfl) (by kernel_rfl) ?_
 intro args ps v ha hg hp
 unfold gWti at hg
 split at hg
 ·rename_i A B
  simp only [Option.some.injEq,Prod.mk.injEq] at hg
  obtain ⟨rfl,rfl⟩:=hg
  obtain ⟨hA,hB⟩:=hp _ (List.mem_singleton.2 rfl)
  refine ⟨.inl (flat_nv' _),fun w => ?_⟩
  have h:Calls Tryz.prog 62 #[nv (wnum A),nv (wnum B)] w fun e w'=>e = .returned (WM A B)∧Below w.heap.size w w':=(rtimesX_nat (wnum A) (wnum B) hA.2 hB.2 w).mono fun e w' ⟨z,h1,h2,h3,h4⟩=>⟨by rw [h2,h3.2];rfl,h4⟩
  rw [←hA.1,←hB.1] at h
  exact h
 ·simp at hg
def gWin:List Value→Option (List Prop × Value)
 | [A]=>some ([IsW A],WI A)
 | _=>none
theorem gWin_ok {X:Cx} (hX:X.Ok Tryz.prog):(X.pure 66 gWin).Ok Tryz.prog:=by
 refine gBody_ok hX Tryz.func66 (by kernel_rfl) (by kernel_rfl) ?_
 intro args ps v ha hg hp
 unfold gWin at hg
 split at hg
 ·rename_i A
  simp only [Option.some.injEq,Prod.mk.injEq] at hg
  obtain ⟨rfl,rfl⟩:=hg
  have hA:=hp _ (List.mem_singleton.2 rfl)
  refine ⟨.inl (flat_nv' _),fun w => ?_⟩
  have h:Calls Tryz.prog 66 #[nv (wnum A)] w fun e w'=>e = .returned (WI A)∧Below w.heap.size w w':=(rinverseX_nat (wnum A) hA.2 w).mono fun e w' ⟨z,h1,h2,h3,h4⟩=>⟨by rw [h2,h3.2];rfl,h4⟩
  rw [←hA.1] at h
  exact h
 ·simp at hg
def gWle:List Value→Option (List Prop × Value)
 | [A]=>some ([IsW A],WL A)
 | _=>none
theorem gWle_ok {X:Cx} (hX:X.Ok Tryz.prog):(X.pure 69 gWle).Ok Tryz.prog:=by
 refine gBody_ok hX Tryz.func69 (by kernel_rfl) (by kernel_rfl) ?_
 intro args ps v ha hg hp
 unfold gWle at hg
 split at hg
 ·rename_i A
  simp only [Option.some.injEq,Prod.mk.injEq] at hg
  obtain ⟨rfl,rfl⟩:=hg
  have hA:=hp _ (List.mem_singleton.2 rfl)
  refine ⟨.inl (flat_nv' _),fun w => ?_⟩
  have h:Calls Tryz.prog 69 #[nv (wnum A)] w fun e w'=>e = .returned (WL A)∧Below w.heap.size w w':=least_nat (wnum A) hA.2 w
  rw [←hA.1] at h
  exact h
 ·simp at hg
def gWby:List Value→Option (List Prop × Value)
 | [A]=>some ([IsW A],bv (wnum A % pp))
 | _=>none
theorem gWby_ok {X:Cx} (hX:X.Ok Tryz.prog):(X.pure 70 gWby).Ok Tryz.prog:=by
 refine gBody_ok hX Tryz.func70 (by kernel_rfl) (by kernel_rfl) ?_
 intro args ps v ha hg hp
 unfold gWby at hg
 split at hg
 ·rename_i A
  simp only [Option.some.injEq,Prod.mk.injEq] at hg
  obtain ⟨rfl,rfl⟩:=hg
  have hA:=hp _ (List.mem_singleton.2 rfl)
  refine ⟨.inl (flat_bv _),fun w => ?_⟩
  have h:Calls Tryz.prog 70 #[nv (wnum A)] w fun e w'=>e = .returned (bv (wnum A % pp))∧Below w.heap.size w w':=rbytes_nat (wnum A) hA.2 w
  rw [←hA.1] at h
  exact h
 ·simp at hg
def gWfr:List Value→Option (List Prop × Value)
 | [A]=>some ([IsB A],nv (bnum A))
 | _=>none
theorem gWfr_ok {X:Cx} (hX:X.Ok Tryz.prog):(X.pure 61 gWfr).Ok Tryz.prog:=by
 refine gBody_ok hX Tryz.func61 (by kernel_rfl) (by kernel_rfl) ?_
 intro args ps v ha hg hp
 unfold gWfr at hg
 split at hg
 ·rename_i A
  simp only [Option.some.injEq,Prod.mk.injEq] at hg
  obtain ⟨rfl,rfl⟩:=hg
  have hA:=hp _ (List.mem_singleton.2 rfl)
  refine ⟨.inl (flat_nv' _),fun w => ?_⟩
  have h:Calls Tryz.prog 61 #[bv (bnum A)] w fun e w'=>e = .returned (nv (bnum A))∧Below w.heap.size w w':=rfrom_nat (bnum A) (bnum_lt hA) w
  rw [← (show A=bv (bnum A) from hA)] at h
  exact h
 ·simp at hg
def gWca:List Value→Option (List Prop × Value)
 | [A]=>some ([IsB A],.bool (decide (bnum A<pp)))
 | _=>none
theorem gWca_ok {X:Cx} (hX:X.Ok Tryz.prog):(X.pure 60 gWca).Ok Tryz.prog:=by
 refine gBody_ok hX Tryz.func60 (by kernel_rfl) (by kernel_rfl) ?_
 intro args ps v ha hg hp
 unfold gWca at hg
 split at hg
 ·rename_i A
  simp only [Option.some.injEq,Prod.mk.injEq] at hg
  obtain ⟨rfl,rfl⟩:=hg
  have hA:=hp _ (List.mem_singleton.2 rfl)
  refine ⟨.inl rfl,fun w => ?_⟩
  have h:Calls Tryz.prog 60 #[bv (bnum A)] w fun e w'=>e = .returned (.bool (decide (bnum A<pp)))∧Below w.heap.size w w':=rCanonical_any (bnum A) (bnum_lt hA) w
  rw [← (show A=bv (bnum A) from hA)] at h
  exact h
 ·simp at hg
theorem flat_tupW (n:Nat) (b:Bool):flat (.tuple #[nv n,.bool b])=true:=rfl
def gWro:List Value→Option (List Prop × Value)
 | [A]=>some ([IsW A],.tuple #[nv (rt (wnum A)),.bool (decide (rt (wnum A)*rt (wnum A) % pp=wnum A % pp))])
 | _=>none
theorem gWro_ok {X:Cx} (hX:X.Ok Tryz.prog):(X.pure 63 gWro).Ok Tryz.prog:=by
 refine gBody_ok hX Tryz.func63 (by kernel_rfl) (by kernel_rfl) ?_
 intro args ps v ha hg hp
 unfold gWro at hg
 split at hg
 ·rename_i A
  simp only [Option.some.injEq,Prod.mk.injEq] at hg
  obtain ⟨rfl,rfl⟩:=hg
  have hA:=hp _ (List.mem_singleton.2 rfl)
  refine ⟨.inl (flat_tupW _ _),fun w => ?_⟩
  have h:Calls Tryz.prog 63 #[nv (wnum A)] w fun e w'=>e = .returned (.tuple #[nv (rt (wnum A)),.bool (decide (rt (wnum A)*rt (wnum A) % pp=wnum A % pp))])∧Below w.heap.size w w':=rroot_nat (wnum A) hA.2 w
  rw [←hA.1] at h
  exact h
 ·simp at hg
theorem d_run:sfun Tryz.prog Cx.none 60 Tryz.f68 (bodyOf Tryz.f68) []=some ([],nv DN'):=by kernel_rfl
def gWd:List Value→Option (List Prop × Value)
 | []=>some ([],nv DN')
 | _=>none
theorem gWd_ok {X:Cx} (hX:X.Ok Tryz.prog):(X.pure 68 gWd).Ok Tryz.prog:=by
 refine gBody_ok hX Tryz.func68 (by kernel_rfl) (by kernel_rfl) ?_
 intro args ps v ha hg hp
 unfold gWd at hg
 split at hg
 ·simp only [Option.some.injEq,Prod.mk.injEq] at hg
  obtain ⟨rfl,rfl⟩:=hg
  exact ⟨.inl rfl,sfun_calls Cx.none_ok mixed Tryz.func68 (by kernel_rfl) d_run (by simp) rfl (.inl rfl)⟩
 ·simp at hg
def gWsm:List Value→Option (List Prop × Value)
 | [.int .u64 x]=>some ([],.agg #[.int .u64 x,.int .u64 0,.int .u64 0,.int .u64 0])
 | _=>none
theorem gWsm_ok {X:Cx} (hX:X.Ok Tryz.prog):(X.pure 65 gWsm).Ok Tryz.prog:=by
 refine gBody_ok hX Tryz.func65 (by kernel_rfl) (by kernel_rfl) ?_
 intro args ps v ha hg hp
 unfold gWsm at hg
 split at hg
 ·rename_i x
  simp only [Option.some.injEq,Prod.mk.injEq] at hg
  obtain ⟨rfl,rfl⟩:=hg
  exact ⟨.inl rfl,fun w=>rSmall_any x w⟩
 ·simp at hg
def H0:Cx:=((((((((((Cx.none.pure 67 gWpl).pure 64 gWmi).pure 62 gWti).pure 66 gWin).pure 69 gWle).pure 70 gWby).pure 61 gWfr).pure 60 gWca).pure 63 gWro).pure 68 gWd).pure 65 gWsm
theorem H0_ok:H0.Ok Tryz.prog:=gWsm_ok (gWd_ok (gWro_ok (gWca_ok (gWfr_ok (gWby_ok (gWle_ok (gWin_ok (gWti_ok (gWmi_ok (gWpl_ok Cx.none_ok))))))))))
end Go.Proofs.YtlihbglpdkeppaaGreatDoor
