/- The small functions of package sha2 (SHA-512): rotations, sigmas, words, each by a contract of its own. -/
import Derived.Test.YtmaehekekkfpmaaDoorShaA
import Derived.Test.YtmaehekekkfpmaaDoorRgnT
set_option linter.unusedSimpArgs false
set_option linter.unusedVariables false
namespace Go.Proofs.YtmaehekekkfpmaaDoor.Sh.Q5
open Go Go.RowKit
set_option maxRecDepth 100000
section rots
attribute [local go_sem] u_xor u_and u_or u_add u_shl u_shr u_shr7 u_shr6
set_option maxHeartbeats 400000 in
theorem rotl64 (x:BitVec 64) (k:Int) (s:Nat) (hk:bits BinOp.and IntKind.u64 (IntKind.u64.wrap k) 63=(s:Int)) (hs:s≤64) (w:World) :
  Calls Tryd.prog 86 #[U x,.int .i64 k] w fun e w'=>e = .returned (U ((x <<< s) ||| (x >>> (64 - s))))∧w'=w:=by
 have hw:IntKind.u64.wrap (64 - (s:Int))=((64 - s:Nat):Int):=by rw [IntKind.wrap_u64];omega
 have m1:min s 64=s:=by omega
 have m2:min (64 - s) 64=64 - s:=by omega
 go_enter Tryd.func86,Tryd.ntmps86
 go_wp2
 go_ret
 exact ⟨rfl,rfl⟩
set_option maxHeartbeats 400000 in
theorem rotr64 (x:BitVec 64) (k:Int) (h1:1≤k) (h2:k≤63) (w:World) :
  Calls Tryd.prog 69 #[U x,.int .i64 k] w fun e w'=>e = .returned (U (rotr x k.toNat))∧w'=w:=by
 obtain ⟨n,rfl⟩:=Int.eq_ofNat_of_zero_le (show 0≤k by omega)
 have HN:Hid (bits BinOp.and IntKind.u64 (IntKind.u64.wrap (-(n:Int))) 63=((64 - n:Nat):Int)):=neg_and ⟨n,by omega⟩ (by show 1≤n;omega)
 have HE:Hid ((x <<< (64 - n)) ||| (x >>> (64 - (64 - n)))=rotr x n):=by unfold rotr;rw [show 64 - (64 - n)=n by omega];rfl
 go_enter Tryd.func69,Tryd.ntmps69
 go_wp2_with fail
 refine (rotl64 x _ (64 - n) HN.out (by omega) _).mono ?_
 rintro e w' ⟨rfl,rfl⟩
 rw [HE.out]
 go_wp2
 go_ret
 exact ⟨rfl,rfl⟩
set_option maxHeartbeats 400000 in
theorem up0_any (x:BitVec 64) (w:World):Calls Tryd.prog 49 #[U x] w fun e w'=>e = .returned (U (up0 x))∧w'=w:=by
 go_enter Tryd.func49,Tryd.ntmps49
 go_wp2_with (go_at_call 69;refine (rotr64 x _ (by decide) (by decide) _).mono ?_;rintro e w' ⟨rfl,rfl⟩)
 go_ret
 exact ⟨rfl,rfl⟩
set_option maxHeartbeats 400000 in
theorem up1_any (x:BitVec 64) (w:World):Calls Tryd.prog 48 #[U x] w fun e w'=>e = .returned (U (up1 x))∧w'=w:=by
 go_enter Tryd.func48,Tryd.ntmps48
 go_wp2_with (go_at_call 69;refine (rotr64 x _ (by decide) (by decide) _).mono ?_;rintro e w' ⟨rfl,rfl⟩)
 go_ret
 exact ⟨rfl,rfl⟩
set_option maxHeartbeats 400000 in
theorem lo0_any (x:BitVec 64) (w:World):Calls Tryd.prog 68 #[U x] w fun e w'=>e = .returned (U (lo0 x))∧w'=w:=by
 go_enter Tryd.func68,Tryd.ntmps68
 go_wp2_with (go_at_call 69;refine (rotr64 x _ (by decide) (by decide) _).mono ?_;rintro e w' ⟨rfl,rfl⟩)
 go_ret
 exact ⟨rfl,rfl⟩
set_option maxHeartbeats 400000 in
theorem lo1_any (x:BitVec 64) (w:World):Calls Tryd.prog 67 #[U x] w fun e w'=>e = .returned (U (lo1 x))∧w'=w:=by
 go_enter Tryd.func67,Tryd.ntmps67
 go_wp2_with (go_at_call 69;refine (rotr64 x _ (by decide) (by decide) _).mono ?_;rintro e w' ⟨rfl,rfl⟩)
 go_ret
 exact ⟨rfl,rfl⟩
end rots
attribute [local go_sem] u_or u_shl32 u_of_w
theorem word32_q (b off cap:Nat) (b0 b1 b2 b3:BitVec 8) (w:World) (n:Nat) (h0:w.cell? ⟨b,off,none⟩=some (B b0)) (h1:w.cell? ⟨b,off+1,none⟩=some (B b1)) (h2:w.cell? ⟨b,off+2,none⟩=some (B b2)) (h3:w.cell? ⟨b,off+3,none⟩=some (B b3)) :
  Calls Tryd.prog 85 #[.slice (some ⟨b,off,none⟩) 4 cap] (w.drewN n) fun e w'=>e = .returned (Go.Proofs.YtmaehekekkfpmaaDoor.Sh.U (Go.Proofs.YtmaehekekkfpmaaDoor.Sh.word b0 b1 b2 b3)) ∧ ∃ m,w'=w.drewN m :=
 Calls.quiet_of (word32_any b off cap b0 b1 b2 b3 (w.drewN n) h0 h1 h2 h3)
def wfn (b off cap:Nat) (x:Nat→BitVec 8):Nat→Value
 | 0 => .slice (some ⟨b,off,none⟩) 8 cap
 | 1 => .slice (some ⟨b,off,none⟩) 4 cap
 | 2=>Go.Proofs.YtmaehekekkfpmaaDoor.Sh.U (Go.Proofs.YtmaehekekkfpmaaDoor.Sh.word (x 0) (x 1) (x 2) (x 3))
 | 3=>U ((Go.Proofs.YtmaehekekkfpmaaDoor.Sh.word (x 0) (x 1) (x 2) (x 3)).setWidth 64)
 | 4=>U ((Go.Proofs.YtmaehekekkfpmaaDoor.Sh.word (x 0) (x 1) (x 2) (x 3)).setWidth 64 <<< 32)
 | 5 => .slice (some ⟨b,off,none⟩) 8 cap
 | 6 => .slice (some ⟨b,off+4,none⟩) 4 (cap - 4)
 | 7=>Go.Proofs.YtmaehekekkfpmaaDoor.Sh.U (Go.Proofs.YtmaehekekkfpmaaDoor.Sh.word (x 4) (x 5) (x 6) (x 7))
 | 8=>U ((Go.Proofs.YtmaehekekkfpmaaDoor.Sh.word (x 4) (x 5) (x 6) (x 7)).setWidth 64)
 | 9=>U (word x)
 | 10=>U (word x)
 | _=>undef
set_option maxHeartbeats 1000000 in
theorem word64_any (b off cap:Nat) (hc:8≤cap) (x:Nat→BitVec 8) (w:World) (h : ∀ i,i<8→w.cell? ⟨b,off+i,none⟩=some (B (x i))) :
  Calls Tryd.prog 66 #[.slice (some ⟨b,off,none⟩) 8 cap] w fun e w'=>e = .returned (U (word x)) ∧ ∃ n,w'=w.drewN n:=by
 have H:Hid (∀ i,i<8→w.cell? ⟨b,off+i,none⟩=some (B (x i))):=h
 clear h
 have c4:(4:Int)≤(cap:Int):=by omega
 have c8:(8:Int)≤(cap:Int):=by omega
 have c5 : ¬ cap=4:=by omega
 go_enter Tryd.func66,Tryd.ntmps66
 go_wp2_with fail
 refine RT.wp_rgn' [] (wfn b off cap x) (fun _=>0) (fun _ _ W => ∃ n,W=w.drewN n) (by kernel_rfl) (by kernel_rfl) ⟨1,rfl⟩ ?_ ?_
 ·refine ⟨?_,?_,?_,?_,?_,?_,?_,?_,?_,?_,?_,trivial⟩
  ·refine RT.ObT.pure rfl rfl rfl (fun a V hf hp ev he hc W => ?_)
   have q0:ev (.tmp 0) = .slice (some ⟨b,off,none⟩) 8 cap:=(he (.tmp 0)).trans (hf 0 rfl)
   simp only [List.getElem_toArray,List.getElem_cons_succ,List.getElem_cons_zero,execOp];rw [q0]
   first | (go_simp;done) | (go_simp;rfl)
  ·refine RT.ObT.pure rfl rfl rfl (fun a V hf hp ev he hc W => ?_)
   have q3:ev (.tmp 3) = .slice (some ⟨b,off,none⟩) 8 cap:=(he (.tmp 3)).trans (hp 0 3 rfl)
   simp only [List.getElem_toArray,List.getElem_cons_succ,List.getElem_cons_zero,execOp];rw [q3]
   try simp only [hc]
   first | (go_simp;done) | (go_simp;rfl)
  ·refine RT.ObT.silent rfl (fun a W k V hO hf hp hk => ?_)
   obtain ⟨n,rfl⟩:=hO
   have q:a.eval (.tmp 4) = .slice (some ⟨b,off,none⟩) 4 cap:=hp 1 4 rfl
   refine RT.ob_call (g:=85) (args := #[.slice (some ⟨b,off,none⟩) 4 cap]) rfl (RT.wanted_none rfl) (fun ev he hc => ?_) ((word32_q b off cap (x 0) (x 1) (x 2) (x 3) w n (H.out 0 (by omega)) (H.out 1 (by omega)) (H.out 2 (by omega)) (H.out 3 (by omega))).mono ?_)
   ·have e1:=(he (.tmp 4)).trans q
    have hfn:=he (.func 85)
    simp only [List.getElem_toArray,List.getElem_cons_succ,List.getElem_cons_zero,execOp]
    simp only [resolve,invoke,Sem.run_bind,Sem.run_pure,Result.andThen_ok,List.map_toArray,List.map_cons,List.map_nil,e1,hfn,Act.eval]
    rfl
   ·rintro e W' ⟨rfl,m,rfl⟩
    exact ⟨_,rfl,rfl,m,rfl⟩
  ·refine RT.ObT.pure rfl rfl rfl (fun a V hf hp ev he hc W => ?_)
   have q5:ev (.tmp 5)=Go.Proofs.YtmaehekekkfpmaaDoor.Sh.U (Go.Proofs.YtmaehekekkfpmaaDoor.Sh.word (x 0) (x 1) (x 2) (x 3)):=(he (.tmp 5)).trans (hp 2 5 rfl)
   simp only [List.getElem_toArray,List.getElem_cons_succ,List.getElem_cons_zero,execOp];rw [q5]
   first | (go_simp;done) | (go_simp;rfl)
  ·refine RT.ObT.pure rfl rfl rfl (fun a V hf hp ev he hc W => ?_)
   have q6:ev (.tmp 6)=U ((Go.Proofs.YtmaehekekkfpmaaDoor.Sh.word (x 0) (x 1) (x 2) (x 3)).setWidth 64):=(he (.tmp 6)).trans (hp 3 6 rfl)
   simp only [List.getElem_toArray,List.getElem_cons_succ,List.getElem_cons_zero,execOp];rw [q6]
   try simp only [hc]
   first | (go_simp;done) | (go_simp;rfl)
  ·refine RT.ObT.pure rfl rfl rfl (fun a V hf hp ev he hc W => ?_)
   have q0:ev (.tmp 0) = .slice (some ⟨b,off,none⟩) 8 cap:=(he (.tmp 0)).trans (hf 0 rfl)
   simp only [List.getElem_toArray,List.getElem_cons_succ,List.getElem_cons_zero,execOp];rw [q0]
   first | (go_simp;done) | (go_simp;rfl)
  ·refine RT.ObT.pure rfl rfl rfl (fun a V hf hp ev he hc W => ?_)
   have q8:ev (.tmp 8) = .slice (some ⟨b,off,none⟩) 8 cap:=(he (.tmp 8)).trans (hp 5 8 rfl)
   simp only [List.getElem_toArray,List.getElem_cons_succ,List.getElem_cons_zero,execOp];rw [q8]
   try simp only [hc]
   first | (go_simp;done) | (go_simp;rfl)
  ·refine RT.ObT.silent rfl (fun a W k V hO hf hp hk => ?_)
   obtain ⟨n,rfl⟩:=hO
   have q:a.eval (.tmp 9) = .slice (some ⟨b,off+4,none⟩) 4 (cap - 4):=hp 6 9 rfl
   refine RT.ob_call (g:=85) (args := #[.slice (some ⟨b,off+4,none⟩) 4 (cap - 4)]) rfl (RT.wanted_none rfl) (fun ev he hc => ?_) ((word32_q b (off+4) (cap - 4) (x 4) (x 5) (x 6) (x 7) w n (H.out 4 (by omega)) (H.out 5 (by omega)) (H.out 6 (by omega)) (H.out 7 (by omega))).mono ?_)
   ·have e1:=(he (.tmp 9)).trans q
    have hfn:=he (.func 85)
    simp only [List.getElem_toArray,List.getElem_cons_succ,List.getElem_cons_zero,execOp]
    simp only [resolve,invoke,Sem.run_bind,Sem.run_pure,Result.andThen_ok,List.map_toArray,List.map_cons,List.map_nil,e1,hfn,Act.eval]
    rfl
   ·rintro e W' ⟨rfl,m,rfl⟩
    exact ⟨_,rfl,rfl,m,rfl⟩
  ·refine RT.ObT.pure rfl rfl rfl (fun a V hf hp ev he hc W => ?_)
   have q10:ev (.tmp 10)=Go.Proofs.YtmaehekekkfpmaaDoor.Sh.U (Go.Proofs.YtmaehekekkfpmaaDoor.Sh.word (x 4) (x 5) (x 6) (x 7)):=(he (.tmp 10)).trans (hp 7 10 rfl)
   simp only [List.getElem_toArray,List.getElem_cons_succ,List.getElem_cons_zero,execOp];rw [q10]
   first | (go_simp;done) | (go_simp;rfl)
  ·refine RT.ObT.pure rfl rfl rfl (fun a V hf hp ev he hc W => ?_)
   have q7:ev (.tmp 7)=U ((Go.Proofs.YtmaehekekkfpmaaDoor.Sh.word (x 0) (x 1) (x 2) (x 3)).setWidth 64 <<< 32):=(he (.tmp 7)).trans (hp 4 7 rfl)
   have q11:ev (.tmp 11)=U ((Go.Proofs.YtmaehekekkfpmaaDoor.Sh.word (x 4) (x 5) (x 6) (x 7)).setWidth 64):=(he (.tmp 11)).trans (hp 8 11 rfl)
   simp only [List.getElem_toArray,List.getElem_cons_succ,List.getElem_cons_zero,execOp];rw [q7,q11]
   first | (go_simp;done) | (go_simp;rfl)
  ·refine RT.ObT.pure rfl rfl rfl (fun a V hf hp ev he hc W => ?_)
   have q12:ev (.tmp 12)=U (word x):=(he (.tmp 12)).trans (hp 9 12 rfl)
   simp only [List.getElem_toArray,List.getElem_cons_succ,List.getElem_cons_zero,execOp];rw [q12]
   first | (go_simp;done) | (go_simp;rfl)
 ·intro w' V hO
  obtain ⟨n,rfl⟩:=hO
  simp only [RT.lay,RT.val,RT.at',wfn,Act.put]
  go_wp2
  go_ret
  exact ⟨by simp [Array.getD_eq_getD_getElem?,Array.getElem?_setIfInBounds],n,rfl⟩
end Go.Proofs.YtmaehekekkfpmaaDoor.Sh.Q5
