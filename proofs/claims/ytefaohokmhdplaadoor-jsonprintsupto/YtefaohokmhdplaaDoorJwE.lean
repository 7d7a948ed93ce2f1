/- The reference's Print. -/
import Derived.Test.YtefaohokmhdplaaDoorJwD
import Derived.Test.YtefaohokmhdplaaDoorJwC
namespace Go.Proofs.YtefaohokmhdplaaDoor
open Go Go.RowKit
set_option linter.unusedSimpArgs false
set_option linter.unusedVariables false
set_option maxRecDepth 100000

mutual
/-- A tree's text. -/
def tp : JT → List Int
  | .mk k b t ks ps => if k = 1 then bt b else if k = 2 then nb t else if k = 3 then qt t else if k = 4 then [91] ++ (cm (tpl ps) ++ [93]) else if k = 5 then [123] ++ (cm (tpo ks ps) ++ [125]) else [110, 117, 108, 108]
def tpl : List JT → List (List Int)
  | [] => []
  | p :: r => tp p :: tpl r
def tpo : List ByteArray → List JT → List (List Int)
  | _, [] => []
  | ks, p :: r => (qt (ks.headD ⟨#[]⟩) ++ ([58] ++ tp p)) :: tpo ks.tail r
end
theorem tpl_at : ∀ (ps : List JT) (k : Nat) (j : JT), ps[k]? = some j → (tpl ps)[k]? = some (tp j)
  | [], k, j, h => by simp at h
  | p :: r, 0, j, h => by simp at h; subst h; rfl
  | p :: r, k + 1, j, h => by simp only [tpl]; exact tpl_at r k j (by simpa using h)
theorem tpl_len : ∀ (ps : List JT), (tpl ps).length = ps.length
  | [] => rfl
  | p :: r => by simp only [tpl, List.length_cons, tpl_len r]
theorem tpo_at : ∀ (ps : List JT) (ks : List ByteArray) (k : Nat) (j : JT), ps[k]? = some j → (tpo ks ps)[k]? = some (qt ((ks[k]?).getD ⟨#[]⟩) ++ ([58] ++ tp j))
  | [], ks, k, j, h => by simp at h
  | p :: r, ks, 0, j, h => by simp at h; subst h; cases ks <;> rfl
  | p :: r, ks, k + 1, j, h => by
    simp only [tpo]
    have := tpo_at r ks.tail k j (by simpa using h)
    rw [List.getElem?_cons_succ, this]
    cases ks <;> simp
theorem tpo_len : ∀ (ps : List JT) (ks : List ByteArray), (tpo ks ps).length = ps.length
  | [], ks => rfl
  | p :: r, ks => by simp only [tpo, List.length_cons, tpo_len r]
/-- The document's tree that a tree of the law's is. -/
inductive OT (A : Nat → Prop) (w : World) : Tv → JT → Prop
  | mk (x : Tv) (ks gs : List ByteArray) (xs : List Tv) (ps : List JT) (hk : RV A w 1 x.ks.v (keyc gs)) (h : RV A w 5 x.ps.v (tcs xs)) (hl : xs.length = ps.length) (hgl : gs.length = ps.length) (hg : ∀ (i : Nat) (g : ByteArray), gs[i]? = some g → g = (ks[i]?).getD ⟨#[]⟩) (hv : ∀ (i : Nat) (y : Tv) (j : JT), xs[i]? = some y → ps[i]? = some j → OT A w y j) : OT A w x (.mk x.k x.b x.t ks ps)
theorem OT.keep {A A' : Nat → Prop} {w w' : World} {v : Tv} {j : JT} (h : OT A w v j) (hk : ∀ b, A b → b < w.heap.size → A' b ∧ w'.heap[b]? = w.heap[b]?) (hs : w.heap.size ≤ w'.heap.size) : OT A' w' v j := by
  induction h with
  | mk x ks gs xs ps hkr h hl hgl hg hv ih => exact .mk x ks gs xs ps (hkr.keep hk hs) (h.keep hk hs) hl hgl hg ih
def RPC (w : World) (x : Tv) (j : JT) : Prop := ∀ (W : World), Below w.heap.size w W → (tp j).length ≤ 1000000000 → Calls Tryd.prog 16 #[x.val] W fun e W' => e = .returned (.string (sb (tp j))) ∧ Below W.heap.size W W'
theorem nb_len1 (a : ByteArray) (L : List Int) (h : nb a = L) : a.size = L.length := by rw [← nb_length, h]
theorem sb_eq {a : ByteArray} {L : List Int} (h : nb a = L) : a = sb L := by rw [← h, sb_nb]
theorem qt_nb (g : ByteArray) : nb (sb (qt g)) = qt g := nb_sb (qt_byt g)
mutual
theorem tp_byt : ∀ (j : JT), Byt (tp j)
  | .mk k b t ks ps => by
    have h1 : ∀ c : Int, 0 ≤ c → c ≤ 255 → Byt [c] := fun c h0 h1 x hx => by simp at hx; omega
    have hct : ∀ (r : List (List Int)), (∀ t ∈ r, Byt t) → Byt (ctl r) := fun r hr x hx => by
      unfold ctl at hx
      obtain ⟨t, ht, hx⟩ := List.mem_flatMap.1 hx
      rcases List.mem_cons.1 hx with rfl | q
      · omega
      · exact hr t ht x q
    have hcm : ∀ (r : List (List Int)), (∀ t ∈ r, Byt t) → Byt (cm r) := fun r hr => by
      cases r with
      | nil => exact fun x hx => by cases hx
      | cons t r => exact byt_append (hr t (by simp)) (hct r (fun t ht => hr t (by simp [ht])))
    have hl := tpl_byt ps
    have ho := tpo_byt ks ps
    simp only [tp]
    split
    · cases b <;> (intro x hx; simp [bt] at hx; omega)
    · split
      · exact nb_byt t
      · split
        · exact qt_byt t
        · split
          · exact byt_append (h1 91 (by omega) (by omega)) (byt_append (hcm _ hl) (h1 93 (by omega) (by omega)))
          · split
            · exact byt_append (h1 123 (by omega) (by omega)) (byt_append (hcm _ ho) (h1 125 (by omega) (by omega)))
            · intro x hx; simp at hx; omega
theorem tpl_byt : ∀ (ps : List JT), ∀ t ∈ tpl ps, Byt t
  | [] => fun t ht => by simp [tpl] at ht
  | p :: r => fun t ht => by
    simp only [tpl, List.mem_cons] at ht
    rcases ht with rfl | q
    · exact tp_byt p
    · exact tpl_byt r t q
theorem tpo_byt : ∀ (ks : List ByteArray) (ps : List JT), ∀ t ∈ tpo ks ps, Byt t
  | _, [] => fun t ht => by simp [tpo] at ht
  | ks, p :: r => fun t ht => by
    simp only [tpo, List.mem_cons] at ht
    rcases ht with rfl | q
    · exact byt_append (qt_byt _) (byt_append (fun x hx => by simp at hx; omega) (tp_byt p))
    · exact tpo_byt ks.tail r t q
end
def RC (W : World) (b : Nat) (x : Tv) : Prop := W.heap[b]? = some (.cells (tcv x).toArray 26 (0, 0))
set_option maxHeartbeats 16000000 in
theorem rplst_walk {A : Nat → Prop} {w : World} {x : Tv} {ks gs : List ByteArray} {xs : List Tv} {ps : List JT} (hx5 : x.k = 4) (hkr : RV A w 1 x.ks.v (keyc gs)) (h : RV A w 5 x.ps.v (tcs xs)) (hl : xs.length = ps.length) (hgl : gs.length = ps.length) (hg : ∀ (i : Nat) (g : ByteArray), gs[i]? = some g → g = (ks[i]?).getD ⟨#[]⟩) (hgz : ∀ g ∈ gs, g.size ≤ 1048576) (hv : ∀ (i : Nat) (y : Tv) (j : JT), xs[i]? = some y → ps[i]? = some j → RPC w y j) : RPC w x (.mk x.k x.b x.t ks ps) := by
  intro W hb hlen
  obtain ⟨xk, xb, xt, ⟨ka, kn, kc⟩, ⟨pa, pn, pc⟩⟩ := x
  obtain rfl : xk = 4 := hx5
  obtain ⟨ad, n, cap, hsl, hcl, hcc, hx⟩ := h
  cases hsl
  rw [tcs_length] at hcl
  have hcl : xs.length * 5 = pn * 5 := hcl
  have hn : pn = ps.length := by omega
  obtain ⟨ad, n, cap, hsl, hcl2, hcc2, hx2⟩ := hkr
  cases hsl
  have hcl2 : (keyc gs).length = kn * 1 := hcl2
  have hkn : kn = ps.length := by simp [keyc] at hcl2; omega
  have HXX : Hid (pn = 0 ∨ ∃ b o, pa = some ⟨b, o, none⟩ ∧ A b ∧ b < w.heap.size ∧ w.rangeAt b o (tcs xs)) := hx
  have HXK : Hid (kn = 0 ∨ ∃ b o, ka = some ⟨b, o, none⟩ ∧ A b ∧ b < w.heap.size ∧ w.rangeAt b o (keyc gs)) := hx2
  have HLX : Hid (xs.length = pn) := by show _ = _; omega
  have HLP : Hid (ps.length = pn) := hn.symm
  have HLK : Hid (gs.length = pn) := by show _ = _; omega
  have HGZ : Hid (∀ g ∈ gs, g.size ≤ 1048576) := hgz
  have HG : Hid (∀ (i : Nat) (g : ByteArray), gs[i]? = some g → g = (ks[i]?).getD ⟨#[]⟩) := hg
  have HV : Hid (∀ (i : Nat) (y : Tv) (j : JT), xs[i]? = some y → ps[i]? = some j → RPC w y j) := hv
  have HB : Hid (Below w.heap.size w W) := hb
  have htx : tp (.mk 4 xb xt ks ps) = [91] ++ (cm (tpl ps) ++ [93]) := by simp [tp]
  show Calls Tryd.prog 16 #[Tv.val ⟨4, xb, xt, ⟨ka, kn, kc⟩, ⟨pa, pn, pc⟩⟩] W fun e W' => e = .returned (.string (sb (tp (.mk 4 xb xt ks ps)))) ∧ Below W.heap.size W W'
  have hlen : (tp (.mk 4 xb xt ks ps)).length ≤ 1000000000 := hlen
  rw [htx] at hlen ⊢
  have hcl3 := cm_len (tpl ps)
  have htl : (tpl ps).length = pn := by rw [tpl_len]; omega
  obtain ⟨E, hE⟩ : ∃ E, cm (tpl ps) = E := ⟨_, rfl⟩
  have HE : Hid (cr (tpl ps) 0 = E) := by show _ = _; rw [cr_zero]; exact hE
  have HTL : Hid ((tpl ps).length = pn) := htl
  rw [hE] at hlen hcl3 ⊢
  have HL : Hid (E.length ≤ 1000000000) := by show _ ≤ _; simp at hlen; omega
  have hpn : (pn : Int) ≤ 1000000001 := by simp at hlen; omega
  rw [show Tv.val ⟨4, xb, xt, ⟨ka, kn, kc⟩, ⟨pa, pn, pc⟩⟩ = .agg #[.int .i64 4, .bool xb, .string xt, .slice ka kn kc, .slice pa pn pc] from rfl]
  obtain ⟨K, hK⟩ : ∃ K, W.heap.size = K := ⟨_, rfl⟩
  have HK : Hid (W.heap.size = K) := hK
  have HC : Hid (TC (W.alloc (.cells #[.int .i64 4, .bool xb, .string xt, .slice ka kn kc, .slice pa pn pc] 26)) K ⟨4, xb, xt, ⟨ka, kn, kc⟩, ⟨pa, pn, pc⟩⟩) := by show TC _ _ _; rw [← hK]; exact heap_alloc_new _ _
  have HBA : Hid (Below W.heap.size W (W.alloc (.cells #[.int .i64 4, .bool xb, .string xt, .slice ka kn kc, .slice pa pn pc] 26))) := (Below.refl _ _).alloc (Nat.le_refl _) _
  have HKN : Hid (kn = pn) := by show _ = _; omega
  clear hx hcl hv hl hb hcc hn hx2 hcl2 hcc2 hkn hgz hg hgl hlen hE htx hcl3 htl
  go_enter Tryd.func16, Tryd.ntmps16
  go_wp2_with fail
  go_loopw [3, 29] (fun v3 v W' => ∃ (k : Nat) (T : ByteArray) (L : List Int), k ≤ pn ∧ v = .int .i64 (k : Int) ∧ v3 = .string T ∧ nb T = [91] ++ L ∧ L ++ cr (tpl ps) k = E ∧ TC W' K ⟨4, xb, xt, ⟨ka, kn, kc⟩, ⟨pa, pn, pc⟩⟩ ∧ Below W.heap.size W W') (fun _ v _ => pn - (intOf v).toNat)
  case atStart => exact ⟨0, ⟨#[91]⟩, [], Nat.zero_le _, rfl, rfl, rfl, HE.out, HC.out, HBA.out⟩
  case round =>
    obtain ⟨k, T, L, hk, rfl, rfl, hT, he, hlc, hbw⟩ := hrel
    have HT : Hid (nb T = [91] ++ L) := hT
    have HEE : Hid (L ++ cr (tpl ps) k = E) := he
    have HLC : Hid (TC wr K ⟨4, xb, xt, ⟨ka, kn, kc⟩, ⟨pa, pn, pc⟩⟩) := hlc
    have HBW : Hid (Below W.heap.size W wr) := hbw
    obtain ⟨z0, z1, z2, z3, z4, zf⟩ := hlc.cells
    simp only at z0 z1 z2 z3 z4
    have HTZ : Hid (T.size = 1 + L.length) := by show _ = _; rw [nb_len1 T _ hT]; simp; omega
    clear hlc hbw HC HBA HE hT he zf
    by_cases hlt : k < pn
    · rcases HXX.out with h0 | ⟨b, o, rfl, -, hlb, hm⟩
      · omega
      obtain ⟨y, hy⟩ : ∃ y, xs[k]? = some y := ⟨xs[k]'(by have := HLX.out; omega), List.getElem?_eq_getElem _⟩
      obtain ⟨j, hj⟩ : ∃ j, ps[k]? = some j := ⟨ps[k]'(by have := HLP.out; omega), List.getElem?_eq_getElem _⟩
      have HBT : Hid (Below w.heap.size w wr) := HB.out.trans (HBW.out.mono HB.out.size)
      have HM : Hid (w.rangeAt b o (tcs xs)) := hm
      have HLB : Hid (b < w.heap.size) := hlb
      have HY : Hid (xs[k]? = some y) := hy
      have HJ : Hid (ps[k]? = some j) := hj
      have hstep := cr_step (tpl_at ps k j HJ.out)
      obtain ⟨sp, hsp⟩ : ∃ sp, (if 0 < k then ([44] : List Int) else []) = sp := ⟨_, rfl⟩
      rw [hsp] at hstep
      have HSP : Hid ((if 0 < k then ([44] : List Int) else []) = sp) := hsp
      have HLL : Hid (L.length + sp.length + (tp j).length ≤ 1000000000) := by
        have a1 := HL.out; have a2 := HEE.out; rw [hstep] at a2; rw [← a2] at a1; simp only [List.length_append] at a1 ⊢; show _ ≤ _; omega
      have HEN : Hid (L ++ (sp ++ (tp j)) ++ cr (tpl ps) (k + 1) = E) := by show _ = _; rw [List.append_assoc, ← hstep]; exact HEE.out
      obtain ⟨c0, c1, c2, c3, c4⟩ := tcs_cells hm HBT.out hlb hy
      have HCL0 : Hid (∀ W1, Below w.heap.size w W1 → (tp j).length ≤ 1000000000 → Calls Tryd.prog 16 #[y.val] W1 fun e W' => e = .returned (.string (sb (tp j))) ∧ Below W1.heap.size W1 W') := HV.out k y j hy hj
      obtain ⟨yk, yb, yt, ⟨ya, yn, yc⟩, ⟨qa, qn, qc⟩⟩ := y
      simp only at c0 c1 c2 c3 c4
      clear hm hlb hy hj hstep hsp
      rcases Nat.eq_zero_or_pos k with hk0 | hk0
      case' inl =>
        subst hk0
        simp only [Nat.zero_mul, Nat.add_zero] at c0 c1 c2 c3 c4
        go_wp2_with fail
        have HT2 : Hid (nb T = [91] ++ (L ++ sp)) := by show _ = _; rw [← HSP.out, if_neg (by omega), List.append_nil]; exact HT.out
        obtain ⟨T2, hT2⟩ : ∃ T2, T = T2 := ⟨_, rfl⟩
        rw [hT2] at HT2 ⊢
        clear hT2
      case' inr =>
        have hk1 : (0 : Int) < (k : Int) := by omega
        have h5 : ¬ (T.size + 1 > 9223372036854775807) := by have := HTZ.out; have := HLL.out; omega
        go_wp2_with fail
        have HT2 : Hid (nb (T ++ ⟨#[44]⟩) = [91] ++ (L ++ sp)) := by show _ = _; rw [nb_append, HT.out, ← HSP.out, if_pos hk0, List.append_assoc]; rfl
        obtain ⟨T2, hT2⟩ : ∃ T2, T ++ ⟨#[44]⟩ = T2 := ⟨_, rfl⟩
        rw [hT2] at HT2 ⊢
        clear hT2 h5 hk1
      all_goals (
        have HZ2 : Hid (T2.size = 1 + (L.length + sp.length)) := by show _ = _; rw [nb_len1 _ _ HT2.out]; simp; omega
        refine (HCL0.out wr HBT.out (by have := HLL.out; omega)).mono ?_
        rintro e W2 ⟨rfl, hb2⟩
        have HLC2 : Hid (TC W2 K ⟨4, xb, xt, ⟨ka, kn, kc⟩, ⟨some ⟨b, o, none⟩, pn, pc⟩⟩) := HLC.out.keep (hb2.block _ HLC.out.lt)
        have HBW2 : Hid (Below W.heap.size W W2) := bl_tr HBW.out hb2
        have htz := sb_size (tp j)
        have h8 : ¬ (T2.size + (sb (tp j)).size > 9223372036854775807) := by have := HZ2.out; have := HLL.out; omega
        have HT5 : Hid (nb (T2 ++ sb (tp j)) = [91] ++ (L ++ (sp ++ tp j))) := by show _ = _; rw [nb_append, HT2.out, nb_sb (tp_byt j)]; simp
        clear hb2 htz z0 z1 z2 z3 z4
        try clear c0 c1 c2 c3 c4
        go_wp2
        go_roundw
        case rel => exact ⟨_, _, _, hlt, by go_num, rfl, HT5.out, HEN.out, HLC2.out, HBW2.out⟩
        case measure => simp [intOf]; omega)
    · have HLE : Hid (L = E) := by show _ = _; have := HEE.out; rw [cr_end (by have := HTL.out; omega), List.append_nil] at this; exact this
      have hts : ¬ (T.size + 1 > 9223372036854775807) := by have := HTZ.out; have := HL.out; rw [HLE.out] at *; omega
      have HFT : Hid (T ++ ⟨#[93]⟩ = sb ([91] ++ (E ++ [93]))) := by
        refine sb_eq ?_
        rw [nb_append, HT.out, HLE.out]; simp; rfl
      go_wp2
      go_ret
      refine ⟨?_, by first | exact HBW.out | (rw [← HK.out]; exact HBW.out)⟩
      show Ending.returned (.string (T ++ ⟨#[93]⟩)) = _
      rw [HFT.out]; rfl
set_option maxHeartbeats 16000000 in
theorem rpobj_walk {A : Nat → Prop} {w : World} {x : Tv} {ks gs : List ByteArray} {xs : List Tv} {ps : List JT} (hx5 : x.k = 5) (hkr : RV A w 1 x.ks.v (keyc gs)) (h : RV A w 5 x.ps.v (tcs xs)) (hl : xs.length = ps.length) (hgl : gs.length = ps.length) (hg : ∀ (i : Nat) (g : ByteArray), gs[i]? = some g → g = (ks[i]?).getD ⟨#[]⟩) (hgz : ∀ g ∈ gs, g.size ≤ 1048576) (hv : ∀ (i : Nat) (y : Tv) (j : JT), xs[i]? = some y → ps[i]? = some j → RPC w y j) : RPC w x (.mk x.k x.b x.t ks ps) := by
  intro W hb hlen
  obtain ⟨xk, xb, xt, ⟨ka, kn, kc⟩, ⟨pa, pn, pc⟩⟩ := x
  obtain rfl : xk = 5 := hx5
  obtain ⟨ad, n, cap, hsl, hcl, hcc, hx⟩ := h
  cases hsl
  rw [tcs_length] at hcl
  have hcl : xs.length * 5 = pn * 5 := hcl
  have hn : pn = ps.length := by omega
  obtain ⟨ad, n, cap, hsl, hcl2, hcc2, hx2⟩ := hkr
  cases hsl
  have hcl2 : (keyc gs).length = kn * 1 := hcl2
  have hkn : kn = ps.length := by simp [keyc] at hcl2; omega
  have HXX : Hid (pn = 0 ∨ ∃ b o, pa = some ⟨b, o, none⟩ ∧ A b ∧ b < w.heap.size ∧ w.rangeAt b o (tcs xs)) := hx
  have HXK : Hid (kn = 0 ∨ ∃ b o, ka = some ⟨b, o, none⟩ ∧ A b ∧ b < w.heap.size ∧ w.rangeAt b o (keyc gs)) := hx2
  have HLX : Hid (xs.length = pn) := by show _ = _; omega
  have HLP : Hid (ps.length = pn) := hn.symm
  have HLK : Hid (gs.length = pn) := by show _ = _; omega
  have HGZ : Hid (∀ g ∈ gs, g.size ≤ 1048576) := hgz
  have HG : Hid (∀ (i : Nat) (g : ByteArray), gs[i]? = some g → g = (ks[i]?).getD ⟨#[]⟩) := hg
  have HV : Hid (∀ (i : Nat) (y : Tv) (j : JT), xs[i]? = some y → ps[i]? = some j → RPC w y j) := hv
  have HB : Hid (Below w.heap.size w W) := hb
  have htx : tp (.mk 5 xb xt ks ps) = [123] ++ (cm (tpo ks ps) ++ [125]) := by simp [tp]
  show Calls Tryd.prog 16 #[Tv.val ⟨5, xb, xt, ⟨ka, kn, kc⟩, ⟨pa, pn, pc⟩⟩] W fun e W' => e = .returned (.string (sb (tp (.mk 5 xb xt ks ps)))) ∧ Below W.heap.size W W'
  have hlen : (tp (.mk 5 xb xt ks ps)).length ≤ 1000000000 := hlen
  rw [htx] at hlen ⊢
  have hcl3 := cm_len (tpo ks ps)
  have htl : (tpo ks ps).length = pn := by rw [tpo_len]; omega
  obtain ⟨E, hE⟩ : ∃ E, cm (tpo ks ps) = E := ⟨_, rfl⟩
  have HE : Hid (cr (tpo ks ps) 0 = E) := by show _ = _; rw [cr_zero]; exact hE
  have HTL : Hid ((tpo ks ps).length = pn) := htl
  rw [hE] at hlen hcl3 ⊢
  have HL : Hid (E.length ≤ 1000000000) := by show _ ≤ _; simp at hlen; omega
  have hpn : (pn : Int) ≤ 1000000001 := by simp at hlen; omega
  rw [show Tv.val ⟨5, xb, xt, ⟨ka, kn, kc⟩, ⟨pa, pn, pc⟩⟩ = .agg #[.int .i64 5, .bool xb, .string xt, .slice ka kn kc, .slice pa pn pc] from rfl]
  obtain ⟨K, hK⟩ : ∃ K, W.heap.size = K := ⟨_, rfl⟩
  have HK : Hid (W.heap.size = K) := hK
  have HC : Hid (TC (W.alloc (.cells #[.int .i64 5, .bool xb, .string xt, .slice ka kn kc, .slice pa pn pc] 26)) K ⟨5, xb, xt, ⟨ka, kn, kc⟩, ⟨pa, pn, pc⟩⟩) := by show TC _ _ _; rw [← hK]; exact heap_alloc_new _ _
  have HBA : Hid (Below W.heap.size W (W.alloc (.cells #[.int .i64 5, .bool xb, .string xt, .slice ka kn kc, .slice pa pn pc] 26))) := (Below.refl _ _).alloc (Nat.le_refl _) _
  have HKN : Hid (kn = pn) := by show _ = _; omega
  clear hx hcl hv hl hb hcc hn hx2 hcl2 hcc2 hkn hgz hg hgl hlen hE htx hcl3 htl
  go_enter Tryd.func16, Tryd.ntmps16
  go_wp2_with fail
  go_loopw [3, 29] (fun v3 v W' => ∃ (k : Nat) (T : ByteArray) (L : List Int), k ≤ pn ∧ v = .int .i64 (k : Int) ∧ v3 = .string T ∧ nb T = [123] ++ L ∧ L ++ cr (tpo ks ps) k = E ∧ TC W' K ⟨5, xb, xt, ⟨ka, kn, kc⟩, ⟨pa, pn, pc⟩⟩ ∧ Below W.heap.size W W') (fun _ v _ => pn - (intOf v).toNat)
  case atStart => exact ⟨0, ⟨#[123]⟩, [], Nat.zero_le _, rfl, rfl, rfl, HE.out, HC.out, HBA.out⟩
  case round =>
    obtain ⟨k, T, L, hk, rfl, rfl, hT, he, hlc, hbw⟩ := hrel
    have HT : Hid (nb T = [123] ++ L) := hT
    have HEE : Hid (L ++ cr (tpo ks ps) k = E) := he
    have HLC : Hid (TC wr K ⟨5, xb, xt, ⟨ka, kn, kc⟩, ⟨pa, pn, pc⟩⟩) := hlc
    have HBW : Hid (Below W.heap.size W wr) := hbw
    obtain ⟨z0, z1, z2, z3, z4, zf⟩ := hlc.cells
    simp only at z0 z1 z2 z3 z4
    have HTZ : Hid (T.size = 1 + L.length) := by show _ = _; rw [nb_len1 T _ hT]; simp; omega
    clear hlc hbw HC HBA HE hT he zf
    by_cases hlt : k < pn
    · rcases HXX.out with h0 | ⟨b, o, rfl, -, hlb, hm⟩
      · omega
      obtain ⟨y, hy⟩ : ∃ y, xs[k]? = some y := ⟨xs[k]'(by have := HLX.out; omega), List.getElem?_eq_getElem _⟩
      obtain ⟨j, hj⟩ : ∃ j, ps[k]? = some j := ⟨ps[k]'(by have := HLP.out; omega), List.getElem?_eq_getElem _⟩
      have HBT : Hid (Below w.heap.size w wr) := HB.out.trans (HBW.out.mono HB.out.size)
      have HM : Hid (w.rangeAt b o (tcs xs)) := hm
      have HLB : Hid (b < w.heap.size) := hlb
      have HY : Hid (xs[k]? = some y) := hy
      have HJ : Hid (ps[k]? = some j) := hj
      have hstep := cr_step (tpo_at ps ks k j HJ.out)
      obtain ⟨sp, hsp⟩ : ∃ sp, (if 0 < k then ([44] : List Int) else []) = sp := ⟨_, rfl⟩
      rw [hsp] at hstep
      have HSP : Hid ((if 0 < k then ([44] : List Int) else []) = sp) := hsp
      have HLL : Hid (L.length + sp.length + (qt ((ks[k]?).getD ⟨#[]⟩) ++ ([58] ++ tp j)).length ≤ 1000000000) := by
        have a1 := HL.out; have a2 := HEE.out; rw [hstep] at a2; rw [← a2] at a1; simp only [List.length_append] at a1 ⊢; show _ ≤ _; omega
      have HEN : Hid (L ++ (sp ++ (qt ((ks[k]?).getD ⟨#[]⟩) ++ ([58] ++ tp j))) ++ cr (tpo ks ps) (k + 1) = E) := by show _ = _; rw [List.append_assoc, ← hstep]; exact HEE.out
      obtain ⟨g, hgg⟩ : ∃ g, gs[k]? = some g := ⟨gs[k]'(by have := HLK.out; omega), List.getElem?_eq_getElem _⟩
      have hge := HG.out k g hgg
      have hgs := HGZ.out g (List.mem_of_getElem? hgg)
      rw [← hge] at HLL HEN
      have HQ : Hid (∀ W1, Calls Tryd.prog 35 #[.string g] W1 fun e w' => e = .returned (.string (sb (qt g))) ∧ Below W1.heap.size W1 w') := fun W1 => rquoted_any hgs W1
      rcases HXK.out with h0 | ⟨b2, o2, rfl, -, hlb2, hm2⟩
      · have := HKN.out; omega
      have d0 : wr.cell? ⟨b2, o2 + k, none⟩ = some (.string g) := (HBT.out.cell (p := ⟨b2, o2 + k, none⟩) hlb2).trans (hm2 _ _ (by simp [keyc, List.getElem?_map, hgg]))
      have hknn : (k : Int) < (kn : Int) := by have := HKN.out; omega
      clear hm2 hlb2 hgg hge hgs
      obtain ⟨c0, c1, c2, c3, c4⟩ := tcs_cells hm HBT.out hlb hy
      have HCL0 : Hid (∀ W1, Below w.heap.size w W1 → (tp j).length ≤ 1000000000 → Calls Tryd.prog 16 #[y.val] W1 fun e W' => e = .returned (.string (sb (tp j))) ∧ Below W1.heap.size W1 W') := HV.out k y j hy hj
      obtain ⟨yk, yb, yt, ⟨ya, yn, yc⟩, ⟨qa, qn, qc⟩⟩ := y
      simp only at c0 c1 c2 c3 c4
      clear hm hlb hy hj hstep hsp
      rcases Nat.eq_zero_or_pos k with hk0 | hk0
      case' inl =>
        subst hk0
        simp only [Nat.zero_mul, Nat.add_zero] at c0 c1 c2 c3 c4
        have d1 : wr.cell? ⟨b2, o2, none⟩ = some (.string g) := d0
        clear d0
        go_wp2_with fail
        have HT2 : Hid (nb T = [123] ++ (L ++ sp)) := by show _ = _; rw [← HSP.out, if_neg (by omega), List.append_nil]; exact HT.out
        obtain ⟨T2, hT2⟩ : ∃ T2, T = T2 := ⟨_, rfl⟩
        rw [hT2] at HT2 ⊢
        clear hT2
      case' inr =>
        have hk1 : (0 : Int) < (k : Int) := by omega
        have h5 : ¬ (T.size + 1 > 9223372036854775807) := by have := HTZ.out; have := HLL.out; omega
        go_wp2_with fail
        have HT2 : Hid (nb (T ++ ⟨#[44]⟩) = [123] ++ (L ++ sp)) := by show _ = _; rw [nb_append, HT.out, ← HSP.out, if_pos hk0, List.append_assoc]; rfl
        obtain ⟨T2, hT2⟩ : ∃ T2, T ++ ⟨#[44]⟩ = T2 := ⟨_, rfl⟩
        rw [hT2] at HT2 ⊢
        clear hT2 h5 hk1
      all_goals (
        have HZ2 : Hid (T2.size = 1 + (L.length + sp.length)) := by show _ = _; rw [nb_len1 _ _ HT2.out]; simp; omega
        refine (HQ.out wr).mono ?_
        rintro e W1 ⟨rfl, hb1⟩
        have HLC1 : Hid (TC W1 K ⟨5, xb, xt, ⟨some ⟨b2, o2, none⟩, kn, kc⟩, ⟨some ⟨b, o, none⟩, pn, pc⟩⟩) := HLC.out.keep (hb1.block _ HLC.out.lt)
        have HBW1 : Hid (Below W.heap.size W W1) := bl_tr HBW.out hb1
        have HBT1 : Hid (Below w.heap.size w W1) := HBT.out.trans (hb1.mono HBT.out.size)
        obtain ⟨z0', z1', z2', z3', z4', zf'⟩ := HLC1.out.cells
        obtain ⟨c0', c1', c2', c3', c4'⟩ := tcs_cells HM.out HBT1.out HLB.out HY.out
        simp only [Nat.zero_mul, Nat.add_zero] at z0' z1' z2' z3' z4' c0' c1' c2' c3' c4'
        have hqz := sb_size (qt g)
        have h6 : ¬ (T2.size + (sb (qt g)).size > 9223372036854775807) := by have := HZ2.out; have := HLL.out; simp only [List.length_append] at this; omega
        have h7 : ¬ ((T2 ++ sb (qt g)).size + 1 > 9223372036854775807) := by have := HZ2.out; have := HLL.out; simp only [List.length_append] at this; rw [ByteArray.size_append]; omega
        have h9 : ¬ (T2.size + (sb (qt g)).size + 1 > 9223372036854775807) := by have := HZ2.out; have := HLL.out; simp only [List.length_append] at this; omega
        have HT4 : Hid (nb ((T2 ++ sb (qt g)) ++ ⟨#[58]⟩) = [123] ++ (L ++ (sp ++ (qt g ++ [58])))) := by show _ = _; rw [nb_append, nb_append, HT2.out, qt_nb]; simp; rfl
        clear hb1 hqz zf' z0 z1 z2 z3 z4
        try clear c0 c1 c2 c3 c4
        try clear d0
        try clear d1
        go_wp2_with fail
        obtain ⟨T4, hT4⟩ : ∃ T4, (T2 ++ sb (qt g)) ++ ⟨#[58]⟩ = T4 := ⟨_, rfl⟩
        rw [hT4] at HT4 ⊢
        have HZ4 : Hid (T4.size = 1 + (L.length + (sp.length + ((qt g).length + 1)))) := by show _ = _; rw [nb_len1 _ _ HT4.out]; simp; omega
        clear hT4 h6 h7 h9
        refine (HCL0.out W1 HBT1.out (by have := HLL.out; simp only [List.length_append] at this; omega)).mono ?_
        rintro e W2 ⟨rfl, hb2⟩
        have HLC2 : Hid (TC W2 K ⟨5, xb, xt, ⟨some ⟨b2, o2, none⟩, kn, kc⟩, ⟨some ⟨b, o, none⟩, pn, pc⟩⟩) := HLC1.out.keep (hb2.block _ HLC1.out.lt)
        have HBW2 : Hid (Below W.heap.size W W2) := bl_tr HBW1.out hb2
        have htz := sb_size (tp j)
        have h8 : ¬ (T4.size + (sb (tp j)).size > 9223372036854775807) := by have := HZ4.out; have := HLL.out; simp only [List.length_append] at this; omega
        have HT5 : Hid (nb (T4 ++ sb (tp j)) = [123] ++ (L ++ (sp ++ (qt g ++ ([58] ++ tp j))))) := by show _ = _; rw [nb_append, HT4.out, nb_sb (tp_byt j)]; simp
        clear hb2 htz z0' z1' z2' z3' z4' c0' c1' c2' c3' c4'
        go_wp2
        go_roundw
        case rel => exact ⟨_, _, _, hlt, by go_num, rfl, HT5.out, HEN.out, HLC2.out, HBW2.out⟩
        case measure => simp [intOf]; omega)
    · have HLE : Hid (L = E) := by show _ = _; have := HEE.out; rw [cr_end (by have := HTL.out; omega), List.append_nil] at this; exact this
      have hts : ¬ (T.size + 1 > 9223372036854775807) := by have := HTZ.out; have := HL.out; rw [HLE.out] at *; omega
      have HFT : Hid (T ++ ⟨#[125]⟩ = sb ([123] ++ (E ++ [125]))) := by
        refine sb_eq ?_
        rw [nb_append, HT.out, HLE.out]; simp; rfl
      go_wp2
      go_ret
      refine ⟨?_, by first | exact HBW.out | (rw [← HK.out]; exact HBW.out)⟩
      show Ending.returned (.string (T ++ ⟨#[125]⟩)) = _
      rw [HFT.out]; rfl
end Go.Proofs.YtefaohokmhdplaaDoor
