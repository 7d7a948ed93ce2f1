/- Package tree: byPrefix, to the block; slices.SortFunc of nodes. -/
import Derived.Test.YtpojalbpekbfdaaDoorTraA
import Derived.Shelf.SlSortCmp.WholeK
import Derived.Shelf.Lay
import Derived.Ground.SlsfProg
import Derived.Test.YtpojalbpekbfdaaDoorTrsC
namespace Go.Proofs.YtpojalbpekbfdaaDoor
open Go Go.RowKit Go.Shelf
set_option linter.unusedSimpArgs false
set_option linter.unusedVariables false
set_option maxRecDepth 100000

shelf_lay_g SlLaysF0.n6 Slsf 6 at Tryd 44 as sortNd

theorem sl_drewN {W : World} {v : Value} {x : List Int} (h : Sl W v x) (n : Nat) : Sl (W.drewN n) v x := h
set_option maxHeartbeats 2000000 in
theorem byPrefix_lays (a b : Nd) (ha : a.Ok) (hb : b.Ok) (w : World) :
    Calls Tryd.prog 68 #[.agg (nc a).toArray, .agg (nc b).toArray] w fun e w' => e = .returned (.int .i64 (cmpI a.p b.p)) ∧ ∃ q os', w' = Go.Sort.grow (w.drewN q) os' := by
  have s1 := nc_size ha
  have s2 := nc_size hb
  obtain ⟨ra, rb, rs, rl⟩ := two_rows w (nc a) (nc b) 44 44
  obtain ⟨A, hA⟩ : ∃ A, (nc a).toArray = A := ⟨_, rfl⟩
  obtain ⟨B, hB⟩ : ∃ B, (nc b).toArray = B := ⟨_, rfl⟩
  rw [hA, hB] at ra rb rs rl
  rw [hA] at s1 ⊢
  rw [hB] at s2 ⊢
  have HA : Hid a.Ok := ha
  have HB : Hid b.Ok := hb
  obtain ⟨z, hz⟩ : ∃ z, cmpI a.p b.p = z := ⟨_, rfl⟩
  have HZ : Hid (cmpI a.p b.p = z) := hz
  rw [hz]
  clear ha hb hz
  go_enter Tryd.func68, Tryd.ntmps68
  go_wp2_with fail
  obtain ⟨U, hU⟩ : ∃ U, (w.alloc (.cells A 44)).alloc (.cells B 44) = U := ⟨_, rfl⟩
  have HU : Hid (∃ os, U = Go.Sort.grow w os) := ⟨_, by rw [← hU, Go.Sort.alloc_eq_grow, Go.Sort.alloc_eq_grow, Go.Sort.grow_grow]⟩
  rw [hU] at ra rb rs rl ⊢
  obtain ⟨D, hD⟩ : ∃ D, w.heap.size = D := ⟨_, rfl⟩
  rw [hD] at ra rb rs ⊢
  have hDX : Hid (D < U.heap.size) := by show D < _; omega
  have hDY : Hid (D + 1 < U.heap.size) := by show D + 1 < _; omega
  have RA : Hid (U.rangeAt D 1 (bv a.p)) := nc_p ra
  have RB : Hid (U.rangeAt (D + 1) 1 (bv b.p)) := nc_p rb
  have HCM : Hid (∀ n, Calls Tryd.prog 46 #[.slice (some ⟨D, 1, none⟩) 32 32, .slice (some ⟨D + 1, 1, none⟩) 32 32] (U.drewN n) fun e w' => e = .returned (.int .i64 z) ∧ w' = U.drewN n) := fun n => by
    have := compare_any a.p b.p _ _ (U.drewN n) (sl_drewN (sl_range HA.out.p RA.out hDX.out) n) (sl_drewN (sl_range HB.out.p RB.out hDY.out) n)
    rw [HZ.out] at this; exact this
  clear hU ra rb rs rl hD hA hB
  go_quiet ((go_at_call 46; exact Calls.quiet_of_same (HCM.out _)))
  go_wp2_with fail
  go_ret
  obtain ⟨os, rfl⟩ := HU.out
  exact ⟨rfl, nq, os, rfl⟩
end Go.Proofs.YtpojalbpekbfdaaDoor
/- Package tree: nodes sorted by slices.SortFunc. -/
namespace Go.Proofs.YtpojalbpekbfdaaDoor
open Go Go.RowKit Go.Shelf
set_option linter.unusedSimpArgs false
set_option linter.unusedVariables false
set_option maxRecDepth 100000

/-- A node whose rows are 32 bytes each. -/
abbrev NdK := {x : Nd // x.Ok}
instance : Inhabited NdK := ⟨⟨ndz, ndz_ok⟩⟩
def encN (x : NdK) : List Value := nc x.1
def cfN (x y : NdK) : Int := cmpI x.1.p y.1.p
theorem lt_cfN (x y : NdK) : ltOf cfN x y = decide (pf x.1.p 256 < pf y.1.p 256) := by
  unfold ltOf cfN
  exact decide_eq_decide.2 (cmp_swo x.2.p y.2.p)
theorem swoN : Go.Sort.SWO (ltOf cfN) where
  irrefl x := by rw [lt_cfN]; simp
  trans x y z h1 h2 := by rw [lt_cfN] at *; simp at *; omega
  ntrans x y z h1 h2 := by rw [lt_cfN] at *; simp at *; omega
/-- Nodes as an array. -/
def arrN (l : List Nd) (hk : ∀ x ∈ l, x.Ok) : Array NdK := (l.attachWith _ hk).toArray
theorem arrN_size (l : List Nd) (hk : ∀ x ∈ l, x.Ok) : (arrN l hk).size = l.length := by simp [arrN]
theorem arrN_get (l : List Nd) (hk : ∀ x ∈ l, x.Ok) {i : Nat} (hi : i < l.length) : ((arrN l hk)[i]!).1 = l[i] := by
  rw [getElem!_pos _ i (by rw [arrN_size]; exact hi)]
  simp [arrN]
theorem arrN_list (l : List Nd) (hk : ∀ x ∈ l, x.Ok) : (arrN l hk).toList.map (·.1) = l := by
  simp [arrN, List.attachWith_map_val]
theorem below_sort (w : World) (g off n : Nat) (d : Array NdK) (os : Array Obj) {B : Nat} (hB : B ≤ w.heap.size) (hg : B ≤ g) : Below B w (sortWorldK encN 65 w g off n d os) := by
  refine ⟨rfl, rfl, rfl, ?_, fun k hk => ?_⟩
  · show w.heap.size ≤ (_ ++ os).size
    rw [Array.size_append]
    have : (Go.Sort.putRowK encN 65 (Go.Sort.ahead w n) g off d).heap.size = w.heap.size := Go.Sort.size_putRow _ _ _ _ _
    omega
  · show (_ ++ os)[k]? = _
    have hs : (Go.Sort.putRowK encN 65 (Go.Sort.ahead w n) g off d).heap.size = w.heap.size := Go.Sort.size_putRow _ _ _ _ _
    rw [Array.getElem?_append_left (by omega)]
    show (w.heap.modify g _)[k]? = _
    rw [Array.getElem?_modify, if_neg (by omega)]
set_option maxHeartbeats 2000000 in
theorem sort_nodes : SortC := by
  intro B w v l h hlen
  obtain ⟨ho, hk, hB⟩ := h
  have ho' := ho
  obtain ⟨h1, ⟨rfl, h2⟩ | ⟨g, cap, cur, rfl, hBg, hg, hnc, -, hcs, -⟩⟩ := ho
  · have e : l = [] := List.length_eq_zero_iff.1 h2
    subst e
    refine (sort_none none 0 _ w).mono ?_
    rintro e w' ⟨rfl, rfl⟩
    exact ⟨rfl, [], List.Perm.refl _, List.Pairwise.nil, ⟨none, 0, rfl, Nat.le_refl _, .inl ⟨rfl, fun _ => rfl⟩⟩, Below.refl _ _⟩
  · have hgl : g < w.heap.size := (Array.getElem?_eq_some_iff.1 hg).1
    have hsz := arrN_size l hk
    have hlk : ∀ x : NdK, (encN x).length = 65 := fun x => nc_length x.2
    have hone : ∀ x : NdK, ∀ v ∈ encN x, v.oneCell' = true := fun x v hv => ncs_one [x.1] v (by have hv : v ∈ nc x.1 := hv; simpa [ncs] using hv)
    have hH : Go.Sort.HoldsK encN 65 w g 0 (arrN l hk) := by
      intro j hj
      rw [Go.Sort.size_flatK, hsz] at hj
      have hi : j / 65 < l.length := by omega
      refine ⟨?_, ?_⟩
      · rw [Go.Sort.get_flatK _ _ _ j (by rw [hsz]; exact hj)]
        have hm : j % 65 < (encN (arrN l hk)[j / 65]!).length := by rw [hlk]; omega
        have e := ncs_get hk (j / 65) (j % 65) l[j / 65] (List.getElem?_eq_getElem hi) (by omega)
        rw [show j / 65 * 65 + j % 65 = j by omega] at e
        have e2 : (nc l[j / 65])[j % 65]? = some (encN (arrN l hk)[j / 65]!)[j % 65]! := by
          rw [getElem!_pos (encN (arrN l hk)[j / 65]!) (j % 65) hm, ← List.getElem?_eq_getElem hm]
          unfold encN; rw [arrN_get l hk hi]
        have := ho'.cells (g := g) rfl j _ (by rw [e]; exact e2)
        rw [addr_add0] at this
        exact this
      · show w.frozen? _ = false
        unfold World.frozen?
        show (match w.heap[g]? with | some (.cells _ _ (lo, hi)) => _ | _ => _) = false
        rw [hg]
        simp
    have eg : ∀ args w, (callFunc 68 args).run Tryd.prog w = .ok (.enter 68 args) w := enters_of Tryd.func68 (by kernel_rfl) rfl
    have hcon := AnyQ.slices_SortFunc sortNd 65 (fun w => by first | exact Tryd.isAgg44 w | kernel_rfl) (fun w => by first | exact Tryd.sizeOf44 w | kernel_rfl) encN hlk hone cfN swoN 68 #[] g 0 cap (arrN l hk) w eg (fun _ _ _ _ x y => byPrefix_lays x.1 y.1 x.2 y.2 _) hH hgl (by rw [hsz]; omega)
    rw [hsz] at hcon
    change Calls Tryd.prog 44 _ _ _ at hcon
    refine hcon.mono ?_
    rintro e w' ⟨rfl, d', n, os, hp, hs, rfl⟩
    obtain ⟨p1, p2, p3⟩ := hp
    have hd : d'.size = l.length := by rw [p1, hsz]
    have hperm : d'.toList.Perm (arrN l hk).toList := by
      rw [← hsz] at p3
      rw [Array.extract_size] at p3
      rw [show (arrN l hk).size = d'.size from p1.symm, Array.extract_size] at p3
      exact p3
    have hH' := holdsK_sortWorldK encN 65 w g 0 n (arrN l hk) d' os hgl hH p1
    refine ⟨rfl, d'.toList.map (·.1), ?_, ?_, ?_, below_sort w g 0 n d' os hB hBg⟩
    · have := hperm.map (·.1); rwa [arrN_list] at this
    · rw [List.pairwise_map, List.pairwise_iff_getElem]
      intro i j hi hj hij
      rw [Array.length_toList] at hi hj
      have := hs i j (Nat.zero_le _) hij (by omega)
      rw [lt_cfN] at this
      rw [getElem!_pos d' i hi, getElem!_pos d' j hj] at this
      simp only [Array.getElem_toList]
      simpa using this
    · have hll : (d'.toList.map (·.1)).length = l.length := by rw [List.length_map, Array.length_toList]; exact hd
      refine ⟨_, cap, by rw [hll], by rw [hll]; exact hnc, .inr ⟨g, 0, rfl, ?_, ?_⟩⟩
      · exact Nat.lt_of_lt_of_le hgl (below_sort w g 0 n d' os (B := 0) (Nat.zero_le _) (Nat.zero_le _)).size
      · intro i x hi j u hu
        rw [List.getElem?_map] at hi
        obtain ⟨y, hy, rfl⟩ := Option.map_eq_some_iff.1 hi
        obtain ⟨hil, rfl⟩ := List.getElem?_eq_some_iff.1 hy
        rw [Array.length_toList] at hil
        have hj : j < 65 := by have := (List.getElem?_eq_some_iff.1 hu).1; rw [nc_length (d'.toList[i]).2] at this; exact this
        have hc := (hH' (i * 65 + j) (by rw [Go.Sort.size_flatK]; have : (i + 1) * 65 ≤ d'.size * 65 := Nat.mul_le_mul_right 65 hil; omega)).1
        rw [Go.Sort.get_flatK _ _ _ _ (by have : (i + 1) * 65 ≤ d'.size * 65 := Nat.mul_le_mul_right 65 hil; omega), show (i * 65 + j) / 65 = i by omega, show (i * 65 + j) % 65 = j by omega] at hc
        rw [show 0 + i * 65 + j = 0 + (i * 65 + j) by omega, hc]
        rw [getElem!_pos d' i hil]
        have hm : j < (encN d'[i]).length := by rw [hlk]; exact hj
        rw [getElem!_pos (encN d'[i]) j hm]
        rw [Array.getElem_toList] at hu
        rw [show id (encN d'[i])[j] = (encN d'[i])[j] from rfl, ← List.getElem?_eq_getElem hm]
        exact hu
theorem leafNodes_any (ls : List Lf) (hk : ∀ x ∈ ls, x.Ok) (hlen : ls.length ≤ 2500000000000) (v : Value) (w : World) (hv : LS w v ls) (hT : Tb w) :
    Calls Tryd.prog 61 #[v] w fun e w' => ∃ v' er, e = .returned (.tuple #[v', .int .i64 er]) ∧ LNo ls v' er w' ∧ Below w.heap.size w w' := leafNodes_core sort_nodes ls hk hlen v w hv hT
end Go.Proofs.YtpojalbpekbfdaaDoor
/- Package grow: the order by Prefixes, and sorting by it. -/
namespace Go.Proofs.YtpojalbpekbfdaaDoor
open Go Go.RowKit
set_option linter.unusedSimpArgs false
set_option linter.unusedVariables false
set_option maxRecDepth 100000

/-- What sorting nodes gives. -/
def SortG : Prop := ∀ (B : Nat) (w : World) (v : Value) (l : List Nd), NO B w v l → l.length ≤ 3000000000000 →
  Calls Tryd.prog 44 #[v, .func (.func 45) #[] #[]] w fun e w' => e = .returned (.tuple #[]) ∧ ∃ s, s.Perm l ∧ s.Pairwise (fun a b => pf a.p 256 ≤ pf b.p 256) ∧ NS w' v s ∧ Below B w w'
set_option maxHeartbeats 2000000 in
theorem inOrd_lays (a b : Nd) (ha : a.Ok) (hb : b.Ok) (w : World) :
    Calls Tryd.prog 45 #[.agg (nc a).toArray, .agg (nc b).toArray] w fun e w' => e = .returned (.int .i64 (cmpI a.p b.p)) ∧ ∃ q os', w' = Go.Sort.grow (w.drewN q) os' := by
  have s1 := nc_size ha
  have s2 := nc_size hb
  obtain ⟨ra, rb, rs, rl⟩ := two_rows w (nc a) (nc b) 44 44
  obtain ⟨A, hA⟩ : ∃ A, (nc a).toArray = A := ⟨_, rfl⟩
  obtain ⟨B, hB⟩ : ∃ B, (nc b).toArray = B := ⟨_, rfl⟩
  rw [hA, hB] at ra rb rs rl
  rw [hA] at s1 ⊢
  rw [hB] at s2 ⊢
  have HA : Hid a.Ok := ha
  have HB : Hid b.Ok := hb
  obtain ⟨z, hz⟩ : ∃ z, cmpI a.p b.p = z := ⟨_, rfl⟩
  have HZ : Hid (cmpI a.p b.p = z) := hz
  rw [hz]
  clear ha hb hz
  go_enter Tryd.func45, Tryd.ntmps45
  go_wp2_with fail
  obtain ⟨U, hU⟩ : ∃ U, (w.alloc (.cells A 44)).alloc (.cells B 44) = U := ⟨_, rfl⟩
  have HU : Hid (∃ os, U = Go.Sort.grow w os) := ⟨_, by rw [← hU, Go.Sort.alloc_eq_grow, Go.Sort.alloc_eq_grow, Go.Sort.grow_grow]⟩
  rw [hU] at ra rb rs rl ⊢
  obtain ⟨D, hD⟩ : ∃ D, w.heap.size = D := ⟨_, rfl⟩
  rw [hD] at ra rb rs ⊢
  have hDX : Hid (D < U.heap.size) := by show D < _; omega
  have hDY : Hid (D + 1 < U.heap.size) := by show D + 1 < _; omega
  have RA : Hid (U.rangeAt D 1 (bv a.p)) := nc_p ra
  have RB : Hid (U.rangeAt (D + 1) 1 (bv b.p)) := nc_p rb
  have HCM : Hid (∀ n, Calls Tryd.prog 46 #[.slice (some ⟨D, 1, none⟩) 32 32, .slice (some ⟨D + 1, 1, none⟩) 32 32] (U.drewN n) fun e w' => e = .returned (.int .i64 z) ∧ w' = U.drewN n) := fun n => by
    have := compare_any a.p b.p _ _ (U.drewN n) (sl_drewN (sl_range HA.out.p RA.out hDX.out) n) (sl_drewN (sl_range HB.out.p RB.out hDY.out) n)
    rw [HZ.out] at this; exact this
  clear hU ra rb rs rl hD hA hB
  go_quiet ((go_at_call 46; exact Calls.quiet_of_same (HCM.out _)))
  go_wp2_with fail
  go_ret
  obtain ⟨os, rfl⟩ := HU.out
  exact ⟨rfl, nq, os, rfl⟩
set_option maxHeartbeats 2000000 in
theorem sort_nodesG : SortG := by
  intro B w v l h hlen
  obtain ⟨ho, hk, hB⟩ := h
  have ho' := ho
  obtain ⟨h1, ⟨rfl, h2⟩ | ⟨g, cap, cur, rfl, hBg, hg, hnc, -, hcs, -⟩⟩ := ho
  · have e : l = [] := List.length_eq_zero_iff.1 h2
    subst e
    refine (sort_none none 0 _ w).mono ?_
    rintro e w' ⟨rfl, rfl⟩
    exact ⟨rfl, [], List.Perm.refl _, List.Pairwise.nil, ⟨none, 0, rfl, Nat.le_refl _, .inl ⟨rfl, fun _ => rfl⟩⟩, Below.refl _ _⟩
  · have hgl : g < w.heap.size := (Array.getElem?_eq_some_iff.1 hg).1
    have hsz := arrN_size l hk
    have hlk : ∀ x : NdK, (encN x).length = 65 := fun x => nc_length x.2
    have hone : ∀ x : NdK, ∀ v ∈ encN x, v.oneCell' = true := fun x v hv => ncs_one [x.1] v (by have hv : v ∈ nc x.1 := hv; simpa [ncs] using hv)
    have hH : Go.Sort.HoldsK encN 65 w g 0 (arrN l hk) := by
      intro j hj
      rw [Go.Sort.size_flatK, hsz] at hj
      have hi : j / 65 < l.length := by omega
      refine ⟨?_, ?_⟩
      · rw [Go.Sort.get_flatK _ _ _ j (by rw [hsz]; exact hj)]
        have hm : j % 65 < (encN (arrN l hk)[j / 65]!).length := by rw [hlk]; omega
        have e := ncs_get hk (j / 65) (j % 65) l[j / 65] (List.getElem?_eq_getElem hi) (by omega)
        rw [show j / 65 * 65 + j % 65 = j by omega] at e
        have e2 : (nc l[j / 65])[j % 65]? = some (encN (arrN l hk)[j / 65]!)[j % 65]! := by
          rw [getElem!_pos (encN (arrN l hk)[j / 65]!) (j % 65) hm, ← List.getElem?_eq_getElem hm]
          unfold encN; rw [arrN_get l hk hi]
        have := ho'.cells (g := g) rfl j _ (by rw [e]; exact e2)
        rw [addr_add0] at this
        exact this
      · show w.frozen? _ = false
        unfold World.frozen?
        show (match w.heap[g]? with | some (.cells _ _ (lo, hi)) => _ | _ => _) = false
        rw [hg]
        simp
    have eg : ∀ args w, (callFunc 45 args).run Tryd.prog w = .ok (.enter 45 args) w := enters_of Tryd.func45 (by kernel_rfl) rfl
    have hcon := AnyQ.slices_SortFunc sortNd 65 (fun w => by first | exact Tryd.isAgg44 w | kernel_rfl) (fun w => by first | exact Tryd.sizeOf44 w | kernel_rfl) encN hlk hone cfN swoN 45 #[] g 0 cap (arrN l hk) w eg (fun _ _ _ _ x y => inOrd_lays x.1 y.1 x.2 y.2 _) hH hgl (by rw [hsz]; omega)
    rw [hsz] at hcon
    change Calls Tryd.prog 44 _ _ _ at hcon
    refine hcon.mono ?_
    rintro e w' ⟨rfl, d', n, os, hp, hs, rfl⟩
    obtain ⟨p1, p2, p3⟩ := hp
    have hd : d'.size = l.length := by rw [p1, hsz]
    have hperm : d'.toList.Perm (arrN l hk).toList := by
      rw [← hsz] at p3
      rw [Array.extract_size] at p3
      rw [show (arrN l hk).size = d'.size from p1.symm, Array.extract_size] at p3
      exact p3
    have hH' := holdsK_sortWorldK encN 65 w g 0 n (arrN l hk) d' os hgl hH p1
    refine ⟨rfl, d'.toList.map (·.1), ?_, ?_, ?_, below_sort w g 0 n d' os hB hBg⟩
    · have := hperm.map (·.1); rwa [arrN_list] at this
    · rw [List.pairwise_map, List.pairwise_iff_getElem]
      intro i j hi hj hij
      rw [Array.length_toList] at hi hj
      have := hs i j (Nat.zero_le _) hij (by omega)
      rw [lt_cfN] at this
      rw [getElem!_pos d' i hi, getElem!_pos d' j hj] at this
      simp only [Array.getElem_toList]
      simpa using this
    · have hll : (d'.toList.map (·.1)).length = l.length := by rw [List.length_map, Array.length_toList]; exact hd
      refine ⟨_, cap, by rw [hll], by rw [hll]; exact hnc, .inr ⟨g, 0, rfl, ?_, ?_⟩⟩
      · exact Nat.lt_of_lt_of_le hgl (below_sort w g 0 n d' os (B := 0) (Nat.zero_le _) (Nat.zero_le _)).size
      · intro i x hi j u hu
        rw [List.getElem?_map] at hi
        obtain ⟨y, hy, rfl⟩ := Option.map_eq_some_iff.1 hi
        obtain ⟨hil, rfl⟩ := List.getElem?_eq_some_iff.1 hy
        rw [Array.length_toList] at hil
        have hj : j < 65 := by have := (List.getElem?_eq_some_iff.1 hu).1; rw [nc_length (d'.toList[i]).2] at this; exact this
        have hc := (hH' (i * 65 + j) (by rw [Go.Sort.size_flatK]; have : (i + 1) * 65 ≤ d'.size * 65 := Nat.mul_le_mul_right 65 hil; omega)).1
        rw [Go.Sort.get_flatK _ _ _ _ (by have : (i + 1) * 65 ≤ d'.size * 65 := Nat.mul_le_mul_right 65 hil; omega), show (i * 65 + j) / 65 = i by omega, show (i * 65 + j) % 65 = j by omega] at hc
        rw [show 0 + i * 65 + j = 0 + (i * 65 + j) by omega, hc]
        rw [getElem!_pos d' i hil]
        have hm : j < (encN d'[i]).length := by rw [hlk]; exact hj
        rw [getElem!_pos (encN d'[i]) j hm]
        rw [Array.getElem_toList] at hu
        rw [show id (encN d'[i])[j] = (encN d'[i])[j] from rfl, ← List.getElem?_eq_getElem hm]
        exact hu
end Go.Proofs.YtpojalbpekbfdaaDoor
