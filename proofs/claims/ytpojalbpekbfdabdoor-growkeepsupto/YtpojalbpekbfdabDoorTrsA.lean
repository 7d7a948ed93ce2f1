/- Package tree: byPrefix, to the block; slices.SortFunc of nodes. -/
import Derived.Test.YtpojalbpekbfdabDoorTraA
import Derived.Shelf.SlSortCmp.WholeK
import Derived.Shelf.Lay
import Derived.Ground.SlsfProg
import Derived.Test.YtpojalbpekbfdabDoorTrmB
import Derived.Test.YtpojalbpekbfdabDoorTreZ
namespace Go.Proofs.YtpojalbpekbfdabDoor
open Go Go.RowKit Go.Shelf
set_option linter.unusedSimpArgs false
set_option linter.unusedVariables false
set_option maxRecDepth 100000

shelf_lay_g SlLaysF0.n6 Slsf 6 at Tryd 19 as sortNd

theorem sl_drewN {W : World} {v : Value} {x : List Int} (h : Sl W v x) (n : Nat) : Sl (W.drewN n) v x := h
set_option maxHeartbeats 2000000 in
theorem byPrefix_lays (a b : Nd) (ha : a.Ok) (hb : b.Ok) (w : World) :
    Calls Tryd.prog 39 #[.agg (nc a).toArray, .agg (nc b).toArray] w fun e w' => e = .returned (.int .i64 (cmpI a.p b.p)) ∧ ∃ q os', w' = Go.Sort.grow (w.drewN q) os' := by
  have s1 := nc_size ha
  have s2 := nc_size hb
  obtain ⟨ra, rb, rs, rl⟩ := two_rows w (nc a) (nc b) 33 33
  obtain ⟨A, hA⟩ : ∃ A, (nc a).toArray = A := ⟨_, rfl⟩
  obtain ⟨B, hB⟩ : ∃ B, (nc b).toArray = B := ⟨_, rfl⟩
  rw [hA, hB] at ra rb rs rl
  rw [hA] at s1 ⊢
  rw [hB] at s2 ⊢
  have HA : Hid a.Ok := ha
  have HB : Hid b.Ok := hb
  obtain ⟨z, hz⟩ : ∃ z, cmpI a.p b.p = z := ⟨_, rfl⟩
  have HZ : Hid (cmpI a.p b.p = z) := hz
  rw [hz]
  clear ha hb hz
  go_enter Tryd.func39, Tryd.ntmps39
  go_wp2_with fail
  obtain ⟨U, hU⟩ : ∃ U, (w.alloc (.cells A 33)).alloc (.cells B 33) = U := ⟨_, rfl⟩
  have HU : Hid (∃ os, U = Go.Sort.grow w os) := ⟨_, by rw [← hU, Go.Sort.alloc_eq_grow, Go.Sort.alloc_eq_grow, Go.Sort.grow_grow]⟩
  rw [hU] at ra rb rs rl ⊢
  obtain ⟨D, hD⟩ : ∃ D, w.heap.size = D := ⟨_, rfl⟩
  rw [hD] at ra rb rs ⊢
  have hDX : Hid (D < U.heap.size) := by show D < _; omega
  have hDY : Hid (D + 1 < U.heap.size) := by show D + 1 < _; omega
  have RA : Hid (U.rangeAt D 1 (bv a.p)) := nc_p ra
  have RB : Hid (U.rangeAt (D + 1) 1 (bv b.p)) := nc_p rb
  have HCM : Hid (∀ n, Calls Tryd.prog 21 #[.slice (some ⟨D, 1, none⟩) 32 32, .slice (some ⟨D + 1, 1, none⟩) 32 32] (U.drewN n) fun e w' => e = .returned (.int .i64 z) ∧ w' = U.drewN n) := fun n => by
    have := compare_any a.p b.p _ _ (U.drewN n) (sl_drewN (sl_range HA.out.p RA.out hDX.out) n) (sl_drewN (sl_range HB.out.p RB.out hDY.out) n)
    rw [HZ.out] at this; exact this
  clear hU ra rb rs rl hD hA hB
  go_quiet ((go_at_call 21; exact Calls.quiet_of_same (HCM.out _)))
  go_wp2_with fail
  go_ret
  obtain ⟨os, rfl⟩ := HU.out
  exact ⟨rfl, nq, os, rfl⟩
end Go.Proofs.YtpojalbpekbfdabDoor
/- Package tree: nodes sorted by slices.SortFunc. -/
namespace Go.Proofs.YtpojalbpekbfdabDoor
open Go Go.RowKit Go.Shelf
set_option linter.unusedSimpArgs false
set_option linter.unusedVariables false
set_option maxRecDepth 100000

/-- A node whose rows are 32 bytes each. -/
abbrev NdK := {x : Nd // x.Ok}
instance : Inhabited NdK := ⟨⟨ndz, ndz_ok⟩⟩
def encN (x : NdK) : List Value := nc x.1
def cfN (x y : NdK) : Int := cmpI x.1.p y.1.p
theorem lt_cfN (x y : NdK) : ltOf cfN x y = decide (pf x.1.p 256 < pf y.1.p 256) := by
  unfold ltOf cfN
  exact decide_eq_decide.2 (cmp_swo x.2.p y.2.p)
theorem swoN : Go.Sort.SWO (ltOf cfN) where
  irrefl x := by rw [lt_cfN]; simp
  trans x y z h1 h2 := by rw [lt_cfN] at *; simp at *; omega
  ntrans x y z h1 h2 := by rw [lt_cfN] at *; simp at *; omega
/-- Nodes as an array. -/
def arrN (l : List Nd) (hk : ∀ x ∈ l, x.Ok) : Array NdK := (l.attachWith _ hk).toArray
theorem arrN_size (l : List Nd) (hk : ∀ x ∈ l, x.Ok) : (arrN l hk).size = l.length := by simp [arrN]
theorem arrN_get (l : List Nd) (hk : ∀ x ∈ l, x.Ok) {i : Nat} (hi : i < l.length) : ((arrN l hk)[i]!).1 = l[i] := by
  rw [getElem!_pos _ i (by rw [arrN_size]; exact hi)]
  simp [arrN]
theorem arrN_list (l : List Nd) (hk : ∀ x ∈ l, x.Ok) : (arrN l hk).toList.map (·.1) = l := by
  simp [arrN, List.attachWith_map_val]
theorem below_sort (w : World) (g off n : Nat) (d : Array NdK) (os : Array Obj) {B : Nat} (hB : B ≤ w.heap.size) (hg : B ≤ g) : Below B w (sortWorldK encN 65 w g off n d os) := by
  refine ⟨rfl, rfl, rfl, ?_, fun k hk => ?_⟩
  · show w.heap.size ≤ (_ ++ os).size
    rw [Array.size_append]
    have : (Go.Sort.putRowK encN 65 (Go.Sort.ahead w n) g off d).heap.size = w.heap.size := Go.Sort.size_putRow _ _ _ _ _
    omega
  · show (_ ++ os)[k]? = _
    have hs : (Go.Sort.putRowK encN 65 (Go.Sort.ahead w n) g off d).heap.size = w.heap.size := Go.Sort.size_putRow _ _ _ _ _
    rw [Array.getElem?_append_left (by omega)]
    show (w.heap.modify g _)[k]? = _
    rw [Array.getElem?_modify, if_neg (by omega)]
set_option maxHeartbeats 2000000 in
theorem sort_nodes : SortC := by
  intro B w v l h hlen
  obtain ⟨ho, hk, hB⟩ := h
  have ho' := ho
  obtain ⟨h1, ⟨rfl, h2⟩ | ⟨g, cap, cur, rfl, hBg, hg, hnc, -, hcs, -⟩⟩ := ho
  · have e : l = [] := List.length_eq_zero_iff.1 h2
    subst e
    refine (sort_none none 0 _ w).mono ?_
    rintro e w' ⟨rfl, rfl⟩
    exact ⟨rfl, [], List.Perm.refl _, List.Pairwise.nil, ⟨none, 0, rfl, Nat.le_refl _, .inl ⟨rfl, fun _ => rfl⟩⟩, Below.refl _ _⟩
  · have hgl : g < w.heap.size := (Array.getElem?_eq_some_iff.1 hg).1
    have hsz := arrN_size l hk
    have hlk : ∀ x : NdK, (encN x).length = 65 := fun x => nc_length x.2
    have hone : ∀ x : NdK, ∀ v ∈ encN x, v.oneCell' = true := fun x v hv => ncs_one [x.1] v (by have hv : v ∈ nc x.1 := hv; simpa [ncs] using hv)
    have hH : Go.Sort.HoldsK encN 65 w g 0 (arrN l hk) := by
      intro j hj
      rw [Go.Sort.size_flatK, hsz] at hj
      have hi : j / 65 < l.length := by omega
      refine ⟨?_, ?_⟩
      · rw [Go.Sort.get_flatK _ _ _ j (by rw [hsz]; exact hj)]
        have hm : j % 65 < (encN (arrN l hk)[j / 65]!).length := by rw [hlk]; omega
        have e := ncs_get hk (j / 65) (j % 65) l[j / 65] (List.getElem?_eq_getElem hi) (by omega)
        rw [show j / 65 * 65 + j % 65 = j by omega] at e
        have e2 : (nc l[j / 65])[j % 65]? = some (encN (arrN l hk)[j / 65]!)[j % 65]! := by
          rw [getElem!_pos (encN (arrN l hk)[j / 65]!) (j % 65) hm, ← List.getElem?_eq_getElem hm]
          unfold encN; rw [arrN_get l hk hi]
        have := ho'.cells (g := g) rfl j _ (by rw [e]; exact e2)
        rw [addr_add0] at this
        exact this
      · show w.frozen? _ = false
        unfold World.frozen?
        show (match w.heap[g]? with | some (.cells _ _ (lo, hi)) => _ | _ => _) = false
        rw [hg]
        simp
    have eg : ∀ args w, (callFunc 39 args).run Tryd.prog w = .ok (.enter 39 args) w := enters_of Tryd.func39 (by kernel_rfl) rfl
    have hcon := AnyQ.slices_SortFunc sortNd 65 (fun w => by first | exact Tryd.isAgg33 w | kernel_rfl) (fun w => by first | exact Tryd.sizeOf33 w | kernel_rfl) encN hlk hone cfN swoN 39 #[] g 0 cap (arrN l hk) w eg (fun _ _ _ _ x y => byPrefix_lays x.1 y.1 x.2 y.2 _) hH hgl (by rw [hsz]; omega)
    rw [hsz] at hcon
    change Calls Tryd.prog 19 _ _ _ at hcon
    refine hcon.mono ?_
    rintro e w' ⟨rfl, d', n, os, hp, hs, rfl⟩
    obtain ⟨p1, p2, p3⟩ := hp
    have hd : d'.size = l.length := by rw [p1, hsz]
    have hperm : d'.toList.Perm (arrN l hk).toList := by
      rw [← hsz] at p3
      rw [Array.extract_size] at p3
      rw [show (arrN l hk).size = d'.size from p1.symm, Array.extract_size] at p3
      exact p3
    have hH' := holdsK_sortWorldK encN 65 w g 0 n (arrN l hk) d' os hgl hH p1
    refine ⟨rfl, d'.toList.map (·.1), ?_, ?_, ?_, below_sort w g 0 n d' os hB hBg⟩
    · have := hperm.map (·.1); rwa [arrN_list] at this
    · rw [List.pairwise_map, List.pairwise_iff_getElem]
      intro i j hi hj hij
      rw [Array.length_toList] at hi hj
      have := hs i j (Nat.zero_le _) hij (by omega)
      rw [lt_cfN] at this
      rw [getElem!_pos d' i hi, getElem!_pos d' j hj] at this
      simp only [Array.getElem_toList]
      simpa using this
    · have hll : (d'.toList.map (·.1)).length = l.length := by rw [List.length_map, Array.length_toList]; exact hd
      refine ⟨_, cap, by rw [hll], by rw [hll]; exact hnc, .inr ⟨g, 0, rfl, ?_, ?_⟩⟩
      · exact Nat.lt_of_lt_of_le hgl (below_sort w g 0 n d' os (B := 0) (Nat.zero_le _) (Nat.zero_le _)).size
      · intro i x hi j u hu
        rw [List.getElem?_map] at hi
        obtain ⟨y, hy, rfl⟩ := Option.map_eq_some_iff.1 hi
        obtain ⟨hil, rfl⟩ := List.getElem?_eq_some_iff.1 hy
        rw [Array.length_toList] at hil
        have hj : j < 65 := by have := (List.getElem?_eq_some_iff.1 hu).1; rw [nc_length (d'.toList[i]).2] at this; exact this
        have hc := (hH' (i * 65 + j) (by rw [Go.Sort.size_flatK]; have : (i + 1) * 65 ≤ d'.size * 65 := Nat.mul_le_mul_right 65 hil; omega)).1
        rw [Go.Sort.get_flatK _ _ _ _ (by have : (i + 1) * 65 ≤ d'.size * 65 := Nat.mul_le_mul_right 65 hil; omega), show (i * 65 + j) / 65 = i by omega, show (i * 65 + j) % 65 = j by omega] at hc
        rw [show 0 + i * 65 + j = 0 + (i * 65 + j) by omega, hc]
        rw [getElem!_pos d' i hil]
        have hm : j < (encN d'[i]).length := by rw [hlk]; exact hj
        rw [getElem!_pos (encN d'[i]) j hm]
        rw [Array.getElem_toList] at hu
        rw [show id (encN d'[i])[j] = (encN d'[i])[j] from rfl, ← List.getElem?_eq_getElem hm]
        exact hu
end Go.Proofs.YtpojalbpekbfdabDoor
/- Package grow: the order by Prefixes, and sorting by it. -/
namespace Go.Proofs.YtpojalbpekbfdabDoor
open Go Go.RowKit
set_option linter.unusedSimpArgs false
set_option linter.unusedVariables false
set_option maxRecDepth 100000

/-- What sorting nodes gives. -/
def SortG : Prop := ∀ (B : Nat) (w : World) (v : Value) (l : List Nd), NO B w v l → l.length ≤ 3000000000000 →
  Calls Tryd.prog 19 #[v, .func (.func 20) #[] #[]] w fun e w' => e = .returned (.tuple #[]) ∧ ∃ s, s.Perm l ∧ s.Pairwise (fun a b => pf a.p 256 ≤ pf b.p 256) ∧ NS w' v s ∧ Below B w w'
set_option maxHeartbeats 2000000 in
theorem inOrd_lays (a b : Nd) (ha : a.Ok) (hb : b.Ok) (w : World) :
    Calls Tryd.prog 20 #[.agg (nc a).toArray, .agg (nc b).toArray] w fun e w' => e = .returned (.int .i64 (cmpI a.p b.p)) ∧ ∃ q os', w' = Go.Sort.grow (w.drewN q) os' := by
  have s1 := nc_size ha
  have s2 := nc_size hb
  obtain ⟨ra, rb, rs, rl⟩ := two_rows w (nc a) (nc b) 33 33
  obtain ⟨A, hA⟩ : ∃ A, (nc a).toArray = A := ⟨_, rfl⟩
  obtain ⟨B, hB⟩ : ∃ B, (nc b).toArray = B := ⟨_, rfl⟩
  rw [hA, hB] at ra rb rs rl
  rw [hA] at s1 ⊢
  rw [hB] at s2 ⊢
  have HA : Hid a.Ok := ha
  have HB : Hid b.Ok := hb
  obtain ⟨z, hz⟩ : ∃ z, cmpI a.p b.p = z := ⟨_, rfl⟩
  have HZ : Hid (cmpI a.p b.p = z) := hz
  rw [hz]
  clear ha hb hz
  go_enter Tryd.func20, Tryd.ntmps20
  go_wp2_with fail
  obtain ⟨U, hU⟩ : ∃ U, (w.alloc (.cells A 33)).alloc (.cells B 33) = U := ⟨_, rfl⟩
  have HU : Hid (∃ os, U = Go.Sort.grow w os) := ⟨_, by rw [← hU, Go.Sort.alloc_eq_grow, Go.Sort.alloc_eq_grow, Go.Sort.grow_grow]⟩
  rw [hU] at ra rb rs rl ⊢
  obtain ⟨D, hD⟩ : ∃ D, w.heap.size = D := ⟨_, rfl⟩
  rw [hD] at ra rb rs ⊢
  have hDX : Hid (D < U.heap.size) := by show D < _; omega
  have hDY : Hid (D + 1 < U.heap.size) := by show D + 1 < _; omega
  have RA : Hid (U.rangeAt D 1 (bv a.p)) := nc_p ra
  have RB : Hid (U.rangeAt (D + 1) 1 (bv b.p)) := nc_p rb
  have HCM : Hid (∀ n, Calls Tryd.prog 21 #[.slice (some ⟨D, 1, none⟩) 32 32, .slice (some ⟨D + 1, 1, none⟩) 32 32] (U.drewN n) fun e w' => e = .returned (.int .i64 z) ∧ w' = U.drewN n) := fun n => by
    have := compare_any a.p b.p _ _ (U.drewN n) (sl_drewN (sl_range HA.out.p RA.out hDX.out) n) (sl_drewN (sl_range HB.out.p RB.out hDY.out) n)
    rw [HZ.out] at this; exact this
  clear hU ra rb rs rl hD hA hB
  go_quiet ((go_at_call 21; exact Calls.quiet_of_same (HCM.out _)))
  go_wp2_with fail
  go_ret
  obtain ⟨os, rfl⟩ := HU.out
  exact ⟨rfl, nq, os, rfl⟩
set_option maxHeartbeats 2000000 in
theorem sort_nodesG : SortG := by
  intro B w v l h hlen
  obtain ⟨ho, hk, hB⟩ := h
  have ho' := ho
  obtain ⟨h1, ⟨rfl, h2⟩ | ⟨g, cap, cur, rfl, hBg, hg, hnc, -, hcs, -⟩⟩ := ho
  · have e : l = [] := List.length_eq_zero_iff.1 h2
    subst e
    refine (sort_none none 0 _ w).mono ?_
    rintro e w' ⟨rfl, rfl⟩
    exact ⟨rfl, [], List.Perm.refl _, List.Pairwise.nil, ⟨none, 0, rfl, Nat.le_refl _, .inl ⟨rfl, fun _ => rfl⟩⟩, Below.refl _ _⟩
  · have hgl : g < w.heap.size := (Array.getElem?_eq_some_iff.1 hg).1
    have hsz := arrN_size l hk
    have hlk : ∀ x : NdK, (encN x).length = 65 := fun x => nc_length x.2
    have hone : ∀ x : NdK, ∀ v ∈ encN x, v.oneCell' = true := fun x v hv => ncs_one [x.1] v (by have hv : v ∈ nc x.1 := hv; simpa [ncs] using hv)
    have hH : Go.Sort.HoldsK encN 65 w g 0 (arrN l hk) := by
      intro j hj
      rw [Go.Sort.size_flatK, hsz] at hj
      have hi : j / 65 < l.length := by omega
      refine ⟨?_, ?_⟩
      · rw [Go.Sort.get_flatK _ _ _ j (by rw [hsz]; exact hj)]
        have hm : j % 65 < (encN (arrN l hk)[j / 65]!).length := by rw [hlk]; omega
        have e := ncs_get hk (j / 65) (j % 65) l[j / 65] (List.getElem?_eq_getElem hi) (by omega)
        rw [show j / 65 * 65 + j % 65 = j by omega] at e
        have e2 : (nc l[j / 65])[j % 65]? = some (encN (arrN l hk)[j / 65]!)[j % 65]! := by
          rw [getElem!_pos (encN (arrN l hk)[j / 65]!) (j % 65) hm, ← List.getElem?_eq_getElem hm]
          unfold encN; rw [arrN_get l hk hi]
        have := ho'.cells (g := g) rfl j _ (by rw [e]; exact e2)
        rw [addr_add0] at this
        exact this
      · show w.frozen? _ = false
        unfold World.frozen?
        show (match w.heap[g]? with | some (.cells _ _ (lo, hi)) => _ | _ => _) = false
        rw [hg]
        simp
    have eg : ∀ args w, (callFunc 20 args).run Tryd.prog w = .ok (.enter 20 args) w := enters_of Tryd.func20 (by kernel_rfl) rfl
    have hcon := AnyQ.slices_SortFunc sortNd 65 (fun w => by first | exact Tryd.isAgg33 w | kernel_rfl) (fun w => by first | exact Tryd.sizeOf33 w | kernel_rfl) encN hlk hone cfN swoN 20 #[] g 0 cap (arrN l hk) w eg (fun _ _ _ _ x y => inOrd_lays x.1 y.1 x.2 y.2 _) hH hgl (by rw [hsz]; omega)
    rw [hsz] at hcon
    change Calls Tryd.prog 19 _ _ _ at hcon
    refine hcon.mono ?_
    rintro e w' ⟨rfl, d', n, os, hp, hs, rfl⟩
    obtain ⟨p1, p2, p3⟩ := hp
    have hd : d'.size = l.length := by rw [p1, hsz]
    have hperm : d'.toList.Perm (arrN l hk).toList := by
      rw [← hsz] at p3
      rw [Array.extract_size] at p3
      rw [show (arrN l hk).size = d'.size from p1.symm, Array.extract_size] at p3
      exact p3
    have hH' := holdsK_sortWorldK encN 65 w g 0 n (arrN l hk) d' os hgl hH p1
    refine ⟨rfl, d'.toList.map (·.1), ?_, ?_, ?_, below_sort w g 0 n d' os hB hBg⟩
    · have := hperm.map (·.1); rwa [arrN_list] at this
    · rw [List.pairwise_map, List.pairwise_iff_getElem]
      intro i j hi hj hij
      rw [Array.length_toList] at hi hj
      have := hs i j (Nat.zero_le _) hij (by omega)
      rw [lt_cfN] at this
      rw [getElem!_pos d' i hi, getElem!_pos d' j hj] at this
      simp only [Array.getElem_toList]
      simpa using this
    · have hll : (d'.toList.map (·.1)).length = l.length := by rw [List.length_map, Array.length_toList]; exact hd
      refine ⟨_, cap, by rw [hll], by rw [hll]; exact hnc, .inr ⟨g, 0, rfl, ?_, ?_⟩⟩
      · exact Nat.lt_of_lt_of_le hgl (below_sort w g 0 n d' os (B := 0) (Nat.zero_le _) (Nat.zero_le _)).size
      · intro i x hi j u hu
        rw [List.getElem?_map] at hi
        obtain ⟨y, hy, rfl⟩ := Option.map_eq_some_iff.1 hi
        obtain ⟨hil, rfl⟩ := List.getElem?_eq_some_iff.1 hy
        rw [Array.length_toList] at hil
        have hj : j < 65 := by have := (List.getElem?_eq_some_iff.1 hu).1; rw [nc_length (d'.toList[i]).2] at this; exact this
        have hc := (hH' (i * 65 + j) (by rw [Go.Sort.size_flatK]; have : (i + 1) * 65 ≤ d'.size * 65 := Nat.mul_le_mul_right 65 hil; omega)).1
        rw [Go.Sort.get_flatK _ _ _ _ (by have : (i + 1) * 65 ≤ d'.size * 65 := Nat.mul_le_mul_right 65 hil; omega), show (i * 65 + j) / 65 = i by omega, show (i * 65 + j) % 65 = j by omega] at hc
        rw [show 0 + i * 65 + j = 0 + (i * 65 + j) by omega, hc]
        rw [getElem!_pos d' i hil]
        have hm : j < (encN d'[i]).length := by rw [hlk]; exact hj
        rw [getElem!_pos (encN d'[i]) j hm]
        rw [Array.getElem_toList] at hu
        rw [show id (encN d'[i])[j] = (encN d'[i])[j] from rfl, ← List.getElem?_eq_getElem hm]
        exact hu
end Go.Proofs.YtpojalbpekbfdabDoor
/- Plain mathematics: openings of a tree at a label. -/
namespace Go.Proofs.YtpojalbpekbfdabDoor
open Go Go.RowKit
set_option linter.unusedSimpArgs false
set_option linter.unusedVariables false
set_option maxRecDepth 100000

/-- How many first bits a node's Prefix has in common with a label. -/
def cmy (y : List Int) (x : Nd) : Nat := cm x.p y 256
/-- How many of the first leave the way at one bit. -/
def lvg (y : List Int) (l : List Nd) : Nat := (l.takeWhile (fun x => decide (cmy y x = cm (hp l) y 256))).length
def opn (y : List Int) : Nat → List Nd → List Nd
  | 0, _ => []
  | _ + 1, [] => []
  | f + 1, x :: r => ovl ((x :: r).take (lvg y (x :: r))) :: opn y f ((x :: r).drop (lvg y (x :: r)))
/-- The opening of nodes that rise at a label. -/
def opl (y : List Int) (l : List Nd) : List Nd := opn y l.length l
theorem lvg_pos (y : List Int) (x : Nd) (r : List Nd) : 1 ≤ lvg y (x :: r) := by
  unfold lvg
  rw [List.takeWhile_cons, if_pos (by simp [hp, cmy]), List.length_cons]
  omega
theorem lvg_le (y : List Int) (l : List Nd) : lvg y l ≤ l.length := (List.takeWhile_sublist _).length_le
theorem opn_nil (y : List Int) : ∀ f, opn y f [] = []
  | 0 => rfl
  | _ + 1 => rfl
theorem opn_fuel (y : List Int) : ∀ (f g : Nat) (l : List Nd), l.length ≤ f → l.length ≤ g → opn y f l = opn y g l
  | 0, g, l, hf, _ => by rw [List.length_eq_zero_iff.1 (Nat.le_zero.1 hf), opn_nil, opn_nil]
  | f + 1, 0, l, _, hg => by rw [List.length_eq_zero_iff.1 (Nat.le_zero.1 hg), opn_nil, opn_nil]
  | f + 1, g + 1, [], _, _ => rfl
  | f + 1, g + 1, x :: r, hf, hg => by
    have h1 := lvg_pos y x r
    have h2 : ((x :: r).drop (lvg y (x :: r))).length = r.length + 1 - lvg y (x :: r) := by rw [List.length_drop]; rfl
    simp only [List.length_cons] at hf hg
    simp only [opn]
    rw [opn_fuel y f g _ (by omega) (by omega)]
theorem opl_nil (y : List Int) : opl y [] = [] := rfl
theorem opl_cons (y : List Int) {l : List Nd} (h : l ≠ []) : opl y l = ovl (l.take (lvg y l)) :: opl y (l.drop (lvg y l)) := by
  cases l with
  | nil => exact absurd rfl h
  | cons x r =>
    have h1 := lvg_pos y x r
    have h2 : ((x :: r).drop (lvg y (x :: r))).length = r.length + 1 - lvg y (x :: r) := by rw [List.length_drop]; rfl
    show opn y (r.length + 1) (x :: r) = _
    simp only [opn, opl]
    rw [opn_fuel y r.length _ _ (by omega) (Nat.le_refl _)]
theorem tw_app {p : Nd → Bool} {b : List Nd} (hb : ∀ z ∈ b, p z = false) : ∀ a : List Nd, ((a ++ b).takeWhile p).length = (a.takeWhile p).length
  | [] => by
    cases b with
    | nil => rfl
    | cons z s => rw [List.nil_append, List.takeWhile_cons, if_neg (by rw [hb z List.mem_cons_self]; decide)]; rfl
  | x :: r => by
    rw [List.cons_append, List.takeWhile_cons, List.takeWhile_cons]
    cases p x with
    | false => rfl
    | true => simp only [if_true, List.length_cons]; rw [tw_app hb r]
theorem tw_all {p : Nd → Bool} : ∀ {a : List Nd}, (∀ z ∈ a, p z = true) → (a.takeWhile p).length = a.length
  | [], _ => rfl
  | x :: r, h => by
    rw [List.takeWhile_cons, if_pos (h x List.mem_cons_self), List.length_cons, tw_all (fun z hz => h z (List.mem_cons_of_mem _ hz)), List.length_cons]
theorem opl_app (y : List Int) : ∀ (n : Nat) (a b : List Nd), a.length ≤ n → (∀ x ∈ a, ∀ z ∈ b, cmy y x ≠ cmy y z) → opl y (a ++ b) = opl y a ++ opl y b
  | _, [], b, _, _ => by rw [List.nil_append, opl_nil, List.nil_append]
  | 0, x :: r, b, h, _ => absurd h (by simp)
  | n + 1, x :: r, b, hn, h => by
    have e : lvg y ((x :: r) ++ b) = lvg y (x :: r) := by
      unfold lvg
      rw [show hp ((x :: r) ++ b) = hp (x :: r) from rfl]
      exact tw_app (fun z hz => by rw [decide_eq_false_iff_not]; intro g; exact h x List.mem_cons_self z hz g.symm) _
    have k1 := lvg_pos y x r
    have k2 := lvg_le y (x :: r)
    rw [opl_cons y (l := (x :: r) ++ b) (by simp), opl_cons y (l := x :: r) (by simp), e, List.take_append_of_le_length k2, List.drop_append_of_le_length k2, List.cons_append,
      opl_app y n _ b (by rw [List.length_drop]; simp only [List.length_cons] at hn k2 ⊢; omega) (fun q hq z hz => h q (List.mem_of_mem_drop hq) z hz)]
theorem opl_same (y : List Int) {l : List Nd} {c : Nat} (hne : l ≠ []) (h : ∀ x ∈ l, cmy y x = c) : opl y l = [ovl l] := by
  have e : lvg y l = l.length := by
    unfold lvg
    refine tw_all (fun z hz => ?_)
    rw [decide_eq_true_iff, h z hz]
    cases l with
    | nil => exact absurd rfl hne
    | cons x r => exact (h x List.mem_cons_self).symm
  rw [opl_cons y hne, e, List.take_length, List.drop_length, opl_nil]
/-- What a reading from above leaves: all that no wanted node holds. -/
def wo (hd : Nd → Bool) (own : Bool) : Nat → List Nd → List Nd
  | 0, _ => []
  | _ + 1, [] => []
  | f + 1, x :: r => if hd (ovl (x :: r)) = false ∨ (r = [] ∧ own = true) then [ovl (x :: r)] else if r = [] then [] else wo hd own f ((x :: r).take (cut (cl (x :: r)) (x :: r))) ++ wo hd own f ((x :: r).drop (cut (cl (x :: r)) (x :: r)))
theorem wo_nil (hd : Nd → Bool) (own : Bool) : ∀ f, wo hd own f [] = []
  | 0 => rfl
  | _ + 1 => rfl
theorem fb_fb {x : List Int} (h : L32 x) (n : Nat) : fb (fb x n) n = fb x n :=
  l32_of_bits (fb_l32 (fb_l32 h n) n) (fb_l32 h n) (fun i hi => by rw [bt_fb (fb_l32 h n) n i hi, bt_fb h n i hi]; split <;> rfl)
theorem ovl_two {l : List Nd} (h : Ris l) (h2 : 2 ≤ l.length) : (ovl l).n = (cl l : Nat) ∧ (ovl l).p = fb (hp l) (cl l) := by
  obtain ⟨f, hf⟩ : ∃ f, l.length = f + 1 := ⟨l.length - 1, by omega⟩
  unfold ovl
  rw [hf]
  simp only [ov]
  rw [if_neg (by omega)]
  exact ⟨rfl, rfl⟩
theorem hp_l32 {l : List Nd} (h : Ris l) (hne : l ≠ []) : L32 (hp l) := by
  cases l with
  | nil => exact absurd rfl hne
  | cons x r => exact (h.ok x List.mem_cons_self).p
/-- The node over two or more holds a label that begins as they all do. -/
theorem hl_ovl {l : List Nd} (h : Ris l) (h2 : 2 ≤ l.length) (y : List Int) : hl (ovl l) y = true ↔ Shr (hp l) y (cl l) := by
  obtain ⟨e1, e2⟩ := ovl_two h h2
  have hc := h.cl_lt h2
  have hp32 := hp_l32 h (fun e => by rw [e] at h2; simp at h2)
  have g : gd (ovl l) = true := gd_iff.2 ⟨by rw [e1]; omega, by rw [e1]; omega, by rw [e1, e2, Int.toNat_natCast]; exact fb_fb hp32 _⟩
  unfold hl
  rw [g, Bool.true_and, decide_eq_true_iff, e1, e2, Int.toNat_natCast, cm_ge (by omega)]
  constructor
  · intro q i hi; have := q i hi; rwa [bt_fb hp32 _ i (by omega), if_pos hi] at this
  · intro q i hi; rw [bt_fb hp32 _ i (by omega), if_pos hi]; exact q i hi
theorem Ris.shr {l : List Nd} (h : Ris l) (h2 : 2 ≤ l.length) {x : Nd} (hx : x ∈ l) : Shr x.p (hp l) (cl l) := by
  obtain ⟨i, hi, rfl⟩ := List.getElem_of_mem hx
  exact sh_of_pf (h.share h2 (List.getElem?_eq_getElem hi))
theorem mem_lo {l : List Nd} {c : Nat} {x : Nd} (hx : x ∈ l.take (cut c l)) : bt x.p c = 0 := by
  obtain ⟨i, hi, rfl⟩ := List.getElem_of_mem hx
  have hi' := hi
  rw [List.length_take] at hi'
  refine cut_lo c l i _ ?_ (by omega)
  rw [← List.getElem?_eq_getElem hi, List.getElem?_eq_getElem hi, ← List.getElem?_eq_getElem hi, List.getElem?_take, if_pos (by omega), List.getElem?_eq_getElem (by omega)]
theorem mem_hi {l : List Nd} (h : Ris l) (h2 : 2 ≤ l.length) {x : Nd} (hx : x ∈ l.drop (cut (cl l) l)) : bt x.p (cl l) = 1 := by
  obtain ⟨i, hi, rfl⟩ := List.getElem_of_mem hx
  have hi' := hi
  rw [List.length_drop] at hi'
  exact h.cut_hi h2 (i := cut (cl l) l + i) (by rw [List.getElem?_eq_getElem (by omega), List.getElem_drop]) (by omega)
/-- Both readings of an opening are one. -/
theorem wo_opl (y : List Int) : ∀ (f : Nat) (l : List Nd), Ris l → l.length ≤ f → wo (fun n => hl n y) true f l = opl y l
  | 0, l, _, hf => by rw [List.length_eq_zero_iff.1 (Nat.le_zero.1 hf)]; rfl
  | f + 1, [], _, _ => rfl
  | f + 1, x :: r, h, hf => by
    simp only [wo]
    by_cases hr : r = []
    · subst hr
      rw [if_pos (.inr ⟨rfl, by trivial⟩)]
      exact (opl_same y (c := cmy y x) (by simp) (fun z hz => by simp at hz; rw [hz])).symm
    · have h2 : 2 ≤ (x :: r).length := by have := List.length_pos_iff.2 hr; simp only [List.length_cons]; omega
      obtain ⟨l, hl'⟩ : ∃ l, x :: r = l := ⟨_, rfl⟩
      have hne : l ≠ [] := by rw [← hl']; simp
      rw [hl'] at h h2 hf ⊢
      have hc := h.cl_lt h2
      by_cases hh : hl (ovl l) y = true
      · rw [if_neg (by rw [hh]; rintro (q | q); · cases q
                       · exact hr q.1), if_neg hr]
        obtain ⟨k1, k2⟩ := h.cut_in h2
        have hsh := (hl_ovl h h2 y).1 hh
        rw [wo_opl y f _ (h.sub (List.take_sublist _ _)) (by rw [List.length_take]; omega), wo_opl y f _ (h.sub (List.drop_sublist _ _)) (by rw [List.length_drop]; omega),
          ← opl_app y _ _ _ (Nat.le_refl _) ?_, List.take_append_drop]
        intro a ha b hb
        have a0 := mem_lo ha
        have b0 := mem_hi h h2 hb
        have sa : Shr a.p y (cl l) := fun i hi => (h.shr h2 (List.mem_of_mem_take ha) i hi).trans (hsh i hi)
        have sb : Shr b.p y (cl l) := fun i hi => (h.shr h2 (List.mem_of_mem_drop hb) i hi).trans (hsh i hi)
        have la : cl l ≤ cmy y a := (cm_ge (by omega)).2 sa
        have lb : cl l ≤ cmy y b := (cm_ge (by omega)).2 sb
        intro e
        rcases Nat.lt_or_eq_of_le la with q | q
        · have e1 := cm_sh a.p y 256 (cl l) q
          have e2 := cm_sh b.p y 256 (cl l) (by unfold cmy at e q; omega)
          omega
        · have e1 : bt a.p (cl l) ≠ bt y (cl l) := by have := cm_ne (a := a.p) (b := y) (m := 256) (by unfold cmy at q; omega); rwa [show cm a.p y 256 = cl l from q.symm] at this
          have e2 : bt b.p (cl l) ≠ bt y (cl l) := by have := cm_ne (a := b.p) (b := y) (m := 256) (by unfold cmy at e q; omega); rwa [show cm b.p y 256 = cl l by unfold cmy at e q; omega] at this
          have := bt_le y (cl l)
          omega
      · rw [if_pos (.inl (by simpa using hh))]
        have hn : ¬ Shr (hp l) y (cl l) := fun q => hh ((hl_ovl h h2 y).2 q)
        have hlt : cm (hp l) y 256 < cl l := by
          rcases Nat.lt_or_ge (cm (hp l) y 256) (cl l) with q | q
          · exact q
          · exact absurd ((cm_ge (by omega)).1 q) hn
        refine (opl_same y (c := cm (hp l) y 256) hne (fun z hz => ?_)).symm
        have hz := h.shr h2 hz
        refine cm_uniq (by omega) (fun i hi => (hz i (by omega)).trans (cm_sh (hp l) y 256 i hi)) (fun _ => ?_)
        rw [hz _ hlt]
        exact cm_ne (by omega)
end Go.Proofs.YtpojalbpekbfdabDoor
