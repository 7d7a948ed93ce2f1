/- Package tree: nodes sorted by slices.SortFunc. -/
import Derived.Test.YtkeobajlikhghabDoorTroB
import Derived.Test.YtkeobajlikhghabDoorTrmB
import Derived.Test.YtkeobajlikhghabDoorTrrH
namespace Go.Proofs.YtkeobajlikhghabDoor
open Go Go.RowKit Go.Shelf
set_option linter.unusedSimpArgs false
set_option linter.unusedVariables false
set_option maxRecDepth 100000

/-- A node whose rows are 32 bytes each. -/
abbrev NdK := {x : Nd // x.Ok}
instance : Inhabited NdK := ⟨⟨ndz, ndz_ok⟩⟩
def encN (x : NdK) : List Value := nc x.1
def cfN (x y : NdK) : Int := cmpI x.1.p y.1.p
theorem lt_cfN (x y : NdK) : ltOf cfN x y = decide (pf x.1.p 256 < pf y.1.p 256) := by
  unfold ltOf cfN
  exact decide_eq_decide.2 (cmp_swo x.2.p y.2.p)
theorem swoN : Go.Sort.SWO (ltOf cfN) where
  irrefl x := by rw [lt_cfN]; simp
  trans x y z h1 h2 := by rw [lt_cfN] at *; simp at *; omega
  ntrans x y z h1 h2 := by rw [lt_cfN] at *; simp at *; omega
/-- Nodes as an array. -/
def arrN (l : List Nd) (hk : ∀ x ∈ l, x.Ok) : Array NdK := (l.attachWith _ hk).toArray
theorem arrN_size (l : List Nd) (hk : ∀ x ∈ l, x.Ok) : (arrN l hk).size = l.length := by simp [arrN]
theorem arrN_get (l : List Nd) (hk : ∀ x ∈ l, x.Ok) {i : Nat} (hi : i < l.length) : ((arrN l hk)[i]!).1 = l[i] := by
  rw [getElem!_pos _ i (by rw [arrN_size]; exact hi)]
  simp [arrN]
theorem arrN_list (l : List Nd) (hk : ∀ x ∈ l, x.Ok) : (arrN l hk).toList.map (·.1) = l := by
  simp [arrN, List.attachWith_map_val]
theorem below_sort (w : World) (g off n : Nat) (d : Array NdK) (os : Array Obj) {B : Nat} (hB : B ≤ w.heap.size) (hg : B ≤ g) : Below B w (sortWorldK encN 65 w g off n d os) := by
  refine ⟨rfl, rfl, rfl, ?_, fun k hk => ?_⟩
  · show w.heap.size ≤ (_ ++ os).size
    rw [Array.size_append]
    have : (Go.Sort.putRowK encN 65 (Go.Sort.ahead w n) g off d).heap.size = w.heap.size := Go.Sort.size_putRow _ _ _ _ _
    omega
  · show (_ ++ os)[k]? = _
    have hs : (Go.Sort.putRowK encN 65 (Go.Sort.ahead w n) g off d).heap.size = w.heap.size := Go.Sort.size_putRow _ _ _ _ _
    rw [Array.getElem?_append_left (by omega)]
    show (w.heap.modify g _)[k]? = _
    rw [Array.getElem?_modify, if_neg (by omega)]
set_option maxHeartbeats 2000000 in
theorem sort_nodes : SortC := by
  intro B w v l h hlen
  obtain ⟨ho, hk, hB⟩ := h
  have ho' := ho
  obtain ⟨h1, ⟨rfl, h2⟩ | ⟨g, cap, cur, rfl, hBg, hg, hnc, -, hcs, -⟩⟩ := ho
  · have e : l = [] := List.length_eq_zero_iff.1 h2
    subst e
    refine (sort_none none 0 _ w).mono ?_
    rintro e w' ⟨rfl, rfl⟩
    exact ⟨rfl, [], List.Perm.refl _, List.Pairwise.nil, ⟨none, 0, rfl, Nat.le_refl _, .inl ⟨rfl, fun _ => rfl⟩⟩, Below.refl _ _⟩
  · have hgl : g < w.heap.size := (Array.getElem?_eq_some_iff.1 hg).1
    have hsz := arrN_size l hk
    have hlk : ∀ x : NdK, (encN x).length = 65 := fun x => nc_length x.2
    have hone : ∀ x : NdK, ∀ v ∈ encN x, v.oneCell' = true := fun x v hv => ncs_one [x.1] v (by have hv : v ∈ nc x.1 := hv; simpa [ncs] using hv)
    have hH : Go.Sort.HoldsK encN 65 w g 0 (arrN l hk) := by
      intro j hj
      rw [Go.Sort.size_flatK, hsz] at hj
      have hi : j / 65 < l.length := by omega
      refine ⟨?_, ?_⟩
      · rw [Go.Sort.get_flatK _ _ _ j (by rw [hsz]; exact hj)]
        have hm : j % 65 < (encN (arrN l hk)[j / 65]!).length := by rw [hlk]; omega
        have e := ncs_get hk (j / 65) (j % 65) l[j / 65] (List.getElem?_eq_getElem hi) (by omega)
        rw [show j / 65 * 65 + j % 65 = j by omega] at e
        have e2 : (nc l[j / 65])[j % 65]? = some (encN (arrN l hk)[j / 65]!)[j % 65]! := by
          rw [getElem!_pos (encN (arrN l hk)[j / 65]!) (j % 65) hm, ← List.getElem?_eq_getElem hm]
          unfold encN; rw [arrN_get l hk hi]
        have := ho'.cells (g := g) rfl j _ (by rw [e]; exact e2)
        rw [addr_add0] at this
        exact this
      · show w.frozen? _ = false
        unfold World.frozen?
        show (match w.heap[g]? with | some (.cells _ _ (lo, hi)) => _ | _ => _) = false
        rw [hg]
        simp
    have eg : ∀ args w, (callFunc 27 args).run Tryd.prog w = .ok (.enter 27 args) w := enters_of Tryd.func27 (by kernel_rfl) rfl
    have hcon := AnyQ.slices_SortFunc sortNd 65 (fun w => by first | exact Tryd.isAgg35 w | kernel_rfl) (fun w => by first | exact Tryd.sizeOf35 w | kernel_rfl) encN hlk hone cfN swoN 27 #[] g 0 cap (arrN l hk) w eg (fun _ _ _ _ x y => byPrefix_lays x.1 y.1 x.2 y.2 _) hH hgl (by rw [hsz]; omega)
    rw [hsz] at hcon
    change Calls Tryd.prog 26 _ _ _ at hcon
    refine hcon.mono ?_
    rintro e w' ⟨rfl, d', n, os, hp, hs, rfl⟩
    obtain ⟨p1, p2, p3⟩ := hp
    have hd : d'.size = l.length := by rw [p1, hsz]
    have hperm : d'.toList.Perm (arrN l hk).toList := by
      rw [← hsz] at p3
      rw [Array.extract_size] at p3
      rw [show (arrN l hk).size = d'.size from p1.symm, Array.extract_size] at p3
      exact p3
    have hH' := holdsK_sortWorldK encN 65 w g 0 n (arrN l hk) d' os hgl hH p1
    refine ⟨rfl, d'.toList.map (·.1), ?_, ?_, ?_, below_sort w g 0 n d' os hB hBg⟩
    · have := hperm.map (·.1); rwa [arrN_list] at this
    · rw [List.pairwise_map, List.pairwise_iff_getElem]
      intro i j hi hj hij
      rw [Array.length_toList] at hi hj
      have := hs i j (Nat.zero_le _) hij (by omega)
      rw [lt_cfN] at this
      rw [getElem!_pos d' i hi, getElem!_pos d' j hj] at this
      simp only [Array.getElem_toList]
      simpa using this
    · have hll : (d'.toList.map (·.1)).length = l.length := by rw [List.length_map, Array.length_toList]; exact hd
      refine ⟨_, cap, by rw [hll], by rw [hll]; exact hnc, .inr ⟨g, 0, rfl, ?_, ?_⟩⟩
      · exact Nat.lt_of_lt_of_le hgl (below_sort w g 0 n d' os (B := 0) (Nat.zero_le _) (Nat.zero_le _)).size
      · intro i x hi j u hu
        rw [List.getElem?_map] at hi
        obtain ⟨y, hy, rfl⟩ := Option.map_eq_some_iff.1 hi
        obtain ⟨hil, rfl⟩ := List.getElem?_eq_some_iff.1 hy
        rw [Array.length_toList] at hil
        have hj : j < 65 := by have := (List.getElem?_eq_some_iff.1 hu).1; rw [nc_length (d'.toList[i]).2] at this; exact this
        have hc := (hH' (i * 65 + j) (by rw [Go.Sort.size_flatK]; have : (i + 1) * 65 ≤ d'.size * 65 := Nat.mul_le_mul_right 65 hil; omega)).1
        rw [Go.Sort.get_flatK _ _ _ _ (by have : (i + 1) * 65 ≤ d'.size * 65 := Nat.mul_le_mul_right 65 hil; omega), show (i * 65 + j) / 65 = i by omega, show (i * 65 + j) % 65 = j by omega] at hc
        rw [show 0 + i * 65 + j = 0 + (i * 65 + j) by omega, hc]
        rw [getElem!_pos d' i hil]
        have hm : j < (encN d'[i]).length := by rw [hlk]; exact hj
        rw [getElem!_pos (encN d'[i]) j hm]
        rw [Array.getElem_toList] at hu
        rw [show id (encN d'[i])[j] = (encN d'[i])[j] from rfl, ← List.getElem?_eq_getElem hm]
        exact hu
theorem leafNodes_any (ls : List Lf) (hk : ∀ x ∈ ls, x.Ok) (hlen : ls.length ≤ 2500000000000) (v : Value) (w : World) (hv : LS w v ls) (hT : Tb w) :
    Calls Tryd.prog 15 #[v] w fun e w' => ∃ v' er, e = .returned (.tuple #[v', .int .i64 er]) ∧ LNo ls v' er w' ∧ Below w.heap.size w w' := leafNodes_core sort_nodes ls hk hlen v w hv hT
end Go.Proofs.YtkeobajlikhghabDoor
/- Nodes of a call's own, written over; a leaf put among others. -/
namespace Go.Proofs.YtkeobajlikhghabDoor
open Go Go.RowKit
set_option linter.unusedSimpArgs false
set_option linter.unusedVariables false
set_option maxRecDepth 100000

/-- An array with a row of cells written over. -/
def setL (cur : Array Value) : Nat → List Value → Array Value
  | _, [] => cur
  | o, v :: r => setL (cur.setIfInBounds o v) (o + 1) r
theorem setL_size : ∀ (vs : List Value) (o : Nat) (cur : Array Value), (setL cur o vs).size = cur.size
  | [], _, _ => rfl
  | v :: r, o, cur => by rw [setL, setL_size r]; simp
theorem setL_list : ∀ (vs : List Value) (o : Nat) (cur : Array Value), o + vs.length ≤ cur.size → (setL cur o vs).toList = cur.toList.take o ++ vs ++ cur.toList.drop (o + vs.length)
  | [], o, cur, _ => by simp [setL]
  | v :: r, o, cur, h => by
    simp only [List.length_cons] at h
    rw [setL, setL_list r (o + 1) _ (by simp; omega), Array.toList_setIfInBounds]
    have ho : o < cur.toList.length := by rw [Array.length_toList]; omega
    rw [List.drop_set_of_lt (by omega)]
    have e : (cur.toList.set o v).take (o + 1) = cur.toList.take o ++ [v] := by
      rw [List.take_succ_eq_append_getElem (by rw [List.length_set]; exact ho), List.getElem_set_self, List.take_set_of_le (Nat.le_refl _)]
    rw [e, List.length_cons, show o + 1 + r.length = o + (r.length + 1) by omega]
    simp
theorem heap_setC (g : Nat) : ∀ (vs : List Value) (o : Nat) (w : World) (cur : Array Value) (t : TypeId) (fr : Nat × Nat), w.heap[g]? = some (.cells cur t fr) → (w.setCells g o vs).heap[g]? = some (.cells (setL cur o vs) t fr)
  | [], _, _, _, _, _, h => h
  | v :: r, o, w, cur, t, fr, h => by
    rw [World.setCells, setL]
    refine heap_setC g r (o + 1) _ _ t fr ?_
    show (w.heap.modify g _)[g]? = _
    rw [Array.getElem?_modify, if_pos rfl, h]
    simp
theorem ncs_take {l : List Nd} (hk : ∀ x ∈ l, x.Ok) (i : Nat) (hi : i ≤ l.length) : (ncs l).take (i * 65) = ncs (l.take i) := by
  have e : ncs l = ncs (l.take i) ++ ncs (l.drop i) := by rw [← ncs_app, List.take_append_drop]
  have hl : (ncs (l.take i)).length = i * 65 := by rw [ncs_length (fun x hx => hk x (List.mem_of_mem_take hx)), List.length_take]; congr 1; omega
  rw [e, ← hl, List.take_left]
theorem ncs_drop {l : List Nd} (hk : ∀ x ∈ l, x.Ok) (i : Nat) (hi : i ≤ l.length) : (ncs l).drop (i * 65) = ncs (l.drop i) := by
  have e : ncs l = ncs (l.take i) ++ ncs (l.drop i) := by rw [← ncs_app, List.take_append_drop]
  have hl : (ncs (l.take i)).length = i * 65 := by rw [ncs_length (fun x hx => hk x (List.mem_of_mem_take hx)), List.length_take]; congr 1; omega
  rw [e, ← hl, List.drop_left]
/-- Nodes of the call's own, some written over. -/
theorem NO.set {B : Nat} {w : World} {g n cap : Nat} {l : List Nd} (h : NO B w (.slice (some ⟨g, 0, none⟩) n cap) l) {m : List Nd} (hm : ∀ x ∈ m, x.Ok) {i : Nat} (hi : i + m.length ≤ l.length) :
    NO B (w.setCells g (i * 65) (ncs m)) (.slice (some ⟨g, 0, none⟩) n cap) (l.take i ++ m ++ l.drop (i + m.length)) := by
  obtain ⟨ho, hk, hB⟩ := h
  have hk' : ∀ x ∈ l.take i ++ m ++ l.drop (i + m.length), x.Ok := fun x hx => by
    simp only [List.mem_append] at hx
    rcases hx with (hx | hx) | hx
    · exact hk x (List.mem_of_mem_take hx)
    · exact hm x hx
    · exact hk x (List.mem_of_mem_drop hx)
  have hlen : (l.take i ++ m ++ l.drop (i + m.length)).length = l.length := by simp only [List.length_append, List.length_take, List.length_drop]; omega
  have hml := ncs_length hm
  refine ⟨?_, hk', by rw [size_setC]; exact hB⟩
  obtain ⟨h1, ⟨he, _⟩ | ⟨g', cap', cur, he, hBg, hg, hnc, hcm, hcs, htk⟩⟩ := ho
  · cases he
  · simp only [Value.slice.injEq, Option.some.injEq, Addr.mk.injEq, and_true] at he
    obtain ⟨rfl, rfl, rfl⟩ := he
    have hsz : l.length * 65 ≤ cur.size := by rw [hcs]; exact Nat.mul_le_mul_right 65 hnc
    have hfit : i * 65 + (ncs m).length ≤ l.length * 65 := by rw [hml, ← Nat.add_mul]; exact Nat.mul_le_mul_right 65 hi
    rw [hlen]
    refine ⟨by rw [ncs_length hk', hlen], .inr ⟨g, cap, _, rfl, hBg, heap_setC g _ _ w cur _ _ hg, hnc, hcm, by rw [setL_size]; exact hcs, ?_⟩⟩
    rw [setL_list _ _ _ (by omega)]
    have hct : cur.toList.take (i * 65) = ncs (l.take i) := by
      rw [← ncs_take hk i (by omega), ← htk, List.take_take, Nat.min_eq_left (Nat.mul_le_mul_right 65 (by omega))]
    have hcl : cur.toList.length = cur.size := Array.length_toList
    rw [hct, ncs_app, ncs_app, hml, ← Nat.add_mul]
    have hp : (ncs (l.take i) ++ ncs m).length = (i + m.length) * 65 := by
      rw [List.length_append, hml, ncs_length (fun x hx => hk x (List.mem_of_mem_take hx)), List.length_take, Nat.add_mul]; congr 2; omega
    rw [List.take_append, hp, List.take_of_length_le (by rw [hp]; exact Nat.mul_le_mul_right 65 hi)]
    congr 1
    rw [← ncs_drop hk (i + m.length) hi, ← htk, List.drop_take]
/-- copy of nodes. -/
theorem run_copy_nd (w : World) (ty : TypeId) (b o dLen dCap : Nat) (a : Addr) (sLen sCap : Nat) (cs : List Value) (hn : cs.length = Nat.min sLen dLen * 65)
    (hsrc : ∀ j v, cs[j]? = some v → w.cell? (a.add j) = some v) (hc : ∀ j, j < cs.length → (w.cell? ⟨b, o + j, none⟩).isSome = true) (hf : ∀ j, j < cs.length → w.frozen? ⟨b, o + j, none⟩ = false) (h1 : ∀ v ∈ cs, v.oneCell' = true) :
    (Builtin.copy_ #[31, 31] ty #[.slice (some ⟨b, o, none⟩) dLen dCap, .slice (some a) sLen sCap]).run Tryd.prog w = .ok (goInt (Nat.min sLen dLen)) (w.setCells b o cs) := by
  have hl := run_loadCells_list (P := Tryd.prog) w a cs hsrc
  have hst := run_storeCells_cells (P := Tryd.prog) b o cs 0 w (by simpa using hc) (by simpa using hf) h1
  obtain ⟨i, z, hi, hz, hs, -, -⟩ := info_nd
  rw [hn] at hl
  simp [Builtin.copy_, run_underlying Tryd.underlying31, Builtin.lenOf, Builtin.firstCells, sizeOf, typeInfo, hi, hs, hl, hst]
theorem run_copy_no (w : World) (ty : TypeId) (d a : Option Addr) (dCap sLen sCap : Nat) :
    (Builtin.copy_ #[31, 31] ty #[.slice d 0 dCap, .slice a sLen sCap]).run Tryd.prog w = .ok (goInt 0) w := by
  obtain ⟨i, z, hi, hz, hs, -, -⟩ := info_nd
  have hl : ∀ (x : Addr), (loadCells x 0).run Tryd.prog w = .ok #[] w := fun x => by simpa using run_loadCells_list (P := Tryd.prog) w x [] (by simp)
  cases d <;> cases a <;> simp [Builtin.copy_, run_underlying Tryd.underlying31, Builtin.lenOf, Builtin.firstCells, sizeOf, typeInfo, hi, hs, storeCells, hl]
/-- A node put among nodes that rise. -/
theorem put_perm {s t : List Nd} (h : s.Perm t) (y : Nd) (a : Nat) : (s.take a ++ [y] ++ s.drop a).Perm (t ++ [y]) := by
  have h1 : (s.take a ++ [y] ++ s.drop a).Perm (y :: (s.take a ++ s.drop a)) := by
    rw [List.append_assoc]; exact List.perm_middle
  rw [List.take_append_drop] at h1
  exact h1.trans ((List.Perm.cons y h).trans (List.perm_append_singleton y t).symm)
theorem put_rise {s : List Nd} (hs : s.Pairwise (fun a b => pf a.p 256 < pf b.p 256)) {y : Nd} {a : Nat} (hlo : ∀ (j : Nat) (x : Nd), j < a → s[j]? = some x → pf x.p 256 < pf y.p 256) (hhi : ∀ (j : Nat) (x : Nd), a ≤ j → s[j]? = some x → pf y.p 256 < pf x.p 256) :
    (s.take a ++ [y] ++ s.drop a).Pairwise (fun a b => pf a.p 256 < pf b.p 256) := by
  have lo : ∀ x ∈ s.take a, pf x.p 256 < pf y.p 256 := fun x hx => by
    obtain ⟨i, hi, rfl⟩ := List.getElem_of_mem hx
    have hi' := hi; rw [List.length_take] at hi'
    rw [List.getElem_take]
    exact hlo i _ (by omega) (List.getElem?_eq_getElem (by omega))
  have hi : ∀ x ∈ s.drop a, pf y.p 256 < pf x.p 256 := fun x hx => by
    obtain ⟨i, hi, rfl⟩ := List.getElem_of_mem hx
    have hi' := hi; rw [List.length_drop] at hi'
    rw [List.getElem_drop]
    exact hhi (a + i) _ (by omega) (List.getElem?_eq_getElem (by omega))
  rw [List.append_assoc]
  refine List.pairwise_append.2 ⟨hs.sublist (List.take_sublist _ _), List.pairwise_append.2 ⟨List.pairwise_singleton _ _, hs.sublist (List.drop_sublist _ _), fun x hx z hz => ?_⟩, fun x hx z hz => ?_⟩
  · simp at hx; subst hx; exact hi z hz
  · rcases List.mem_append.1 hz with q | q
    · simp at q; subst q; exact lo x hx
    · exact Nat.lt_trans (lo x hx) (hi z q)
/-- One below the rest is below a place: all ahead of it are. -/
theorem rise_lo {s : List Nd} (hs : s.Pairwise (fun a b => pf a.p 256 < pf b.p 256)) {y : Nd} {a : Nat} {z : Nd} (hz : s[a - 1]? = some z) (ha : 0 < a) (h : pf z.p 256 < pf y.p 256) (j : Nat) (x : Nd) (hj : j < a) (hx : s[j]? = some x) : pf x.p 256 < pf y.p 256 := by
  obtain ⟨h1, rfl⟩ := List.getElem?_eq_some_iff.1 hz
  obtain ⟨h2, rfl⟩ := List.getElem?_eq_some_iff.1 hx
  rcases Nat.lt_or_ge j (a - 1) with q | q
  · exact Nat.lt_trans (List.pairwise_iff_getElem.1 hs j (a - 1) h2 h1 q) h
  · obtain rfl : j = a - 1 := by omega
    exact h
/-- Two of one label: no list of them rises. -/
theorem dup_not {ls : List Lf} (hk : ∀ x ∈ ls, x.Ok) {k : Nat} {x : Lf} (hx : ls[k]? = some x) {s : List Nd} (hs : s.Perm ((ls.take k).map ln)) {z : Nd} (hz : z ∈ s) (e : z.p = x.p) : ¬ okl ls := by
  intro h
  have hn := okl_ne hk h
  obtain ⟨y, hy, rfl⟩ := List.mem_map.1 (hs.mem_iff.1 hz)
  obtain ⟨i, hi, rfl⟩ := List.getElem_of_mem hy
  have hi' := hi; rw [List.length_take] at hi'
  obtain ⟨hkl, rfl⟩ := List.getElem?_eq_some_iff.1 hx
  rw [List.getElem_take] at e
  have := List.pairwise_iff_getElem.1 hn i k (by omega) hkl (by omega)
  exact this (congrArg (fun q => pf q 256) e)
end Go.Proofs.YtkeobajlikhghabDoor
