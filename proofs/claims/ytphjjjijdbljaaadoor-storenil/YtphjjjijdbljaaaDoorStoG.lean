/- Package store: recordOf. -/
import Derived.Test.YtphjjjijdbljaaaDoorStoD
namespace Go.Proofs.YtphjjjijdbljaaaDoor
open Go Go.RowKit
set_option linter.unusedSimpArgs false
set_option linter.unusedVariables false
set_option maxRecDepth 100000

/-- What is laid of a change's value. -/
def vb (c : Cg) : List Int := if c.gn = true then [] else 1 :: nb c.v
theorem vb_gone {c : Cg} (h : c.gn = true) : vb c = [] := by unfold vb; rw [if_pos h]
theorem vb_there {c : Cg} (h : c.gn = false) : vb c = [1] ++ nb c.v := by unfold vb; rw [if_neg (by rw [h]; decide)]; rfl
/-- The list of the first changes. -/
def rl (l : List Cg) : Nat → List (List Int)
  | 0 => []
  | k + 1 => rl l k ++ (match l[k]? with | some c => [nb c.k, vb c] | none => [])
theorem rl_succ {l : List Cg} {k : Nat} {c : Cg} (h : l[k]? = some c) : rl l (k + 1) = rl l k ++ [nb c.k, vb c] := by simp only [rl]; rw [h]
theorem rl_length {l : List Cg} : ∀ k, k ≤ l.length → (rl l k).length = 2 * k
  | 0, _ => rfl
  | k + 1, h => by
    rw [rl_succ (List.getElem?_eq_getElem (show k < l.length by omega)), List.length_append, rl_length k (by omega)]; simp; omega
theorem own_at {g n c b : Nat} (e : (Value.slice (some ⟨g, 0, none⟩) n c).ownBlock = some b) : b = g := by simp [Value.ownBlock] at e; exact e.symm
theorem own_none (b : Nat) : (Value.slice none 0 0).ownBlock ≠ some b := fun e => by simp [Value.ownBlock] at e
theorem cell_al2 (w : World) (u1 u2 u3 : Value) (Y : Obj) : ((w.alloc (.cells #[u1, u2, u3] 38)).alloc Y).cell? ⟨w.heap.size, 0, none⟩ = some u1 := by
  have h : (w.alloc (.cells #[u1, u2, u3] 38)).cell? ⟨w.heap.size, 0, none⟩ = some u1 := cell_alloc w #[u1, u2, u3] _ _ 0
  have hb : Below (w.heap.size + 1) (w.alloc (.cells #[u1, u2, u3] 38)) ((w.alloc (.cells #[u1, u2, u3] 38)).alloc Y) := (Below.refl _ _).alloc (by simp) _
  exact (hb.cell (p := ⟨w.heap.size, 0, none⟩) (Nat.lt_succ_self _)).trans h
/-- []byte(s), for the walk. -/
theorem wp_conv {ops : Array Oper} {rest : List Oper} {o : Oper} {a : Act} {Q : Exit → Act → World → Prop} {wr : World} (hgd : o.guard = none) (x : Operand) (ho : o.op = .convert 9 71 x) (s : ByteArray) (hx : a.eval x = .string s)
    (h : ∀ c w', Sl w' (.slice (some ⟨wr.heap.size, 0, none⟩) s.size c) (nb s) → Below wr.heap.size wr w' → w'.heap.size = wr.heap.size + 1 → wpList Tryd.prog ops Q rest (a.put o.dst (.slice (some ⟨wr.heap.size, 0, none⟩) s.size c)) w') : wpList Tryd.prog ops Q (o :: rest) a wr := by
  refine wpList_plain hgd fun K hK => ?_
  obtain ⟨w1, c, hr, h1, h2, h3⟩ := conv_any wr s
  unfold Oper.wp execOp
  simp only [ho, hx, Sem.run_bind, Sem.run_pure, Result.andThen_ok, hr]
  exact hK _ _ (h c w1 h1 h2 h3)
theorem Sl.none (w : World) : Sl w (.slice none 0 0) [] := ⟨_, 0, rfl, Nat.le_refl _, .inl ⟨rfl, fun _ => rfl⟩⟩
/-- Two slices in a new block, at the row's end. -/
theorem app_two {ops : Array Oper} {rest : List Oper} {o : Oper} {a : Act} {Q : Exit → Act → World → Prop} {B0 : Nat} {wr w4 : World} (hgd : o.guard = none) (s x : Operand) (ho : o.op = .call { callee := .builtin .append, args := #[s, x], argTypes := #[49, 49] })
    (hB : B0 ≤ wr.heap.size) (v : Value) (us : List Value) (xss : List (List Int)) (hs : a.eval s = v) (h0 : Ml B0 wr v us xss) (hb : Below wr.heap.size wr w4) (u1 u2 : Value) (m1 m2 : List Int) (T : TypeId) (hx : a.eval x = .slice (some ⟨w4.heap.size, 0, none⟩) 2 2) (h1 : Sl w4 u1 m1) (h2 : Sl w4 u2 m2)
    (k1 : ∀ b, u1.ownBlock = some b → wr.heap.size ≤ b ∧ b < w4.heap.size) (k2 : ∀ b, u2.ownBlock = some b → wr.heap.size ≤ b ∧ b < w4.heap.size) (hk : (us.length + 2) * 24 ≤ 140737488355328)
    (h : ∀ v' w', Ml B0 w' v' (us ++ [u1, u2]) (xss ++ [m1, m2]) → Below B0 w4 w' → wpList Tryd.prog ops Q rest (a.put o.dst v') w') : wpList Tryd.prog ops Q (o :: rest) a (w4.alloc (.cells #[u1, u2] T)) := by
  have hb1 : Below w4.heap.size w4 (w4.alloc (.cells #[u1, u2] T)) := (Below.refl _ w4).alloc (Nat.le_refl _) _
  have hb2 : Below wr.heap.size wr (w4.alloc (.cells #[u1, u2] T)) := hb.alloc hb.size _
  have hsz : (w4.alloc (.cells #[u1, u2] T)).heap.size = w4.heap.size + 1 := by simp
  refine app_ml hgd s x ho (by rw [hsz]; have := hb.size; omega) v us xss hs (h0.below hb2) [u1, u2] [m1, m2] rfl w4.heap.size 0 2 2 hx rfl ?_ ?_ ?_ hk ?_
  · intro j u hj
    rw [Nat.zero_add]
    match j, hj with
    | 0, hj => simp at hj; subst hj; exact cell_alloc w4 #[u1, u2] T _ 0
    | 1, hj => simp at hj; subst hj; exact cell_alloc w4 #[u1, u2] T _ 1
    | j + 2, hj => simp at hj
  · intro j u hj
    match j, hj with
    | 0, hj => simp at hj; subst hj; exact h1.below hb1 (Nat.le_refl _)
    | 1, hj => simp at hj; subst hj; exact h2.below hb1 (Nat.le_refl _)
    | j + 2, hj => simp at hj
  · intro j u hj b e
    have hv : ∀ b, wr.heap.size ≤ b → v.ownBlock ≠ some b := fun b hb e => by have := (h0.blk b e).2; omega
    match j, hj with
    | 0, hj => simp at hj; subst hj; exact ⟨by rw [hsz]; have := (k1 b e).2; omega, hv b (k1 b e).1⟩
    | 1, hj => simp at hj; subst hj; exact ⟨by rw [hsz]; have := (k2 b e).2; omega, hv b (k2 b e).1⟩
    | j + 2, hj => simp at hj
  · intro v' w' q1 q2
    exact h v' w' q1 ((hb1.mono (by have := hb.size; omega)).trans q2)
theorem size_al (w : World) (X : Obj) : (w.alloc X).heap.size = w.heap.size + 1 := by simp
theorem one_ow (wr : World) (X : Obj) : Ow (wr.heap.size + 1) ((wr.alloc X).alloc (.cells #[.int .u8 1] 5)) (.slice (some ⟨wr.heap.size + 1, 0, none⟩) 1 1) [1] := by
  have h := Ow.lit (wr.alloc X) [1] #[.int .u8 1] 1 rfl rfl (by simp)
  rw [size_al] at h; exact h
theorem conv_al (w : World) (X : Obj) (s : ByteArray) : ∃ w1 c, (convert 9 71 (.string s)).run Tryd.prog (w.alloc X) = .ok (.slice (some ⟨w.heap.size + 1, 0, none⟩) s.size c) w1 ∧ Sl w1 (.slice (some ⟨w.heap.size + 1, 0, none⟩) s.size c) (nb s) ∧ Below w.heap.size w w1 ∧ w1.heap.size = w.heap.size + 1 + 1 := by
  obtain ⟨w1, c, h1, h2, h3, h4⟩ := conv_any (w.alloc X) s
  rw [size_al] at h1 h2 h3 h4
  exact ⟨w1, c, h1, h2, ((Below.refl _ w).alloc (Nat.le_refl _) _).trans (h3.mono (by omega)), h4⟩
theorem rl_lens {l : List Cg} (hk : ∀ (j : Nat) (c : Cg), l[j]? = some c → fine c = true) : ∀ k, k ≤ l.length → ∀ m ∈ rl l k, m.length ≤ 140737488355328
  | 0, _, m, hm => by simp [rl] at hm
  | k + 1, h, m, hm => by
    obtain ⟨c, hc⟩ : ∃ c, l[k]? = some c := ⟨l[k]'(by omega), List.getElem?_eq_getElem (by omega)⟩
    obtain ⟨_, h1, h2⟩ := fine_iff.1 (hk k c hc)
    rw [rl_succ hc, List.mem_append] at hm
    rcases hm with hm | hm
    · exact rl_lens hk k (by omega) m hm
    · simp only [List.mem_cons, List.mem_nil_iff, or_false] at hm
      rcases hm with rfl | rfl
      · rw [nb_length]; omega
      · cases e : c.gn with
        | true => rw [vb_gone e]; simp
        | false => rw [vb_there e, List.length_append, nb_length]; simp; omega
set_option maxHeartbeats 2000000 in
theorem recordOf_any (l : List Cg) (v : Value) (w : World) (hv : CS w v l) (hn : l.length ≤ 65536) (hk : ∀ (j : Nat) (c : Cg), l[j]? = some c → fine c = true) :
    Calls Tryd.prog 34 #[v] w fun e w' => ∃ v', e = .returned v' ∧ Ow w.heap.size w' v' (encB (rl l l.length)) ∧ Below w.heap.size w w' := by
  obtain ⟨ad, cap, rfl, hc, hx⟩ := hv
  have HX : Hid (l = [] ∧ (ad = none → cap = 0) ∨ ∃ b o, ad = some ⟨b, o, none⟩ ∧ b < w.heap.size ∧ ∀ i c, l[i]? = some c → w.rangeAt b (o + i * 3) (cc c).toList) := hx
  have HK : Hid (∀ (j : Nat) (c : Cg), l[j]? = some c → fine c = true) := hk
  clear hx hk hc
  go_enter Tryd.func34, Tryd.ntmps34
  go_wp2_with fail
  go_loopw [3, 11] (fun ov i wr => ∃ (k : Nat) (us : List Value), k ≤ l.length ∧ i = .int .i64 (k : Int) ∧ Ml w.heap.size wr ov us (rl l k) ∧ Below w.heap.size w wr) (fun _ i _ => l.length - (intOf i).toNat)
  case atStart => exact ⟨0, [], Nat.zero_le _, rfl, Ml.nil _ _, Below.refl _ _⟩
  case round =>
    obtain ⟨k, us, hkl, rfl, hml, h4⟩ := hrel
    have H4 : Hid (Below w.heap.size w wr) := h4
    have HM : Hid (Ml w.heap.size wr _ us (rl l k)) := hml
    have HUS : Hid (us.length = 2 * k) := by show us.length = 2 * k; rw [hml.len, rl_length k hkl]
    clear h4 hml
    by_cases hlt : k < l.length
    · rcases HX.out with ⟨rfl, _⟩ | ⟨b, o, rfl, hlb, hm⟩
      · simp at hlt
      · obtain ⟨c, hc⟩ : ∃ c, l[k]? = some c := ⟨l[k]'(by omega), List.getElem?_eq_getElem (by omega)⟩
        have HR : Hid (wr.rangeAt b (o + k * 3) (cc c).toList) := by
          intro q u hu
          exact (H4.out.cell (p := ⟨b, o + k * 3 + q, none⟩) hlb).trans (hm k c hc q u hu)
        have c0 : wr.cell? ⟨b, o + k * 3, none⟩ = some (.string c.k) := HR.out 0 _ rfl
        have c1 : wr.cell? ⟨b, o + k * 3 + 1, none⟩ = some (.string c.v) := HR.out 1 _ rfl
        have c2 : wr.cell? ⟨b, o + k * 3 + 2, none⟩ = some (.bool c.gn) := HR.out 2 _ rfl
        have HC : Hid (l[k]? = some c) := hc
        obtain ⟨-, hok1, hok2⟩ := fine_iff.1 (HK.out k c hc)
        clear hm hlb hc
        cases hgn : c.gn with
        | true =>
          rw [hgn] at c2
          have EV : Hid (vb c = []) := vb_gone hgn
          obtain ⟨w4, cp, hr, h1, h2, h3⟩ := conv_al wr (.cells #[.string c.k, .string c.v, .bool true] 38 (0, 0)) c.k
          have S1 : Hid (Sl w4 (.slice (some ⟨wr.heap.size + 1, 0, none⟩) c.k.size cp) (nb c.k)) := h1
          have B4 : Hid (Below wr.heap.size wr w4) := h2
          have Z4 : Hid (w4.heap.size = wr.heap.size + 1 + 1) := h3
          clear h1 h2 h3
          go_wp2_with (at_builtin; refine app_two (B0 := w.heap.size) rfl (.tmp 22) (.tmp 27) rfl H4.out.size u3 us (rl l k) rfl HM.out B4.out (.slice (some ⟨wr.heap.size + 1, 0, none⟩) c.k.size cp) (.slice none 0 0) (nb c.k) [] 71 rfl S1.out (Sl.none _) (fun b e => by have h0 := own_at e; have h1 := Z4.out; omega) (fun b e => by exact absurd e (own_none b)) (by have h1 := HUS.out; omega) ?_; intro v5 w5 h5 h6; have M5 : Hid (Ml w.heap.size w5 v5 _ (rl l k ++ [nb c.k, []])) := h5; have B5 : Hid (Below w.heap.size w w5) := H4.out.trans ((B4.out.mono H4.out.size).trans h6); clear h5 h6)
          exact ⟨⟨k + 1, _, hlt, by go_num, by rw [rl_succ HC.out, EV.out]; exact M5.out, B5.out⟩, by simp [intOf]; omega⟩
        | false =>
          rw [hgn] at c2
          have EV : Hid (vb c = [1] ++ nb c.v) := vb_there hgn
          have HLV : Hid (([1] : List Int).length + c.v.size ≤ 140737488355328) := by show _ ≤ _; simp; omega
          go_wp2_with (first
            | (at_builtin; refine app_str (B0 := wr.heap.size + 1) rfl _ _ rfl (by simp) _ [1] rfl (one_ow wr _) c.v rfl HLV.out ?_; intro v3 w3 h1 h2 h3
               obtain ⟨ad3, cp3, hv3, -, -⟩ := h1.sl
               obtain ⟨n3, hn3⟩ : ∃ n, ([1] ++ nb c.v).length = n := ⟨_, rfl⟩
               rw [hn3] at hv3
               subst hv3
               have O3 : Hid (Ow (wr.heap.size + 1) w3 (.slice ad3 n3 cp3) ([1] ++ nb c.v)) := h1
               have c3 : w3.cell? ⟨wr.heap.size, 0, none⟩ = some (.string c.k) := (h3.cell (p := ⟨wr.heap.size, 0, none⟩) (Nat.lt_succ_self _)).trans (cell_al2 wr _ _ _ _)
               have B3 : Hid (Below wr.heap.size wr w3) := (((Below.refl _ wr).alloc (Nat.le_refl _) _).alloc (by simp) _).trans (h3.mono (by omega))
               obtain ⟨w4, cp, hr, q1, q2, q3⟩ := conv_any w3 c.k
               have S1 : Hid (Sl w4 (.slice (some ⟨w3.heap.size, 0, none⟩) c.k.size cp) (nb c.k)) := q1
               have B4 : Hid (Below w3.heap.size w3 w4) := q2
               have Z4 : Hid (w4.heap.size = w3.heap.size + 1) := q3
               clear h1 h2 h3 q1 q2 q3 hn3)
            | (at_builtin; refine app_two (B0 := w.heap.size) rfl (.tmp 22) (.tmp 27) rfl H4.out.size u3 us (rl l k) rfl HM.out (B3.out.trans (B4.out.mono B3.out.size)) (.slice (some ⟨w3.heap.size, 0, none⟩) c.k.size cp) (.slice ad3 n3 cp3) (nb c.k) ([1] ++ nb c.v) 71 rfl S1.out (O3.out.sl.below B4.out (Nat.le_refl _)) (fun b e => by have h0 := own_at e; have h1 := Z4.out; have h2 := B3.out.size; omega) (fun b e => by have h1 := O3.out.blk b e; have h2 := O3.out.lt b e; have h3 := Z4.out; omega) (by have h1 := HUS.out; omega) ?_; intro v5 w5 h5 h6; have M5 : Hid (Ml w.heap.size w5 v5 _ (rl l k ++ [nb c.k, [1] ++ nb c.v])) := h5; have B5 : Hid (Below w.heap.size w w5) := H4.out.trans (((B3.out.trans (B4.out.mono B3.out.size)).mono H4.out.size).trans h6); clear h5 h6))
          exact ⟨⟨k + 1, _, hlt, by go_num, by rw [rl_succ HC.out, EV.out]; exact M5.out, B5.out⟩, by simp [intOf]; omega⟩
    · obtain rfl : k = l.length := by omega
      have HL : Hid (Lens (rl l l.length)) := fun i hi => by rw [mi_get hi]; exact rl_lens HK.out _ (Nat.le_refl _) _ (List.getElem_mem hi)
      have HN : Hid ((rl l l.length).length ≤ 140737488355328) := by show _ ≤ _; rw [rl_length _ (Nat.le_refl _)]; omega
      go_wp2_with (go_at_call 48; refine (encode_any (rl l l.length) _ wr HM.out.ll HL.out HN.out).mono ?_; rintro e w2 ⟨v2, rfl, h1, h2⟩; have O2 : Hid (Ow wr.heap.size w2 v2 (encB (rl l l.length))) := h1; have B2 : Hid (Below wr.heap.size wr w2) := h2; clear h1 h2)
      go_ret
      exact ⟨_, rfl, O2.out.mono H4.out.size, H4.out.trans (B2.out.mono H4.out.size)⟩
end Go.Proofs.YtphjjjijdbljaaaDoor
