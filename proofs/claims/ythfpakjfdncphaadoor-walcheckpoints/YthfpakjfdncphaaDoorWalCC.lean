/- What the law of crashes within a checkpoint needs of the calls. -/
import Derived.Test.YthfpakjfdncphaaDoorWalCB
import Derived.Test.YthfpakjfdncphaaDoorWalGA
namespace Go.Proofs.YthfpakjfdncphaaDoor
open Go Go.RowKit
set_option linter.unusedSimpArgs false
set_option linter.unusedVariables false
set_option maxRecDepth 100000

/-- What Append leaves of the first half. -/
structure Xt (l l' : Lo) (q q' : Nat → Option (Nat × List (List Int))) : Prop where
  f0 : l'.f0 = l.f0
  q0 : q' 0 = q 0
  t : l.t ≠ 0 → l'.t = l.t
  t0 : l.t = 0 → l'.t ≤ 1
  f1 : l.t = 0 → l'.t = 0 → l'.f1 = l.f1
theorem Xt.refl (l : Lo) (q : Nat → Option (Nat × List (List Int))) : Xt l l q q := ⟨rfl, rfl, fun _ => rfl, fun e => by omega, fun _ _ => rfl⟩
theorem Xt.begin {s : Dk} {l : Lo} {q : Nat → Option (Nat × List (List Int))} {xss : List (List Int)} (h0 : l.t = 0) (hf : hfF s.n (l.t + 1) + fl (JS xss) < hfT s.n (l.t + 1)) (hl : (bgR s l xss).1 = 0) (b4 : (bgR s l xss).2.2.t = l.t + 1) : Xt l (bgR s l xss).2.2 q (qs q ((l.t + 1) % 2) (l.t + 1, xss)) := by
  have e1 : (l.t + 1) % 2 = 1 := by omega
  refine ⟨?_, ?_, fun e => absurd h0 e, fun _ => by omega, fun _ e => by omega⟩
  · unfold bgR at hl ⊢
    rw [if_pos hf] at hl ⊢
    split
    · rename_i hz
      have := (setF_two { l with t := l.t + 1, rs := xss, en := hfF s.n (l.t + 1) + fl (JS xss), lo := false } ((l.t + 1) % 2) (rdV (lay s (hfF s.n (l.t + 1) : Int) (JN ((l.t + 1 : Nat) : Int) xss)).2 (hfF s.n (l.t + 1) : Int))).1
      rw [if_neg (by omega)] at this
      exact this
    · rfl
  · unfold qs; rw [if_neg (by omega)]
theorem append_lgx {S : Nat → Prop} {B : Nat} {w0 w : World} {g : Nat} {s : Dk} {lg : Nat} {l : Lo} {q : Nat → Option (Nat × List (List Int))} (h : Lg S B w0 w g s lg l q) (ht : l.t + 1 < 18446744073709551616) (p : List Int) (v : Value) (hv : Sq w v p) (hb : Byt p) (hF : ∀ b, slB v = some b → b < w.heap.size ∧ ¬ S b) :
    Calls Tryd.prog 12 #[.pointer (some ⟨lg, 0, none⟩), v] w fun e w' => ∃ z s' l' q' S', e = .returned (.int .i64 z) ∧ Lg S' B w0 w' g s' lg l' q' ∧ Nx S w S' w' ∧ s'.n = s.n ∧ s'.fu = s.fu ∧ l'.t ≤ l.t + 1 ∧ Apd z s l l' p ∧ Xt l l' q q' := by
  obtain ⟨hS, hn, hg⟩ := h.sby
  by_cases hp : p.length ≤ 65536
  · by_cases h0 : l.t = 0
    · refine (append_first h.wl h.li.lo h.dn h.li.e0 h.li.e1 h0 p v hv.sl hb hp (by rw [h.wt]; simp)).mono ?_
      rintro e w' ⟨rfl, ha⟩
      have hR : Rok [p] := fun m hm => by have : m = p := by simpa using hm
                                          rw [this]; exact ⟨hb, hp⟩
      have hrs := (h.li.z h0).2.2.1
      by_cases hf : hfF s.n (l.t + 1) + fl (JS [p]) < hfT s.n (l.t + 1)
      · by_cases hu : s.fu = true
        · have hl := lay_full h.dn h.fz hu (a := hfF s.n (l.t + 1)) (by rcases hf_cases s.n (l.t + 1) with ⟨_, c, d⟩ | ⟨_, c, d⟩ <;> rw [d] at hf <;> omega) (JN ((l.t + 1 : Nat) : Int) [p])
          have hE : bgR s l [p] = (5, s, l) := by
            unfold bgR
            rw [if_pos hf, hl, if_neg (show ¬ (5 : Int) = 0 by decide)]
            show (5, s, ({ l with lo := decide ((5 : Int) = 9) } : Lo)) = _
            rw [show decide ((5 : Int) = 9) = l.lo by rw [h.li.lo]; rfl]
          rw [hE] at ha ⊢
          obtain ⟨S', a1, a2⟩ := h.aft ha h.li h.dn h.fz h.wt
          exact ⟨5, s, l, q, S', rfl, a1, a2, rfl, rfl, by omega, .full rfl rfl hp (.inl hu), Xt.refl l q⟩
        · have hu' : s.fu = false := by simpa using hu
          obtain ⟨b1, b2, b3, b4, b5, b6⟩ := h.li.begin hS ⟨h.dn, h.fz, hu'⟩ h.wt hf hR ht (by have := js_rok hR; simp at this; omega)
          have hl0 := b1
          rw [b1]
          obtain ⟨S', a1, a2⟩ := h.aft ha b6 (by rw [b2]; exact h.dn) (by rw [b2]; exact h.fz) (by rw [b2])
          exact ⟨0, _, _, _, S', rfl, a1, a2, by rw [b2], by rw [b2], by omega, .ok rfl (by rw [b3, hrs]; rfl) hu' hp, Xt.begin h0 hf hl0 b4⟩
      · have hE : bgR s l [p] = (5, s, l) := by unfold bgR; rw [if_neg hf]
        rw [hE] at ha ⊢
        obtain ⟨S', a1, a2⟩ := h.aft ha h.li h.dn h.fz h.wt
        exact ⟨5, s, l, q, S', rfl, a1, a2, rfl, rfl, by omega, .full rfl rfl hp (.inr (fun hr => hf (room_begin h.li.n64 (by rw [hrs] at hr; exact hr)))), Xt.refl l q⟩
    · obtain ⟨f1, f2, f3⟩ := h.li.front hS h0
      obtain ⟨xs, ns, c1, c2, c3, c4, c5⟩ := h.li.p h0
      have hT : hfT s.n l.t ≤ 65536 := by rcases hf_cases s.n l.t with ⟨_, _, c⟩ | ⟨_, _, c⟩ <;> omega
      refine (append_more h.wl h.li.lo h.dn h.li.e0 h.li.e1 h0 f3 (by omega) (by have := h.li.rsl hS hn; omega) c4 p v hv hb hF hp (by rw [h.wt]; simp)).mono ?_
      rintro e w' ⟨rfl, ha⟩
      by_cases hf : l.en + fl p.length < hfT s.n l.t
      · by_cases hu : s.fu = true
        · have hl := lay_full h.dn h.fz hu (a := l.en) (by rcases hf_cases s.n l.t with ⟨_, c, d⟩ | ⟨_, c, d⟩ <;> rw [d] at hf <;> omega) p
          have hE : apR s l p = (5, s, l) := by
            unfold apR
            rw [if_pos hf, hl, if_neg (show ¬ (5 : Int) = 0 by decide)]
            show (5, s, ({ l with lo := decide ((5 : Int) = 9) } : Lo)) = _
            rw [show decide ((5 : Int) = 9) = l.lo by rw [h.li.lo]; rfl]
          rw [hE] at ha ⊢
          obtain ⟨S', a1, a2⟩ := h.aft ha h.li h.dn h.fz h.wt
          exact ⟨5, s, l, q, S', rfl, a1, a2, rfl, rfl, by omega, .full rfl rfl hp (.inl hu), Xt.refl l q⟩
        · have hu' : s.fu = false := by simpa using hu
          obtain ⟨b1, b2⟩ := h.li.append hS ⟨h.dn, h.fz, hu'⟩ h.wt h0 hf hb hp
          rw [b1] at ha ⊢
          obtain ⟨S', a1, a2⟩ := h.aft ha b2 h.dn h.fz rfl
          exact ⟨0, _, _, _, S', rfl, a1, a2, rfl, rfl, by show l.t ≤ _; omega, .ok rfl rfl hu' hp, ⟨rfl, rfl, fun _ => rfl, fun e => absurd e h0, fun e => absurd e h0⟩⟩
      · have hE : apR s l p = (5, s, l) := by unfold apR; rw [if_neg hf]
        rw [hE] at ha ⊢
        obtain ⟨S', a1, a2⟩ := h.aft ha h.li h.dn h.fz h.wt
        exact ⟨5, s, l, q, S', rfl, a1, a2, rfl, rfl, by omega, .full rfl rfl hp (.inr (fun hr => hf (room_append h.li hS h0 hr))), Xt.refl l q⟩
  · refine (append_large h.wl h.li.lo p v hv.sl (by omega)).mono ?_
    rintro e w' ⟨rfl, hb⟩
    exact ⟨6, s, l, q, S, rfl, h.below hb, Nx.below hb, rfl, rfl, by omega, .large rfl rfl (by omega), Xt.refl l q⟩
set_option maxHeartbeats 1000000 in
theorem sameList_bool (xss yss : List (List Int)) (v v' : Value) (w : World) (h1 : LL w v xss) (h2 : LL w v' yss) (hn : xss.length ≤ 140737488355328) (hn2 : yss.length ≤ 140737488355328) :
    Calls Tryd.prog 16 #[v, v'] w fun e w' => ∃ b : Bool, e = .returned (.bool b) ∧ Below w.heap.size w w' := by
  by_cases hll : xss.length = yss.length
  · obtain ⟨ad, cap, rfl, -, hx⟩ := h1
    obtain ⟨ad', cap', rfl, -, hx'⟩ := h2
    have HX : Hid _ := hx
    have HX' : Hid _ := hx'
    clear hx hx'
    rw [← hll]
    go_enter Tryd.func16, Tryd.ntmps16
    go_wp2
    go_loopw [13] (fun i wr => ∃ k q : Nat, k ≤ xss.length ∧ i = .int .i64 (k : Int) ∧ wr = w.drewN q) (fun i _ => xss.length - (intOf i).toNat)
    case atStart => exact ⟨0, 0, Nat.zero_le _, rfl, rfl⟩
    case round =>
      obtain ⟨k, q, hk, rfl, rfl⟩ := hrel
      by_cases hlt : k < xss.length
      · rcases HX.out with ⟨rfl, _⟩ | ⟨b, o, rfl, hlb, hm⟩
        · simp at hlt
        · rcases HX'.out with ⟨h0, _⟩ | ⟨b', o', rfl, hlb', hm'⟩
          · have h00 : yss.length = 0 := by rw [h0]; rfl
            omega
          · obtain ⟨u, hc0, hu⟩ := hm k hlt
            obtain ⟨u', hc0', hu'⟩ := hm' k (by omega)
            have gk : (k : Int) < (xss.length : Int) := by omega
            have s1 : ∀ n, (convert 32 9 u).run Tryd.prog (w.drewN n) = .ok (.string (strOfNums (mi xss k))) (w.drewN n) := fun n => (hu.below (below_drewN (Below.refl _ _) n) (Nat.le_refl _)).str
            have s2 : ∀ n, (convert 32 9 u').run Tryd.prog (w.drewN n) = .ok (.string (strOfNums (mi yss k))) (w.drewN n) := fun n => (hu'.below (below_drewN (Below.refl _ _) n) (Nat.le_refl _)).str
            obtain ⟨S, hS⟩ : ∃ S, strOfNums (mi xss k) = S := ⟨_, rfl⟩
            obtain ⟨S', hS'⟩ : ∃ S', strOfNums (mi yss k) = S' := ⟨_, rfl⟩
            rw [hS] at s1
            rw [hS'] at s2
            clear hm hm' hu hu' hS hS'
            go_wp2
            go_quiet (fail)
            go_wp2
            all_goals first
              | exact ⟨⟨k + 1, q + nq, hlt, by go_num, by simp [World.drewN, Nat.add_assoc]⟩, by simp [intOf]; omega⟩
              | (go_ret; exact ⟨_, rfl, below_drewN (below_drewN (Below.refl _ _) _) _⟩)
      · go_wp2
        go_ret
        exact ⟨_, rfl, below_drewN (Below.refl _ _) q⟩
  · obtain ⟨ad, cap, rfl, -, hx⟩ := h1
    obtain ⟨ad', cap', rfl, -, hx'⟩ := h2
    clear hx hx'
    have hll' : ¬ ((xss.length : Int) = (yss.length : Int)) := by omega
    go_enter Tryd.func16, Tryd.ntmps16
    go_wp2
    go_ret
    exact ⟨_, rfl, Below.refl _ _⟩
theorem tear_byt {c : Int} {x y : List Int} (h : Byt x) (k : Byt y) : Byt (tear c x y) := by
  unfold tear
  split
  · exact k
  · split
    · exact (k.take 32).append (h.drop 32)
    · split
      · exact (h.take 32).append (k.drop 32)
      · exact h
theorem sbt_rsK {st : Nat → List Int} {wt : List (Nat × List Int)} (cs : List Int) (h : ∀ i, Byt (st i)) (k : ∀ p ∈ wt, Byt p.2) : ∀ n i, Byt (rsK st wt cs n i)
  | 0, i => h i
  | n + 1, i => by
    rw [rsK]
    cases hp : wt[n]? with
    | none => exact sbt_rsK cs h k n i
    | some p =>
      simp only [upd]
      split
      · exact tear_byt (sbt_rsK cs h k n _) (k p (List.mem_of_getElem? hp))
      · exact sbt_rsK cs h k n i
theorem sbt_rs {s : Dk} (h : Sbt s) (cs : List Int) : Sbt (rsS s cs) := ⟨fun i => sbt_rsK cs h.1 h.2 _ i, fun p hp => by cases hp⟩
/-- A disk alone, newer than B. -/
structure Pq (F : Nat → Prop) (B : Nat) (w0 w : World) (g : Nat) (s : Dk) : Prop where
  pd : PD F w g s
  bt : Sbt s
  tb : Tb w
  ap : Ap F
  lo : ∀ b, F b → B ≤ b
  bel : Below B w0 w
  bs : B ≤ w.heap.size
theorem open_pq {F : Nat → Prop} {B : Nat} {w0 w : World} {g : Nat} {s : Dk} {l : Lo} {q : Nat → Option (Nat × List (List Int))} (h : Pq F B w0 w g s) (hi : LI s l q) (hg : l.g = g) (hd' : s.dn = false) (hz : s.fz = none) (hw : s.wt = []) (v : Value) :
    Calls Tryd.prog 11 #[.pointer (some ⟨g, 0, none⟩), v] w fun e w' => ∃ lg', e = .returned (.tuple #[.pointer (some ⟨lg', 0, none⟩), .bool true]) ∧ ∃ S', Lg S' B w0 w' g s lg' l q ∧ Nx F w S' w' := by
  have hbw : Below w.heap.size w (w.alloc (lobj g)) := (Below.refl _ w).alloc (Nat.le_refl _) _
  refine opened_ok _ v w (fun lg' w' => ∃ S', Lg S' B w0 w' g s lg' l q ∧ Nx F w S' w') ?_
  refine (open_core h.pd hi.n64 hw hd' (fun w' => AftL (fun b => F b ∨ b = w.heap.size) (w.alloc (lobj g)) w' g s w.heap.size l) ((load_any ⟨F, _, _, _, WX.boxed h.pd h.bt h.tb h.ap⟩ q hi.hv).mono ?_)).mono ?_
  · rintro e w' ⟨rfl, L', h1, h2⟩
    have : L' = l := hi.loaded (by rw [hg]; exact h1)
    rw [this] at h2
    exact ⟨rfl, h2⟩
  · rintro e w' ⟨rfl, S', k1, k2, k3⟩
    have k3' : ∀ b, S' b → F b ∨ w.heap.size ≤ b := fun b x => (k3 b x).elim (fun y => y.elim .inl (fun z => .inr (by omega))) (fun y => .inr (Nat.le_trans hbw.size y))
    have k2' : Chg F w w' := (chg_of_below hbw).trans' k2 (fun b x => x.elim .inl (fun z => .inr (by omega)))
    exact ⟨_, rfl, S', ⟨k1, fun b x => (k3' b x).elim (h.lo b) (fun y => Nat.le_trans h.bs y), h.bel.trans (k2'.below h.bs h.lo), Nat.le_trans h.bs k2'.size, hi, hd', hz, hw⟩, ⟨k2', k3'⟩⟩
/-- A log in memory, its disk in whatever state. -/
structure Lw (S : Nat → Prop) (B : Nat) (w0 w : World) (g : Nat) (s : Dk) (lg : Nat) (l : Lo) : Prop where
  wl : WL S w g s lg l
  lo : ∀ b, S b → B ≤ b
  bel : Below B w0 w
  bs : B ≤ w.heap.size
theorem Lw.aft {S : Nat → Prop} {B : Nat} {w0 w w' : World} {g : Nat} {s s' : Dk} {lg : Nat} {l l' : Lo} (h : Lw S B w0 w g s lg l) (ha : AftL S w w' g s' lg l') : ∃ S', Lw S' B w0 w' g s' lg l' ∧ Nx S w S' w' := by
  obtain ⟨S', h1, h2, h3⟩ := ha
  exact ⟨S', ⟨h1, fun b x => (h3 b x).elim (h.lo b) (fun y => Nat.le_trans h.bs y), h.bel.trans (h2.below h.bs h.lo), Nat.le_trans h.bs h2.size⟩, ⟨h2, h3⟩⟩
theorem setFuse_lg {S : Nat → Prop} {B : Nat} {w0 w : World} {g : Nat} {s : Dk} {lg : Nat} {l : Lo} {q : Nat → Option (Nat × List (List Int))} (h : Lg S B w0 w g s lg l q) (n : Nat) (hn : n ≤ 1000) :
    Calls Tryd.prog 18 #[.pointer (some ⟨g, 0, none⟩), .int .i64 (n : Int)] w fun e w' => e = .returned (.tuple #[]) ∧ ∃ S', Lw S' B w0 w' g { s with fz := some n } lg l ∧ Nx S w S' w' := by
  obtain ⟨F, H, rv, us, hx⟩ := h.wl
  refine (setFuse_any hx.pd (n : Int) (by omega)).mono ?_
  rintro e w' ⟨rfl, ha⟩
  have e1 : fuseOf (n : Int) = some n := by unfold fuseOf; simp
  rw [e1] at ha
  obtain ⟨S', F', h1, h2, h3⟩ := hx.disk ha (show Sbt { s with fz := some n } from hx.bt)
  exact ⟨rfl, S', ⟨⟨F', H, rv, us, h1⟩, fun b x => (h3 b x).elim (h.lo b) (fun y => Nat.le_trans h.bs y), h.bel.trans (h2.below h.bs h.lo), Nat.le_trans h.bs h2.size⟩, ⟨h2, h3⟩⟩
theorem LayF.z {s s2 : Dk} {a : Nat} {p : List Int} {z : Int} (h : LayF s a p z s2) : z = 0 ∨ z = 9 := by
  cases h
  · exact .inl rfl
  · exact .inr rfl
  · exact .inr rfl
  · exact .inr rfl
/-- Checkpoint under a fuse: done, or lost at one of three stages. -/
theorem checkpoint_fz {S : Nat → Prop} {B : Nat} {w0 w : World} {g : Nat} {s : Dk} {lg n : Nat} {l : Lo} {q : Nat → Option (Nat × List (List Int))} (h : Lw S B w0 w g { s with fz := some n } lg l) (hi : LI s l q) (hS : Sby s) (hn2 : s.n ≤ 65536) (hd' : s.dn = false) (hfu : s.fu = false) (hw : s.wt = []) (ht : l.t + 1 < 18446744073709551616) (xss : List (List Int)) (v : Value) (hv : ∀ w', Chg S w w' → LL w' v xss) (hR : Rok xss) (hn : xss.length ≤ 999999998)
    (hf : hfF s.n (l.t + 1) + fl (JS xss) < hfT s.n (l.t + 1)) :
    Calls Tryd.prog 14 #[.pointer (some ⟨lg, 0, none⟩), v] w fun e w' => ∃ z s2 l2 S', e = .returned (.int .i64 z) ∧ Lw S' B w0 w' g s2 lg l2 ∧ Nx S w S' w' ∧ (z = 0 ∨ z = 9) ∧ LayF { s with fz := some n } (hfF s.n (l.t + 1)) (JN ((l.t + 1 : Nat) : Int) xss) z s2 := by
  have hen : l.t ≠ 0 → tk { s with fz := some n } l.en (hfT s.n l.t) = none := fun h0 => by
    obtain ⟨xs, ns, c1, c2, c3, c4, c5⟩ := hi.p h0
    exact (tk_cg (s := s) (s' := { s with fz := some n }) rfl (fun _ _ k _ => rfl)).trans c4
  have hle : l.en ≤ 65536 := by
    by_cases h0 : l.t = 0
    · rw [(hi.z h0).2.2.2]; omega
    · obtain ⟨f1, f2, f3⟩ := hi.front hS h0
      rcases hf_cases s.n l.t with ⟨_, _, c⟩ | ⟨_, _, c⟩ <;> omega
  have hPl : (JN ((l.t + 1 : Nat) : Int) xss).length = JS xss := jn_length _ xss _
  have hL := lay_fz (s := { s with fz := some n }) hd' hfu rfl hw (hfF s.n (l.t + 1)) (JN ((l.t + 1 : Nat) : Int) xss) (by rw [hPl]; show _ < s.n; rcases hf_cases s.n (l.t + 1) with ⟨_, c, d⟩ | ⟨_, c, d⟩ <;> omega)
  refine (checkpoint_any h.wl hi.lo hd' hi.e0 hi.e1 ht hle (by have := hi.rsl hS hn2; omega) hen xss v hv hR (by omega) (by show s.wt.length ≤ _; rw [hw]; simp)).mono ?_
  rintro e w' ⟨rfl, ha⟩
  have hE : (bgR { s with fz := some n } l xss).1 = (lay { s with fz := some n } (hfF s.n (l.t + 1) : Int) (JN ((l.t + 1 : Nat) : Int) xss)).1 ∧ (bgR { s with fz := some n } l xss).2.1 = (lay { s with fz := some n } (hfF s.n (l.t + 1) : Int) (JN ((l.t + 1 : Nat) : Int) xss)).2 := by
    unfold bgR
    rw [if_pos (show hfF ({ s with fz := some n } : Dk).n (l.t + 1) + fl (JS xss) < hfT ({ s with fz := some n } : Dk).n (l.t + 1) from hf)]
    split
    · rename_i hz; exact ⟨hz.symm, rfl⟩
    · exact ⟨rfl, rfl⟩
  rw [hE.2] at ha
  rw [hE.1]
  obtain ⟨S', a1, a2⟩ := h.aft ha
  exact ⟨_, _, _, S', rfl, a1, a2, hL.z, hL⟩
theorem restart_lw {S : Nat → Prop} {B : Nat} {w0 w : World} {g : Nat} {s : Dk} {lg : Nat} {l : Lo} (h : Lw S B w0 w g s lg l) (cs : List Int) (cv : Value) (hc : Sl w cv cs) (hF : ∀ b, cv.ownBlock = some b → cs ≠ [] → ¬ S b) (hcl : cs.length ≤ 140737488355328) :
    Calls Tryd.prog 20 #[.pointer (some ⟨g, 0, none⟩), cv] w fun e w' => e = .returned (.tuple #[]) ∧ ∃ F, Pq F B w0 w' g (rsS s cs) ∧ Nx S w F w' := by
  obtain ⟨F, H, rv, us, hx⟩ := h.wl
  have hapF : Ap F := ⟨fun x => hx.at'.1 (hx.sf _ x), fun x => hx.at'.2 (hx.sf _ x)⟩
  refine (restart_any hx.pd cs cv hc (fun b e hn x => hF b e hn (hx.sf b x)) hcl).mono ?_
  rintro e w' ⟨rfl, F', h1, h2, h3⟩
  have hc' : Chg S w w' := h2.mono hx.sf
  have hd3 : ∀ b, F' b → S b ∨ w.heap.size ≤ b := fun b x => (h3 b x).imp (hx.sf b) id
  exact ⟨rfl, F', ⟨h1, sbt_rs hx.bt cs, hx.tb.chg h2 hapF, hapF.next hx.tb h3, fun b x => (hd3 b x).elim (h.lo b) (fun y => Nat.le_trans h.bs y), h.bel.trans (hc'.below h.bs h.lo), Nat.le_trans h.bs hc'.size⟩, ⟨hc', hd3⟩⟩
end Go.Proofs.YthfpakjfdncphaaDoor
