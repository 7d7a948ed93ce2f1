/- Points over one divisor, and points taken many times. -/
import Derived.Test.YtnmgpkpdjpjbgaaDoorPoiN
namespace Go.Proofs.YtnmgpkpdjpjbgaaDoor
set_option linter.unusedVariables false
variable {K : Type} [Lean.Grind.CommRing K] {d : K} {inv : K → K}
/-- x / z, y / z, and t = x y / z. -/
structure E4 (K : Type) where
  x : K
  y : K
  z : K
  t : K
def Rep (P : E4 K) (p : Pt d) : Prop := P.z ≠ 0 ∧ P.x = p.x * P.z ∧ P.y = p.y * P.z ∧ P.t = p.x * p.y * P.z
def quoE (x xu y yu : K) : E4 K := ⟨x * yu, y * xu, xu * yu, x * y⟩
theorem rep_quo (F : Fld d inv) (p q : Pt d) {x xu y yu s : K} (hs : s ≠ 0) (hx : x = (p.x*q.y + q.x*p.y) * s) (hxu : xu = (1 + d*p.x*q.x*p.y*q.y) * s) (hy : y = (p.y*q.y + p.x*q.x) * s) (hyu : yu = (1 - d*p.x*q.x*p.y*q.y) * s) :
    Rep (quoE x xu y yu) (p.add F q) := by
  have ax := Pt.add_x F p q
  have ay := Pt.add_y F p q
  have n1 := F.plus_ne p.on q.on
  have n2 := F.minus_ne p.on q.on
  rw [← ax] at hx
  rw [← ay] at hy
  generalize p.add F q = r at *
  clear ax ay
  generalize d*p.x*q.x*p.y*q.y = e at *
  subst hx hxu hy hyu
  refine ⟨F.mul_ne (F.mul_ne n1 hs) (F.mul_ne n2 hs), ?_, ?_, ?_⟩ <;> simp only [quoE] <;> grind
def sumE (d : K) (a b : E4 K) : E4 K :=
  quoE ((a.y + a.x)*(b.y + b.x) - (a.y - a.x)*(b.y - b.x)) ((a.z*b.z + a.z*b.z) + (d*(a.t*b.t) + d*(a.t*b.t))) ((a.y + a.x)*(b.y + b.x) + (a.y - a.x)*(b.y - b.x)) ((a.z*b.z + a.z*b.z) - (d*(a.t*b.t) + d*(a.t*b.t)))
theorem rep_sum (F : Fld d inv) {a b : E4 K} {p q : Pt d} (ha : Rep a p) (hb : Rep b q) : Rep (sumE d a b) (p.add F q) := by
  obtain ⟨a1, a2, a3, a4⟩ := ha
  obtain ⟨b1, b2, b3, b4⟩ := hb
  refine rep_quo F p q (s := 2 * (a.z * b.z)) (F.mul_ne F.two (F.mul_ne a1 b1)) ?_ ?_ ?_ ?_ <;> grind
def dblE (a : E4 K) : E4 K :=
  quoE (a.x*a.y + a.x*a.y) (a.y*a.y - a.x*a.x) (a.y*a.y + a.x*a.x) ((a.z*a.z + a.z*a.z) - (a.y*a.y - a.x*a.x))
theorem rep_dbl (F : Fld d inv) {a : E4 K} {p : Pt d} (ha : Rep a p) : Rep (dblE a) (p.add F p) := by
  obtain ⟨a1, a2, a3, a4⟩ := ha
  have on := p.on
  unfold On at on
  refine rep_quo F p p (s := a.z * a.z) (F.mul_ne a1 a1) ?_ ?_ ?_ ?_ <;> grind
def mirE (a : E4 K) : E4 K := ⟨0 - a.x, a.y, a.z, 0 - a.t⟩
theorem rep_mir {a : E4 K} {p : Pt d} (ha : Rep a p) : Rep (mirE a) p.neg := by
  obtain ⟨a1, a2, a3, a4⟩ := ha
  refine ⟨a1, ?_, ?_, ?_⟩ <;> simp only [mirE, Pt.neg] <;> grind
def neuE : E4 K := ⟨0, 1, 1, 0⟩
theorem rep_neu (F : Fld d inv) : Rep (neuE : E4 K) (Pt.zero d) := by
  refine ⟨F.one, ?_, ?_, ?_⟩ <;> simp only [neuE, Pt.zero] <;> grind
def atE (x y : K) : E4 K := ⟨x, y, 1, x * y⟩
theorem rep_at (F : Fld d inv) (p : Pt d) : Rep (atE p.x p.y) p := by
  refine ⟨F.one, ?_, ?_, ?_⟩ <;> simp only [atE] <;> grind
/-- p taken n times. -/
def Pt.smul (F : Fld d inv) : Nat → Pt d → Pt d
  | 0, _ => Pt.zero d
  | n + 1, p => (Pt.smul F n p).add F p
theorem Pt.smul_one (F : Fld d inv) (p : Pt d) : p.smul F 1 = p := Pt.zero_add F p
theorem Pt.smul_two (F : Fld d inv) (p : Pt d) : p.smul F 2 = p.add F p := by
  show (p.smul F 1).add F p = _
  rw [Pt.smul_one]
theorem Pt.smul_add (F : Fld d inv) (p : Pt d) (m : Nat) : ∀ n, p.smul F (m + n) = (p.smul F m).add F (p.smul F n)
  | 0 => (Pt.add_zero F _).symm
  | n + 1 => by
    show (p.smul F (m + n)).add F p = _
    rw [Pt.smul_add F p m n, Pt.add_assoc]; rfl
theorem Pt.smul_mul (F : Fld d inv) (p : Pt d) (n : Nat) : ∀ m, p.smul F (m * n) = (p.smul F n).smul F m
  | 0 => by rw [Nat.zero_mul]; rfl
  | m + 1 => by
    rw [Nat.succ_mul, Pt.smul_add, Pt.smul_mul F p n m]; rfl
theorem Pt.smul_zero (F : Fld d inv) : ∀ n, (Pt.zero d).smul F n = Pt.zero d
  | 0 => rfl
  | n + 1 => by show ((Pt.zero d).smul F n).add F _ = _; rw [Pt.smul_zero F n, Pt.add_zero]
theorem Pt.dbl16 (F : Fld d inv) (p : Pt d) : p.smul F 16 = (((p.add F p).add F (p.add F p)).add F ((p.add F p).add F (p.add F p))).add F (((p.add F p).add F (p.add F p)).add F ((p.add F p).add F (p.add F p))) := by
  have h := Pt.smul_two F p
  have h4 : p.smul F 4 = (p.add F p).add F (p.add F p) := by rw [show (4 : Nat) = 2 + 2 from rfl, Pt.smul_add, h]
  have h8 : p.smul F 8 = ((p.add F p).add F (p.add F p)).add F ((p.add F p).add F (p.add F p)) := by rw [show (8 : Nat) = 4 + 4 from rfl, Pt.smul_add, h4]
  rw [show (16 : Nat) = 8 + 8 from rfl, Pt.smul_add, h8]
theorem Pt.dbl8 (F : Fld d inv) (p : Pt d) : p.smul F 8 = ((p.add F p).add F (p.add F p)).add F ((p.add F p).add F (p.add F p)) := by
  have h := Pt.smul_two F p
  have h4 : p.smul F 4 = (p.add F p).add F (p.add F p) := by rw [show (4 : Nat) = 2 + 2 from rfl, Pt.smul_add, h]
  rw [show (8 : Nat) = 4 + 4 from rfl, Pt.smul_add, h4]
/-- Two points of one divisor-free form are one. -/
theorem Rep.unique (F : Fld d inv) {a : E4 K} {p q : Pt d} (hp : Rep a p) (hq : Rep a q) : p = q := by
  obtain ⟨a1, a2, a3, a4⟩ := hp
  obtain ⟨b1, b2, b3, b4⟩ := hq
  exact Pt.ext' (F.cancel a1 (a2.symm.trans b2)) (F.cancel a1 (a3.symm.trans b3))
end Go.Proofs.YtnmgpkpdjpjbgaaDoor
