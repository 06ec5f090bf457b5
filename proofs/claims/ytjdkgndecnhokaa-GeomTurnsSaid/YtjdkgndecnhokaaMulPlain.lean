/- Plain mathematics for MulDiv: the sign of a product divided by a number. No Go and no program in this text. -/
import Derived.Test.YtjdkgndecnhokaaPlain
namespace Go.Proofs.Ytjdkgndecnhokaa.Num
set_option linter.unusedVariables false

/-- is the quotient a * b / c below 0, by the signs alone? -/
def ng (a b c : Int) : Bool := !((!(decide (a < 0) == decide (b < 0))) == decide (c < 0))
theorem ng_iff (a b c : Int) : ng a b c = true ↔ ¬ ((¬ ((a < 0) ↔ (b < 0))) ↔ (c < 0)) := by
  unfold ng
  by_cases h1 : a < 0 <;> by_cases h2 : b < 0 <;> by_cases h3 : c < 0 <;> simp [h1, h2, h3]
theorem mi_ng (a b c : Int) (hc : c ≠ 0) (h : a * b ≠ 0) : mi (a * b) c = ng a b c := by
  have ha : a ≠ 0 := fun e => h (by rw [e, Int.zero_mul])
  have hb : b ≠ 0 := fun e => h (by rw [e, Int.mul_zero])
  have key : (a * b < 0 ↔ ¬ ((a < 0) ↔ (b < 0))) := by
    by_cases h1 : a < 0 <;> by_cases h2 : b < 0
    · have := Int.mul_pos_of_neg_of_neg h1 h2; simp [h1, h2]; omega
    · have := Int.mul_neg_of_neg_of_pos h1 (show 0 < b by omega); simp [h1, h2]; omega
    · have := Int.mul_neg_of_pos_of_neg (show 0 < a by omega) h2; simp [h1, h2]; omega
    · have := Int.mul_pos (show 0 < a by omega) (show 0 < b by omega); simp [h1, h2]; omega
  cases hn : ng a b c
  · apply mi_no
    intro hm
    have : ¬ (ng a b c = true) := by rw [hn]; simp
    rw [ng_iff, ← key] at this
    omega
  · apply mi_yes
    rw [ng_iff, ← key] at hn
    omega
/-- fl (a * b) c out of the parts of the absolute values and the three signs -/
theorem md_parts (a b c q r : Int) (hc : c ≠ 0) (hq : q = (a.natAbs : Int) * (b.natAbs : Int) / (c.natAbs : Int)) (hr : r = (a.natAbs : Int) * (b.natAbs : Int) % (c.natAbs : Int)) :
    (ng a b c = false → fl (a * b) c = sg q false) ∧ (ng a b c = true → r = 0 → fl (a * b) c = sg q true) ∧ (ng a b c = true → 0 < r → fl (a * b) c = sg (q + 1) true) ∧ (ng a b c = true → q = 0 → r = 0 → fl (a * b) c = sg q false) := by
  have e : ((a * b).natAbs : Int) = (a.natAbs : Int) * (b.natAbs : Int) := by rw [Int.natAbs_mul, Int.natCast_mul]
  rw [← e] at hq hr
  obtain ⟨p1, p2, p3⟩ := fl_parts (a * b) c q r hc hq hr
  by_cases h : a * b = 0
  · have hq0 : q = 0 := by rw [hq, h]; simp
    have hr0 : r = 0 := by rw [hr, h]; simp
    have hm : mi (a * b) c = false := mi_no (by omega)
    have := p1 hm
    subst hq0
    refine ⟨fun _ => this, fun _ _ => this, fun _ _ => by omega, fun _ _ _ => this⟩
  · have hm := mi_ng a b c hc h
    rw [hm] at p1 p2 p3
    refine ⟨p1, p2, p3, fun h1 h2 h3 => ?_⟩
    rw [p2 h1 h3, h2]
    rfl
theorem prod_bd (x y : Int) (hx0 : 0 ≤ x) (hx : x ≤ 9223372036854775808) (hy0 : 0 ≤ y) (hy : y ≤ 9223372036854775808) : 0 ≤ x * y ∧ x * y ≤ 85070591730234615865843651857942052864 := by
  refine ⟨Int.mul_nonneg hx0 hy0, ?_⟩
  have := Int.mul_le_mul hx hy hy0 (by omega)
  omega
/-- a quotient of 65 bits or more is no int -/
theorem md_over (a b c P z h l : Int) (hP : P = h * 18446744073709551616 + l) (hl : 0 ≤ l ∧ 0 < z) (hz : z ≤ h)
    (p1 : ng a b c = false → fl (a * b) c = sg (P / z) false) (p2 : ng a b c = true → P % z = 0 → fl (a * b) c = sg (P / z) true) (p3 : ng a b c = true → 0 < P % z → fl (a * b) c = sg (P / z + 1) true) :
    ¬ okI (fl (a * b) c) := by
  have hq : 18446744073709551616 ≤ P / z := (Int.le_ediv_iff_mul_le hl.2).2 (by omega)
  have hr := Int.emod_nonneg P (b := z) (by omega)
  cases hn : ng a b c
  · rw [p1 hn]
    exact no_pos (by omega)
  · by_cases h0 : P % z = 0
    · rw [p2 hn h0]
      exact no_neg (by omega)
    · rw [p3 hn (by omega)]
      exact no_neg (by omega)
end Go.Proofs.Ytjdkgndecnhokaa.Num
