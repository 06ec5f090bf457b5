/- Plain mathematics for the division of 128 bits by 64 bits: one half step guesses the quotient of the upper digits and lowers it at most twice. No Go and no program in this text. -/
namespace Go.Proofs.Ytjdkgndecnhokaa.Num
set_option linter.unusedVariables false

/-- the premises of a half step: the divisor y1, y0 is normalized, the dividend u, c has a quotient of one digit -/
def Half (u y1 y0 c : Int) : Prop := 2147483648 ≤ y1 ∧ y1 < 4294967296 ∧ 0 ≤ y0 ∧ y0 < 4294967296 ∧ 0 ≤ c ∧ c < 4294967296 ∧ 0 ≤ u ∧ u < y1 * 4294967296 + y0
/-- the quotient of a half step -/
def hq (u y1 y0 c : Int) : Int := (u * 4294967296 + c) / (y1 * 4294967296 + y0)
/-- a guess q with its remainder r by y1, not less than the quotient -/
def Est (u y1 y0 c q r : Int) : Prop := u = q * y1 + r ∧ 0 ≤ q ∧ q ≤ 4294967297 ∧ 0 ≤ r ∧ hq u y1 y0 c ≤ q

theorem hq_le {u y1 y0 c q : Int} (h : Half u y1 y0 c) (g : u * 4294967296 + c < (q + 1) * (y1 * 4294967296 + y0)) : hq u y1 y0 c ≤ q := by
  have := (Int.ediv_lt_iff_lt_mul (a := u * 4294967296 + c) (b := q + 1) (c := y1 * 4294967296 + y0) (by unfold Half at h; omega)).2 g
  unfold hq; omega
theorem le_hq {u y1 y0 c q : Int} (h : Half u y1 y0 c) (g : q * (y1 * 4294967296 + y0) ≤ u * 4294967296 + c) : q ≤ hq u y1 y0 c :=
  (Int.le_ediv_iff_mul_le (by unfold Half at h; omega)).2 g
theorem hq_bd {u y1 y0 c : Int} (h : Half u y1 y0 c) : 0 ≤ hq u y1 y0 c ∧ hq u y1 y0 c ≤ 4294967295 := by
  refine ⟨le_hq h (by unfold Half at h; omega), hq_le h ?_⟩
  unfold Half at h; omega
theorem hq_rest {u y1 y0 c : Int} (h : Half u y1 y0 c) : 0 ≤ u * 4294967296 + c - hq u y1 y0 c * (y1 * 4294967296 + y0) ∧ u * 4294967296 + c - hq u y1 y0 c * (y1 * 4294967296 + y0) < y1 * 4294967296 + y0 := by
  have hp : 0 < y1 * 4294967296 + y0 := by unfold Half at h; omega
  have h1 := Int.mul_ediv_add_emod (u * 4294967296 + c) (y1 * 4294967296 + y0)
  have h2 := Int.emod_nonneg (u * 4294967296 + c) (b := y1 * 4294967296 + y0) (by omega)
  have h3 := Int.emod_lt_of_pos (u * 4294967296 + c) hp
  unfold hq
  rw [Int.mul_comm ((u * 4294967296 + c) / (y1 * 4294967296 + y0))]
  omega
theorem mul_split (q y1 y0 : Int) : q * (y1 * 4294967296 + y0) = q * y1 * 4294967296 + q * y0 := by rw [Int.mul_add, Int.mul_assoc]
/-- q * y0 where both have 32 bits -/
theorem digits (q y0 : Int) (h0 : 0 ≤ q) (h1 : q ≤ 4294967296) (g0 : 0 ≤ y0) (g1 : y0 ≤ 4294967295) : 0 ≤ q * y0 ∧ q * y0 ≤ 18446744069414584320 := by
  refine ⟨Int.mul_nonneg h0 g0, ?_⟩
  have := Int.mul_le_mul h1 g1 g0 (by omega)
  omega
theorem digits' (q y0 : Int) (h0 : 0 ≤ q) (h1 : q < 4294967296) (g0 : 0 ≤ y0) (g1 : y0 < 4294967296) : 0 ≤ q * y0 ∧ q * y0 ≤ 18446744065119617025 := by
  refine ⟨Int.mul_nonneg h0 g0, ?_⟩
  have := Int.mul_le_mul (a := q) (b := y0) (c := 4294967295) (d := 4294967295) (by omega) (by omega) g0 (by omega)
  omega

theorem est_start {u y1 y0 c : Int} (h : Half u y1 y0 c) : Est u y1 y0 c (u / y1) (u - u / y1 * y1) ∧ u - u / y1 * y1 < 4294967296 := by
  have hh := h
  obtain ⟨a1, a2, a3, a4, a5, a6, a7, a8⟩ := h
  have h1 := Int.mul_ediv_add_emod u y1
  have h2 := Int.emod_nonneg u (b := y1) (by omega)
  have h3 := Int.emod_lt_of_pos u (b := y1) (by omega)
  rw [Int.mul_comm] at h1
  refine ⟨⟨by omega, Int.ediv_nonneg a7 (by omega), ?_, by omega, ?_⟩, by omega⟩
  · have : u / y1 < 4294967298 := (Int.ediv_lt_iff_lt_mul (by omega)).2 (by omega)
    omega
  · refine hq_le hh ?_
    have h4 := Int.mul_nonneg (a := u / y1 + 1) (b := y0) (by have := Int.ediv_nonneg a7 (b := y1) (by omega); omega) a3
    rw [mul_split]
    have h5 : (u / y1 + 1) * y1 = u / y1 * y1 + y1 := by rw [Int.add_mul, Int.one_mul]
    rw [h5]
    omega
theorem est_step {u y1 y0 c q r : Int} (h : Half u y1 y0 c) (e : Est u y1 y0 c q r) (g : 4294967296 ≤ q ∨ 4294967296 * r + c < q * y0) : Est u y1 y0 c (q - 1) (r + y1) := by
  have hh := h
  obtain ⟨a1, a2, a3, a4, a5, a6, a7, a8⟩ := h
  obtain ⟨e1, e2, e3, e4, e5⟩ := e
  have hb := hq_bd hh
  have hpos : 1 ≤ q := by
    rcases g with g | g
    · omega
    · by_cases h0 : q = 0
      · subst h0; omega
      · omega
  have h1 : (q - 1) * y1 = q * y1 - y1 := by rw [Int.sub_mul, Int.one_mul]
  refine ⟨by omega, by omega, by omega, by omega, ?_⟩
  rcases g with g | g
  · omega
  · refine hq_le hh ?_
    rw [show q - 1 + 1 = q from by omega, mul_split]
    omega
theorem est_exit {u y1 y0 c q r : Int} (h : Half u y1 y0 c) (e : Est u y1 y0 c q r) (g : q * y0 ≤ 4294967296 * r + c) : q = hq u y1 y0 c := by
  obtain ⟨e1, e2, e3, e4, e5⟩ := e
  have := le_hq (q := q) h (by rw [mul_split]; omega)
  omega
theorem est_break {u y1 y0 c q r : Int} (h : Half u y1 y0 c) (e : Est u y1 y0 c q r) (g : q ≤ 4294967296) (k : 4294967296 ≤ r) : q = hq u y1 y0 c := by
  have hh := h
  obtain ⟨a1, a2, a3, a4, a5, a6, a7, a8⟩ := h
  have := digits q y0 e.2.1 g a3 (by omega)
  exact est_exit hh e (by omega)
end Go.Proofs.Ytjdkgndecnhokaa.Num
