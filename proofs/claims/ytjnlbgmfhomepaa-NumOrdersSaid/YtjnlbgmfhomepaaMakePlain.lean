/- Plain mathematics for fractions: the reduced fraction of two numbers. No Go and no program in this text. -/
import Derived.Test.YtjnlbgmfhomepaaPlain
namespace Go.Proofs.Ytjnlbgmfhomepaa.Num
set_option linter.unusedVariables false

/-- are the signs different? -/
def df (a b : Int) : Bool := !(decide (a < 0) == decide (b < 0))
/-- numerator and denominator of the reduced fraction of a / b, for b not 0 -/
def fn (a b : Int) : Int := sg ((a.natAbs : Int) / (Int.gcd a b : Int)) (df a b)
def fd (a b : Int) : Int := (b.natAbs : Int) / (Int.gcd a b : Int)
/-- what Make returns -/
def mkN (a b : Int) : Int := if b = 0 then 0 else if okI (fn a b) ∧ okI (fd a b) then fn a b else 0
def mkD (a b : Int) : Int := if b = 0 then 0 else if okI (fn a b) ∧ okI (fd a b) then fd a b else 0
def mkE (a b : Int) : Int := if b = 0 then 21 else if okI (fn a b) ∧ okI (fd a b) then 0 else 15
theorem mk_ok {a b : Int} (hb : b ≠ 0) (h1 : okI (fn a b)) (h2 : okI (fd a b)) : mkN a b = fn a b ∧ mkD a b = fd a b ∧ mkE a b = 0 := by
  unfold mkN mkD mkE
  rw [if_neg hb, if_neg hb, if_neg hb, if_pos ⟨h1, h2⟩, if_pos ⟨h1, h2⟩, if_pos ⟨h1, h2⟩]
  exact ⟨rfl, rfl, rfl⟩
theorem mk_no {a b : Int} (hb : b ≠ 0) (h : ¬ (okI (fn a b) ∧ okI (fd a b))) : mkN a b = 0 ∧ mkD a b = 0 ∧ mkE a b = 15 := by
  unfold mkN mkD mkE
  rw [if_neg hb, if_neg hb, if_neg hb, if_neg h, if_neg h, if_neg h]
  exact ⟨rfl, rfl, rfl⟩
theorem gcd_pos (a b : Int) (hb : b ≠ 0) : 0 < (Int.gcd a b : Int) := by
  have : 0 < Int.gcd a b := Nat.gcd_pos_of_pos_right _ (by omega)
  omega
/-- all that the walks need of the parts of a fraction -/
theorem mk_parts (a b : Int) (ha : okI a) (hb0 : okI b) (hb : b ≠ 0) : ∃ u v g p q : Int, u = (a.natAbs : Int) ∧ v = (b.natAbs : Int) ∧ g = (Int.gcd a b : Int) ∧ p = u / g ∧ q = v / g ∧
    0 ≤ u ∧ u ≤ 9223372036854775808 ∧ 0 < v ∧ v ≤ 9223372036854775808 ∧ 0 < g ∧ g ≤ 9223372036854775808 ∧ 0 ≤ p ∧ p ≤ 9223372036854775808 ∧ 0 ≤ q ∧ q ≤ 9223372036854775808 := by
  refine ⟨_, _, _, _, _, rfl, rfl, rfl, rfl, rfl, ?_⟩
  have hg := gcd_pos a b hb
  have h1 := Int.ediv_nonneg (a := (a.natAbs : Int)) (by omega) (Int.le_of_lt hg)
  have h2 := Int.ediv_le_self (a := (a.natAbs : Int)) (Int.gcd a b : Int) (by omega)
  have h3 := Int.ediv_nonneg (a := (b.natAbs : Int)) (by omega) (Int.le_of_lt hg)
  have h4 := Int.ediv_le_self (a := (b.natAbs : Int)) (Int.gcd a b : Int) (by omega)
  have h5 : Int.gcd a b ≤ b.natAbs := Nat.gcd_le_right _ (by omega)
  unfold okI at ha hb0
  omega
theorem fn_zero (b : Int) (hb : b ≠ 0) : fn 0 b = 0 := by
  unfold fn sg
  cases df 0 b <;> simp
end Go.Proofs.Ytjnlbgmfhomepaa.Num
