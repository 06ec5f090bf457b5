/- Contract of squareOver of geom as it landed. -/
import Derived.Test.YtjdkgndecnhokaaECode8
import Derived.Test.YtjdkgndecnhokaaEDist3
import Derived.Test.YtjdkgndecnhokaaGcd
import Derived.Test.YtjdkgndecnhokaaMul
namespace Go.Proofs.Ytjdkgndecnhokaa.Geom
open Go.RowKit
open Go.Proofs.Ytjdkgndecnhokaa.Wire
set_option linter.unusedVariables false

theorem gcd_half (c n : Nat) : Nat.gcd (Nat.gcd c n) (n / Nat.gcd c n) = Nat.gcd c (n / Nat.gcd c n) := by
  rw [Nat.gcd_assoc, Nat.gcd_eq_right (Nat.div_dvd_of_dvd (Nat.gcd_dvd_right c n))]
theorem red_all (c N : Nat) (hN : 0 < N) :
    red (c : Int) (N : Int) = if (9223372036854775807 : Int) < ((c / Nat.gcd c N : Nat) : Int) * ((c / Nat.gcd c (N / Nat.gcd c N) : Nat) : Int) then ((c : Int) * (c : Int) / (N : Int), 1)
      else (((c / Nat.gcd c N : Nat) : Int) * ((c / Nat.gcd c (N / Nat.gcd c N) : Nat) : Int), ((N / Nat.gcd c N / Nat.gcd c (N / Nat.gcd c N) : Nat) : Int)) := by
  by_cases hc : 0 < c
  · obtain ⟨g, h, x, y, m, den, e1, e2, e3, e4, e5, e6, _, _, _, _, _, _, _, _, e⟩ := red_nat c N hc hN
    subst e1 e2 e3 e4 e5 e6
    have e3 : (c : Int) * (c : Int) / (N : Int) = ((c * c / N : Nat) : Int) := by rw [← Int.natCast_mul, ← Int.natCast_ediv]
    rw [e, e3]
  · obtain rfl : c = 0 := by omega
    have e1 : Nat.gcd 0 N = N := Nat.gcd_zero_left N
    have e2 : N / N = 1 := Nat.div_self hN
    simp only [e1, e2, Nat.zero_div]
    rfl
theorem sq_parts (n d : Int) (hd : 0 < d) : ∃ g h x y m den : Int, (Int.gcd n d : Int) = g ∧ d.tdiv g = m ∧ (Int.gcd g m : Int) = h ∧ n.tdiv g = x ∧ n.tdiv h = y ∧ m.tdiv h = den ∧
    0 < g ∧ 0 < h ∧ 0 < m ∧ g ≤ d ∧ m ≤ d ∧ h ≤ d ∧ 0 ≤ den ∧ den ≤ d ∧ (-n.natAbs ≤ x ∧ x ≤ n.natAbs) ∧ (-n.natAbs ≤ y ∧ y ≤ n.natAbs) ∧ 0 ≤ x * y ∧
    red (ab n) d = if (9223372036854775807 : Int) < x * y then (n * n / d, 1) else (x * y, den) := by
  obtain ⟨N, rfl⟩ : ∃ N : Nat, d = N := ⟨d.toNat, by omega⟩
  have hN : 0 < N := by omega
  obtain ⟨c, hc⟩ : ∃ c : Nat, n = c ∨ n = -(c : Int) := ⟨n.natAbs, by omega⟩
  have hab : ab n = (c : Int) := by unfold ab; split <;> omega
  have hna : n.natAbs = c := by omega
  have hgn : Int.gcd n (N : Int) = Nat.gcd c N := by show Nat.gcd n.natAbs N = _; rw [hna]
  have hr := red_all c N hN
  have hgh := gcd_half c N
  have g0 : 0 < Nat.gcd c N := Nat.gcd_pos_of_pos_right _ hN
  have gle : Nat.gcd c N ≤ N := Nat.le_of_dvd hN (Nat.gcd_dvd_right _ _)
  have m0 : 0 < N / Nat.gcd c N := Nat.div_pos gle g0
  have mle : N / Nat.gcd c N ≤ N := Nat.div_le_self _ _
  have h0 : 0 < Nat.gcd c (N / Nat.gcd c N) := Nat.gcd_pos_of_pos_right _ m0
  have hle : Nat.gcd c (N / Nat.gcd c N) ≤ N / Nat.gcd c N := Nat.le_of_dvd m0 (Nat.gcd_dvd_right _ _)
  rw [hgn, hab, hr, hna]
  generalize Nat.gcd c N = G at *
  generalize hM : N / G = M at *
  generalize Nat.gcd c M = H at *
  have dle : M / H ≤ M := Nat.div_le_self _ _
  have xle : c / G ≤ c := Nat.div_le_self _ _
  have yle : c / H ≤ c := Nat.div_le_self _ _
  have em : (N : Int).tdiv (G : Int) = (M : Int) := by rw [← hM]; exact (Int.ofNat_tdiv N G).symm
  have eh : (Int.gcd (G : Int) (M : Int) : Int) = (H : Int) := by rw [← hgh]; rfl
  have ed : (M : Int).tdiv (H : Int) = ((M / H : Nat) : Int) := (Int.ofNat_tdiv M H).symm
  have ex : (c : Int).tdiv (G : Int) = ((c / G : Nat) : Int) := (Int.ofNat_tdiv c G).symm
  have ey : (c : Int).tdiv (H : Int) = ((c / H : Nat) : Int) := (Int.ofNat_tdiv c H).symm
  have hnn : n * n = (c : Int) * (c : Int) := by rcases hc with rfl | rfl <;> grind
  rw [hnn]
  generalize c / G = X at *
  generalize c / H = Y at *
  generalize M / H = D at *
  have hxy := Int.mul_nonneg (show (0 : Int) ≤ (X : Int) by omega) (show (0 : Int) ≤ (Y : Int) by omega)
  rcases hc with rfl | rfl
  · exact ⟨G, H, X, Y, M, D, rfl, em, eh, ex, ey, ed, by omega, by omega, by omega, by omega, by omega, by omega, by omega, by omega, by omega, by omega, hxy, rfl⟩
  · have e : -(X : Int) * -(Y : Int) = (X : Int) * (Y : Int) := by grind
    refine ⟨G, H, -(X : Int), -(Y : Int), M, D, rfl, em, eh, by rw [Int.neg_tdiv, ex], by rw [Int.neg_tdiv, ey], ed, by omega, by omega, by omega, by omega, by omega, by omega, by omega, by omega, by omega, by omega, by rw [e]; exact hxy, by rw [e]⟩
end Go.Proofs.Ytjdkgndecnhokaa.Geom
