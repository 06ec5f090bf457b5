/- Contract of the reference of geom: Dist, of any points. -/
import Derived.Test.YtjdkgndecnhokaaEDist2
namespace Go.Proofs.Ytjdkgndecnhokaa.Geom
open Go.RowKit
open Go.Proofs.Ytjdkgndecnhokaa.Wire
set_option linter.unusedVariables false

/-- Cauchy and Schwarz: the squared distance is at most that of the end -/
theorem crs_sq (a b p : P) : crs a b a p * crs a b a p ≤ dt a b a b * dt a p a p := by
  rw [lag]
  have := sq_nn (dt a b a p)
  omega
theorem dt_bound {a b c d : P} (ha : Nr a) (hb : Nr b) (hc : Nr c) (hd : Nr d) : -35184372088832 ≤ dt a b c d ∧ dt a b c d ≤ 35184372088832 := by
  unfold Nr at *
  have p1 := prod_bound (u := b.1 - a.1) (v := d.1 - c.1) (by omega) (by omega) (by omega) (by omega)
  have p2 := prod_bound (u := b.2 - a.2) (v := d.2 - c.2) (by omega) (by omega) (by omega) (by omega)
  unfold dt
  omega
/-- the numbers of the middle case -/
theorem red_nat (c n : Nat) (hc : 0 < c) (hn : 0 < n) :
    ∃ g h x y m den : Nat, g = Nat.gcd c n ∧ m = n / g ∧ h = Nat.gcd c m ∧ x = c / g ∧ y = c / h ∧ den = m / h ∧ 0 < g ∧ 0 < h ∧ 0 < y ∧ 0 < x ∧ x ≤ c ∧ y ≤ c ∧ m ≤ n ∧ den ≤ n ∧
      red (c : Int) (n : Int) = if (9223372036854775807 : Int) < (x : Int) * (y : Int) then (((c * c / n : Nat) : Int), 1) else ((x : Int) * (y : Int), (den : Int)) := by
  refine ⟨_, _, _, _, _, _, rfl, rfl, rfl, rfl, rfl, rfl, ?_, ?_, ?_, ?_, ?_, ?_, ?_, ?_, ?_⟩
  · exact Nat.gcd_pos_of_pos_left _ hc
  · exact Nat.gcd_pos_of_pos_left _ hc
  · exact Nat.div_pos (Nat.le_of_dvd hc (Nat.gcd_dvd_left _ _)) (Nat.gcd_pos_of_pos_left _ hc)
  · exact Nat.div_pos (Nat.le_of_dvd hc (Nat.gcd_dvd_left _ _)) (Nat.gcd_pos_of_pos_left _ hc)
  · exact Nat.div_le_self _ _
  · exact Nat.div_le_self _ _
  · exact Nat.div_le_self _ _
  · exact Nat.le_trans (Nat.div_le_self _ _) (Nat.div_le_self _ _)
  · obtain ⟨r1, r2⟩ := red_parts c n hn
    have e0 : Int.gcd ((c : Int) * (c : Int)) (n : Int) = Nat.gcd (c * c) n := by
      have : ((c : Int) * (c : Int)) = ((c * c : Nat) : Int) := by simp
      rw [this]; rfl
    unfold red
    rw [if_neg (by omega), e0]
    have e1 : (c : Int) * (c : Int) / ((Nat.gcd (c * c) n : Nat) : Int) = ((c / Nat.gcd c n : Nat) : Int) * ((c / Nat.gcd c (n / Nat.gcd c n) : Nat) : Int) := by
      rw [← Int.natCast_mul, ← Int.natCast_ediv, r1, Int.natCast_mul]
    have e2 : (n : Int) / ((Nat.gcd (c * c) n : Nat) : Int) = ((n / Nat.gcd c n / Nat.gcd c (n / Nat.gcd c n) : Nat) : Int) := by rw [← Int.natCast_ediv, r2]
    have e3 : (c : Int) * (c : Int) / (n : Int) = ((c * c / n : Nat) : Int) := by rw [← Int.natCast_mul, ← Int.natCast_ediv]
    rw [e1, e2, e3]

theorem dis_mid {a b p : P} (hn : Nrs [a, b, p]) (h1 : ¬ dt a b a p ≤ 0) (h2 : ¬ dt a b a b ≤ dt a b a p) : dis a b p = red (ab (crs a b a p)) (dt a b a b) := by
  rw [dis_near hn, if_neg h1, if_neg h2]
set_option maxHeartbeats 2000000 in
theorem RDist_any (a b p : P) (w : World) :
    Calls Try.prog 25 #[.agg #[.int .i64 a.1, .int .i64 a.2], .agg #[.int .i64 b.1, .int .i64 b.2], .agg #[.int .i64 p.1, .int .i64 p.2]] w (DisOut w (dis a b p)) := by
  by_cases hn : Nrs [a, b, p]
  · obtain ⟨ha, hb, hp⟩ := nrs3.1 hn
    have n1 := fun w' T g hg => RNear3 a b p w' T g hg
    rw [decide_eq_true hn] at n1
    have N1 := hid n1
    have C1 := hid (fun w' => RDot_any a b a b w' ha hb ha hb)
    have C2 := hid (fun w' => RDot_any a b a p w' ha hb ha hp)
    by_cases h1 : dt a b a p ≤ 0
    · exact dist_before w _ _ _ a.1 a.2 b.1 b.2 p.1 p.2 N1 C1 C2 _ h1 (hid (fun w' => RDot_any a p a p w' ha hp ha hp)) (hid (fun w' => DisOut.mk' (by rw [dis_near hn, if_pos h1])))
    · by_cases h2 : dt a b a b ≤ dt a b a p
      · exact dist_behind w _ _ _ a.1 a.2 b.1 b.2 p.1 p.2 N1 C1 C2 _ (by omega) h2 (hid (fun w' => RDot_any b p b p w' hb hp hb hp)) (hid (fun w' => DisOut.mk' (by rw [dis_near hn, if_neg h1, if_pos h2])))
      · have hm := dis_mid hn h1 h2
        have C3 := fun w' => RCross_any a b a p w' ha hb ha hp
        by_cases hY : crs a b a p = 0
        · rw [hY] at C3 hm
          exact dist_line w _ _ _ a.1 a.2 b.1 b.2 p.1 p.2 N1 C1 C2 (by omega) (by omega) (hid C3) (hid (fun w' => DisOut.mk' (by rw [hm]; rfl)))
        · have bY := crs_bound ha hb ha hp
          have bN := dt_bound ha hb ha hb
          have bV := dt_bound ha hp ha hp
          have cs := crs_sq a b p
          obtain ⟨c, hc⟩ : ∃ c : Nat, (c : Int) = ab (crs a b a p) := ⟨(ab (crs a b a p)).toNat, by unfold ab; split <;> omega⟩
          obtain ⟨n, hnn⟩ : ∃ n : Nat, dt a b a b = (n : Int) := ⟨(dt a b a b).toNat, by omega⟩
          have c0 : 0 < c := by unfold ab at hc; split at hc <;> omega
          have c1 : c ≤ 35184372088832 := by unfold ab at hc; split at hc <;> omega
          have n0 : 0 < n := by omega
          have hcc : (c : Int) * (c : Int) = crs a b a p * crs a b a p := by
            rw [hc]; unfold ab; split
            · rw [Int.neg_mul_neg]
            · rfl
          have hR : c * c / n ≤ 70368744177664 := by
            rw [← hcc, hnn] at cs
            have hv := dt_nn a p
            obtain ⟨v, hv2⟩ : ∃ v : Nat, dt a p a p = (v : Int) := ⟨(dt a p a p).toNat, by omega⟩
            rw [hv2] at cs
            have : c * c ≤ n * v := by
              have := cs
              rw [← Int.natCast_mul, ← Int.natCast_mul] at this
              exact Int.ofNat_le.1 this
            refine Nat.le_trans (Nat.div_le_of_le_mul this) ?_
            omega
          rw [← hc, hnn] at hm
          obtain ⟨g, h, x, y, m, den, rg, rm, rh, rx, ry, rd, g0, hh0, y0, x0, xc, yc, mn, dn, hred⟩ := red_nat c n c0 n0
          rw [hred] at hm
          have ex : (c : Int) / (g : Int) = (x : Int) := by rw [rx]; simp
          have ey : (c : Int) / (h : Int) = (y : Int) := by rw [ry]; simp
          have em : (n : Int) / (g : Int) = (m : Int) := by rw [rm]; simp
          have ed : (m : Int) / (h : Int) = (den : Int) := by rw [rd]; simp
          have G1 := fun w' => RGcd8_any c n w' (by omega) (by omega)
          have G2 := fun w' => RGcd8_any c m w' (by omega) (by omega)
          rw [← rg] at G1
          rw [← rh] at G2
          have SQ := fun w' => RSquare_any c n (c * c / n) w' (by omega) n0 (by omega) rfl hR
          have hov : (9223372036854775807 : Int) / (y : Int) < (x : Int) ↔ (9223372036854775807 : Int) < (x : Int) * (y : Int) := Int.ediv_lt_iff_lt_mul (by omega)
          have hs : crs a b a p = (c : Int) ∨ crs a b a p = -(c : Int) := by unfold ab at hc; split at hc <;> omega
          by_cases ho : (9223372036854775807 : Int) < (x : Int) * (y : Int)
          · rw [if_pos ho] at hm
            rcases hs with hs | hs
            · rw [hs] at C3
              exact dist_midp1 w _ _ _ a.1 a.2 b.1 b.2 p.1 p.2 N1 C1 C2 n c g h x y m den _ hnn (by omega) (by omega) c0 c1 (by omega) g0 hh0 (by omega) y0 (by omega) (by omega) (by omega) ex ey em ed _ rfl (hid C3) (hid G1) (hid G2) (hid SQ) (hov.2 ho) (hid (fun w' => DisOut.mk' hm))
            · rw [hs] at C3
              exact dist_midn1 w _ _ _ a.1 a.2 b.1 b.2 p.1 p.2 N1 C1 C2 n c g h x y m den _ hnn (by omega) (by omega) c0 c1 (by omega) g0 hh0 (by omega) y0 (by omega) (by omega) (by omega) ex ey em ed _ rfl (hid C3) (hid G1) (hid G2) (hid SQ) (hov.2 ho) (hid (fun w' => DisOut.mk' hm))
          · rw [if_neg ho] at hm
            have hov' : (x : Int) ≤ (9223372036854775807 : Int) / (y : Int) := by
              apply Classical.byContradiction
              intro k
              exact ho (hov.1 (by omega))
            have pb0 : 0 ≤ (x : Int) * (y : Int) := Int.mul_nonneg (by omega) (by omega)
            rcases hs with hs | hs
            · rw [hs] at C3
              exact dist_midp0 w _ _ _ a.1 a.2 b.1 b.2 p.1 p.2 N1 C1 C2 n c g h x y m den _ hnn (by omega) (by omega) c0 c1 (by omega) g0 hh0 (by omega) y0 (by omega) (by omega) (by omega) ex ey em ed _ rfl (hid C3) (hid G1) (hid G2) (hid SQ) hov' (by omega) pb0 (hid (fun w' => DisOut.mk' hm))
            · rw [hs] at C3
              exact dist_midn0 w _ _ _ a.1 a.2 b.1 b.2 p.1 p.2 N1 C1 C2 n c g h x y m den _ hnn (by omega) (by omega) c0 c1 (by omega) g0 hh0 (by omega) y0 (by omega) (by omega) (by omega) ex ey em ed _ rfl (hid C3) (hid G1) (hid G2) (hid SQ) hov' (by omega) pb0 (hid (fun w' => DisOut.mk' hm))
  · exact dist_far a b p w hn
end Go.Proofs.Ytjdkgndecnhokaa.Geom
