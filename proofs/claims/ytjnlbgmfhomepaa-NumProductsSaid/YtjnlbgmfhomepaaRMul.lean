/- The contract of the reference's MulDiv. -/
import Derived.Test.YtjnlbgmfhomepaaProd
namespace Go.Proofs.Ytjnlbgmfhomepaa.Num
open Go.RowKit
set_option linter.unusedVariables false

theorem md_over2 (a b c q r : Int) (hq : 9223372036854775808 < q) (hr : 0 ≤ r)
    (p1 : ng a b c = false → fl (a * b) c = sg q false) (p2 : ng a b c = true → r = 0 → fl (a * b) c = sg q true) (p3 : ng a b c = true → 0 < r → fl (a * b) c = sg (q + 1) true) :
    ¬ okI (fl (a * b) c) := by
  cases hn : ng a b c
  · rw [p1 hn]
    exact no_pos (by omega)
  · by_cases h0 : r = 0
    · rw [p2 hn h0]
      exact no_neg (by omega)
    · rw [p3 hn (by omega)]
      exact no_neg (by omega)

set_option maxRecDepth 100000 in
set_option maxHeartbeats 1000000 in
theorem rmuldiv_any (a b c : Int) (w : World) (ha : okI a) (hb : okI b) (hc : okI c) :
    Calls Try.prog 21 #[.int .i64 a, .int .i64 b, .int .i64 c] w fun e w' => e = .returned (.tuple #[.int .i64 (qv c (fl (a * b) c)), .int .i64 (qe c (fl (a * b) c))]) ∧ Q w w' := by
  by_cases hz : c = 0
  · subst hz
    go_enter Try.func21, Try.ntmps21
    go_wp2
    go_ret2
    exact ⟨ret2 rfl rfl, Q.refl _⟩
  rw [show qv c (fl (a * b) c) = rv (fl (a * b) c) from if_neg hz, show qe c (fl (a * b) c) = re (fl (a * b) c) from if_neg hz]
  have g0 : (c == 0) = false := by rw [beq_eq_false_iff_ne]; exact hz
  unfold okI at ha hb hc
  obtain ⟨x, hx⟩ : ∃ x : Int, x = (a.natAbs : Int) := ⟨_, rfl⟩
  obtain ⟨y, hy⟩ : ∃ x : Int, x = (b.natAbs : Int) := ⟨_, rfl⟩
  obtain ⟨z, hz'⟩ : ∃ x : Int, x = (c.natAbs : Int) := ⟨_, rfl⟩
  have cx : ∀ w, Calls Try.prog 32 #[.int .i64 a] w fun e w' => e = .returned (.int .u64 x) ∧ w = w' := by rw [hx]; exact fun w => size_any a w ha.1 ha.2
  have cy : ∀ w, Calls Try.prog 32 #[.int .i64 b] w fun e w' => e = .returned (.int .u64 y) ∧ w = w' := by rw [hy]; exact fun w => size_any b w hb.1 hb.2
  have cz : ∀ w, Calls Try.prog 32 #[.int .i64 c] w fun e w' => e = .returned (.int .u64 z) ∧ w = w' := by rw [hz']; exact fun w => size_any c w hc.1 hc.2
  obtain ⟨p1, p2, p3, p4⟩ := md_parts a b c _ _ hz rfl rfl
  rw [← hx, ← hy, ← hz'] at p1 p2 p3 p4
  have x0 : 0 ≤ x ∧ x ≤ 9223372036854775808 := by omega
  have y0 : 0 ≤ y ∧ y ≤ 9223372036854775808 := by omega
  have z0 : 0 < z ∧ z ≤ 9223372036854775808 := by omega
  clear hx hy hz' hz ha hb hc
  obtain ⟨b0, b1⟩ := prod_bd x y x0.1 x0.2 y0.1 y0.2
  have hcx := hid cx
  have hcy := hid cy
  have hcz := hid cz
  clear cx cy cz
  have q0 : 0 ≤ x * y / z := Int.ediv_nonneg b0 (by omega)
  have r0 : 0 ≤ x * y % z := Int.emod_nonneg _ (by omega)
  have hp1 := hid p1
  have hp2 := hid p2
  have hp3 := hid p3
  have hp4 := hid p4
  clear p1 p2 p3 p4 b0 b1
  have hq0 := hid q0
  have hr0 := hid r0
  clear q0 r0
  go_enter Try.func21, Try.ntmps21
  go_wp2_with fail
  refine (hcx.out _).mono ?_
  rintro e w' ⟨rfl, rfl⟩
  go_wp2_with fail
  refine (hcy.out _).mono ?_
  rintro e w' ⟨rfl, rfl⟩
  go_wp2_with fail
  refine (hcz.out _).mono ?_
  rintro e w' ⟨rfl, rfl⟩
  go_wp2_with fail
  refine (product_any x y z _ x0.1 x0.2 y0.1 y0.2 (by omega) z0.2).mono ?_
  rintro e w' ⟨q, r, k, rfl, hpf, n, rfl⟩
  rcases hpf with ⟨rfl, hq, hr, hqb⟩ | ⟨rfl, ho⟩
  · have q0 : 0 ≤ q := by rw [hq]; exact hq0.out
    have r0 : 0 ≤ r := by rw [hr]; exact hr0.out
    have p1 := hp1.out
    have p2 := hp2.out
    have p3 := hp3.out
    have p4 := hp4.out
    rw [← hq] at p1 p2 p3 p4
    rw [← hr] at p2 p3 p4
    clear hq hr hp1 hp2 hp3 hp4 hq0 hr0
    cases hn : ng a b c
    · have hf := hid (p1 hn)
      clear p1 p2 p3 p4
      unfold ng at hn
      go_wp2_with fail
      refine (rsigned_any _ false _ (by omega) (by omega)).mono ?_
      rintro e w' ⟨rfl, rfl⟩
      go_wp2_with fail
      go_ret2
      exact ⟨ret2 (by rw [hf.out]) (by rw [hf.out]), Q.drewN (Q.refl _) _⟩
    · by_cases h : 0 < r
      · have hf := hid (p3 hn h)
        have hg3 : decide (0 < q + 1) = true := decide_eq_true (by omega)
        clear p1 p2 p3 p4
        unfold ng at hn
        go_wp2_with fail
        refine (rsigned_any _ true _ (by omega) (by omega)).mono ?_
        rintro e w' ⟨rfl, rfl⟩
        go_wp2_with fail
        go_ret2
        exact ⟨ret2 (by rw [hf.out]) (by rw [hf.out]), Q.drewN (Q.refl _) _⟩
      · by_cases h2 : 0 < q
        · have hf := hid (p2 hn (by omega))
          have hg3 : decide (0 < q) = true := decide_eq_true h2
          have hg : decide (0 < r) = false := decide_eq_false h
          clear p1 p2 p3 p4
          unfold ng at hn
          go_wp2_with fail
          refine (rsigned_any _ true _ (by omega) (by omega)).mono ?_
          rintro e w' ⟨rfl, rfl⟩
          go_wp2_with fail
          go_ret2
          exact ⟨ret2 (by rw [hf.out]) (by rw [hf.out]), Q.drewN (Q.refl _) _⟩
        · have hf := hid (p4 hn (by omega) (by omega))
          have hg : decide (0 < r) = false := decide_eq_false h
          have hg2 : decide (0 < q) = false := decide_eq_false h2
          clear p1 p2 p3 p4
          unfold ng at hn
          go_wp2_with fail
          refine (rsigned_any _ false _ (by omega) (by omega)).mono ?_
          rintro e w' ⟨rfl, rfl⟩
          go_wp2_with fail
          go_ret2
          exact ⟨ret2 (by rw [hf.out]) (by rw [hf.out]), Q.drewN (Q.refl _) _⟩
  · have hf := hid (md_over2 a b c _ _ ho hr0.out hp1.out hp2.out hp3.out)
    clear ho hp1 hp2 hp3 hp4 hq0 hr0
    go_wp2
    go_ret2
    exact ⟨ret2 (by rw [rv_no hf.out]) (by rw [re_no hf.out]), Q.drewN (Q.refl _) _⟩
end Go.Proofs.Ytjnlbgmfhomepaa.Num
