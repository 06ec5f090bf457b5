/- Contracts of Floor, Ceil and Round of layer 1's reference. -/
import Derived.Test.YtjnlbgmfhomepaaDivs
namespace Go.Proofs.Ytjnlbgmfhomepaa.Num
open Go.RowKit
set_option linter.unusedVariables false

theorem quo_u64 (x y : Int) (hx : 0 ≤ x) (h : x ≤ 9223372036854775808) (hy : 0 < y) : IntKind.u64.wrap (x / y) = x / y := by
  have h1 := Int.ediv_nonneg hx (Int.le_of_lt hy)
  have h2 := Int.ediv_le_self y hx
  rw [IntKind.wrap_u64]; omega
theorem rem_u64 (x y : Int) (hx : 0 ≤ x) : x.tmod y = x % y := Int.tmod_eq_emod_of_nonneg hx
theorem retP {a b c d : Int} {x y : Bool} (h : a = b) (g : c = d) (l : x = y) : Ending.returned (.tuple #[.int .u64 a, .int .u64 c, .bool x]) = .returned (.tuple #[.int .u64 b, .int .u64 d, .bool y]) := by rw [h, g, l]

set_option maxRecDepth 100000 in
set_option maxHeartbeats 2000000 in
theorem parts_any (a b : Int) (w : World) (ha : okI a) (hb0 : okI b) (hb : b ≠ 0) :
    Calls Try.prog 30 #[.int .i64 a, .int .i64 b] w fun e w' => e = .returned (.tuple #[.int .u64 ((a.natAbs : Int) / (b.natAbs : Int)), .int .u64 ((a.natAbs : Int) % (b.natAbs : Int)), .bool (mi a b)]) ∧ Q w w' := by
  have hbn : 0 < (b.natAbs : Int) := by omega
  have hbz : (b.natAbs : Int) ≠ 0 := by omega
  unfold okI at ha hb0
  have hq := hid (quo_u64 (a.natAbs : Int) (b.natAbs : Int) (by omega) (by omega) hbn)
  have hr := hid (rem_u64 (a.natAbs : Int) (b.natAbs : Int) (by omega))
  rcases Int.lt_trichotomy a 0 with h | h | h <;> rcases Int.lt_trichotomy b 0 with g | g | g
  · have hm := hid (mi_no (a := a) (b := b) (by omega))
    have d1 : decide (a < 0) = true := decide_eq_true (by omega)
    have d2 : decide (0 < b) = false := decide_eq_false (by omega)
    have d3 : decide (0 < a) = false := decide_eq_false (by omega)
    have d4 : decide (b < 0) = true := decide_eq_true (by omega)
    go_enter Try.func30, Try.ntmps30
    go_wp2
    go_quiet ((go_at_call 32; exact quiet_same ⟨_, rfl⟩ (size_any _ _ (by omega) (by omega))))
    go_wp2
    go_ret3
    exact ⟨retP hq.out hr.out (by rw [hm.out]), Q.drewN (Q.refl _) _⟩
  · omega
  · have hm := hid (mi_yes (a := a) (b := b) (by omega))
    have d1 : decide (a < 0) = true := decide_eq_true (by omega)
    have d2 : decide (0 < b) = true := decide_eq_true (by omega)
    have d3 : decide (0 < a) = false := decide_eq_false (by omega)
    have d4 : decide (b < 0) = false := decide_eq_false (by omega)
    go_enter Try.func30, Try.ntmps30
    go_wp2
    go_quiet ((go_at_call 32; exact quiet_same ⟨_, rfl⟩ (size_any _ _ (by omega) (by omega))))
    go_wp2
    go_ret3
    exact ⟨retP hq.out hr.out (by rw [hm.out]), Q.drewN (Q.refl _) _⟩
  · have hm := hid (mi_no (a := a) (b := b) (by omega))
    have d1 : decide (a < 0) = false := decide_eq_false (by omega)
    have d2 : decide (0 < b) = false := decide_eq_false (by omega)
    have d3 : decide (0 < a) = false := decide_eq_false (by omega)
    have d4 : decide (b < 0) = true := decide_eq_true (by omega)
    have hz : a ≤ 0 ∧ 0 ≤ a := by omega
    clear h
    go_enter Try.func30, Try.ntmps30
    go_wp2
    go_quiet ((go_at_call 32; exact quiet_same ⟨_, rfl⟩ (size_any _ _ (by omega) (by omega))))
    go_wp2
    go_ret3
    exact ⟨retP hq.out hr.out (by rw [hm.out]), Q.drewN (Q.refl _) _⟩
  · omega
  · have hm := hid (mi_no (a := a) (b := b) (by omega))
    have d1 : decide (a < 0) = false := decide_eq_false (by omega)
    have d2 : decide (0 < b) = true := decide_eq_true (by omega)
    have d3 : decide (0 < a) = false := decide_eq_false (by omega)
    have d4 : decide (b < 0) = false := decide_eq_false (by omega)
    have hz : a ≤ 0 ∧ 0 ≤ a := by omega
    clear h
    go_enter Try.func30, Try.ntmps30
    go_wp2
    go_quiet ((go_at_call 32; exact quiet_same ⟨_, rfl⟩ (size_any _ _ (by omega) (by omega))))
    go_wp2
    go_ret3
    exact ⟨retP hq.out hr.out (by rw [hm.out]), Q.drewN (Q.refl _) _⟩
  · have hm := hid (mi_yes (a := a) (b := b) (by omega))
    have d1 : decide (a < 0) = false := decide_eq_false (by omega)
    have d2 : decide (0 < b) = false := decide_eq_false (by omega)
    have d3 : decide (0 < a) = true := decide_eq_true (by omega)
    have d4 : decide (b < 0) = true := decide_eq_true (by omega)
    go_enter Try.func30, Try.ntmps30
    go_wp2
    go_quiet ((go_at_call 32; exact quiet_same ⟨_, rfl⟩ (size_any _ _ (by omega) (by omega))))
    go_wp2
    go_ret3
    exact ⟨retP hq.out hr.out (by rw [hm.out]), Q.drewN (Q.refl _) _⟩
  · omega
  · have hm := hid (mi_no (a := a) (b := b) (by omega))
    have d1 : decide (a < 0) = false := decide_eq_false (by omega)
    have d2 : decide (0 < b) = true := decide_eq_true (by omega)
    have d3 : decide (0 < a) = true := decide_eq_true (by omega)
    have d4 : decide (b < 0) = false := decide_eq_false (by omega)
    go_enter Try.func30, Try.ntmps30
    go_wp2
    go_quiet ((go_at_call 32; exact quiet_same ⟨_, rfl⟩ (size_any _ _ (by omega) (by omega))))
    go_wp2
    go_ret3
    exact ⟨retP hq.out hr.out (by rw [hm.out]), Q.drewN (Q.refl _) _⟩

set_option maxRecDepth 100000 in
set_option maxHeartbeats 1000000 in
theorem rfloor_any (a b : Int) (w : World) (ha : okI a) (hb0 : okI b) :
    Calls Try.prog 14 #[.int .i64 a, .int .i64 b] w fun e w' => e = .returned (.tuple #[.int .i64 (qv b (fl a b)), .int .i64 (qe b (fl a b))]) ∧ Q w w' := by
  by_cases hb : b = 0
  · subst hb
    go_enter Try.func14, Try.ntmps14
    go_wp2
    go_ret2
    exact ⟨ret2 rfl rfl, Q.refl _⟩
  have g0 : (b == 0) = false := by rw [beq_eq_false_iff_ne]; exact hb
  rw [show qv b (fl a b) = rv (fl a b) from if_neg hb, show qe b (fl a b) = re (fl a b) from if_neg hb]
  obtain ⟨q, r, y, hq, hr, hy, q0, q1, r0, r1, y1⟩ := parts_all a b ha hb0 hb
  obtain ⟨p1, p2, p3⟩ := fl_parts a b q r hb hq hr
  have hc : ∀ w, Calls Try.prog 30 #[.int .i64 a, .int .i64 b] w fun e w' => e = .returned (.tuple #[.int .u64 q, .int .u64 r, .bool (mi a b)]) ∧ Q w w' := by
    rw [hq, hr]; exact fun w => parts_any a b w ha hb0 hb
  have hcy : ∀ w, Calls Try.prog 32 #[.int .i64 b] w fun e w' => e = .returned (.int .u64 y) ∧ w = w' := by
    rw [hy]; unfold okI at hb0; exact fun w => size_any b w hb0.1 hb0.2
  clear hq hr hy hb hb0 ha
  cases hm : mi a b
  all_goals rw [hm] at hc
  · have hf := hid (p1 hm)
    have cc := hid hc
    have cy := hid hcy
    clear hc hcy hm p1 p2 p3
    go_enter Try.func14, Try.ntmps14
    go_wp2_with fail
    refine (cc.out _).mono ?_
    rintro e w' ⟨rfl, n, rfl⟩
    go_wp2_with fail
    refine (rsigned_any _ false _ (by omega) (by omega)).mono ?_
    rintro e w' ⟨rfl, rfl⟩
    go_wp2_with fail
    go_ret2
    exact ⟨ret2 (by rw [hf.out]) (by rw [hf.out]), Q.drewN (Q.refl _) _⟩
  · by_cases h : 0 < r
    · have hf := hid (p3 hm h)
      have cc := hid hc
      have cy := hid hcy
      clear hc hcy hm p1 p2 p3
      go_enter Try.func14, Try.ntmps14
      go_wp2_with fail
      refine (cc.out _).mono ?_
      rintro e w' ⟨rfl, n, rfl⟩
      go_wp2_with fail
      refine (rsigned_any _ true _ (by omega) (by omega)).mono ?_
      rintro e w' ⟨rfl, rfl⟩
      go_wp2_with fail
      go_ret2
      exact ⟨ret2 (by rw [hf.out]) (by rw [hf.out]), Q.drewN (Q.refl _) _⟩
    · have hf := hid (p2 hm (by omega))
      have cc := hid hc
      have cy := hid hcy
      clear hc hcy hm p1 p2 p3
      go_enter Try.func14, Try.ntmps14
      go_wp2_with fail
      refine (cc.out _).mono ?_
      rintro e w' ⟨rfl, n, rfl⟩
      go_wp2_with fail
      refine (rsigned_any _ true _ (by omega) (by omega)).mono ?_
      rintro e w' ⟨rfl, rfl⟩
      go_wp2_with fail
      go_ret2
      exact ⟨ret2 (by rw [hf.out]) (by rw [hf.out]), Q.drewN (Q.refl _) _⟩

set_option maxRecDepth 100000 in
set_option maxHeartbeats 1000000 in
theorem rceil_any (a b : Int) (w : World) (ha : okI a) (hb0 : okI b) :
    Calls Try.prog 15 #[.int .i64 a, .int .i64 b] w fun e w' => e = .returned (.tuple #[.int .i64 (qv b (cl a b)), .int .i64 (qe b (cl a b))]) ∧ Q w w' := by
  by_cases hb : b = 0
  · subst hb
    go_enter Try.func15, Try.ntmps15
    go_wp2
    go_ret2
    exact ⟨ret2 rfl rfl, Q.refl _⟩
  have g0 : (b == 0) = false := by rw [beq_eq_false_iff_ne]; exact hb
  rw [show qv b (cl a b) = rv (cl a b) from if_neg hb, show qe b (cl a b) = re (cl a b) from if_neg hb]
  obtain ⟨q, r, y, hq, hr, hy, q0, q1, r0, r1, y1⟩ := parts_all a b ha hb0 hb
  obtain ⟨p1, p2, p3⟩ := cl_parts a b q r hb hq hr
  have hc : ∀ w, Calls Try.prog 30 #[.int .i64 a, .int .i64 b] w fun e w' => e = .returned (.tuple #[.int .u64 q, .int .u64 r, .bool (mi a b)]) ∧ Q w w' := by
    rw [hq, hr]; exact fun w => parts_any a b w ha hb0 hb
  have hcy : ∀ w, Calls Try.prog 32 #[.int .i64 b] w fun e w' => e = .returned (.int .u64 y) ∧ w = w' := by
    rw [hy]; unfold okI at hb0; exact fun w => size_any b w hb0.1 hb0.2
  clear hq hr hy hb hb0 ha
  cases hm : mi a b
  all_goals rw [hm] at hc
  · by_cases h : 0 < r
    · have hf := hid (p3 hm h)
      have cc := hid hc
      have cy := hid hcy
      clear hc hcy hm p1 p2 p3
      go_enter Try.func15, Try.ntmps15
      go_wp2_with fail
      refine (cc.out _).mono ?_
      rintro e w' ⟨rfl, n, rfl⟩
      go_wp2_with fail
      refine (rsigned_any _ false _ (by omega) (by omega)).mono ?_
      rintro e w' ⟨rfl, rfl⟩
      go_wp2_with fail
      go_ret2
      exact ⟨ret2 (by rw [hf.out]) (by rw [hf.out]), Q.drewN (Q.refl _) _⟩
    · have hf := hid (p2 hm (by omega))
      have cc := hid hc
      have cy := hid hcy
      clear hc hcy hm p1 p2 p3
      go_enter Try.func15, Try.ntmps15
      go_wp2_with fail
      refine (cc.out _).mono ?_
      rintro e w' ⟨rfl, n, rfl⟩
      go_wp2_with fail
      refine (rsigned_any _ false _ (by omega) (by omega)).mono ?_
      rintro e w' ⟨rfl, rfl⟩
      go_wp2_with fail
      go_ret2
      exact ⟨ret2 (by rw [hf.out]) (by rw [hf.out]), Q.drewN (Q.refl _) _⟩
  · have hf := hid (p1 hm)
    have cc := hid hc
    have cy := hid hcy
    clear hc hcy hm p1 p2 p3
    go_enter Try.func15, Try.ntmps15
    go_wp2_with fail
    refine (cc.out _).mono ?_
    rintro e w' ⟨rfl, n, rfl⟩
    go_wp2_with fail
    refine (rsigned_any _ true _ (by omega) (by omega)).mono ?_
    rintro e w' ⟨rfl, rfl⟩
    go_wp2_with fail
    go_ret2
    exact ⟨ret2 (by rw [hf.out]) (by rw [hf.out]), Q.drewN (Q.refl _) _⟩

set_option maxRecDepth 100000 in
set_option maxHeartbeats 1000000 in
theorem rround_any (a b : Int) (w : World) (ha : okI a) (hb0 : okI b) :
    Calls Try.prog 16 #[.int .i64 a, .int .i64 b] w fun e w' => e = .returned (.tuple #[.int .i64 (qv b (rd a b)), .int .i64 (qe b (rd a b))]) ∧ Q w w' := by
  by_cases hb : b = 0
  · subst hb
    go_enter Try.func16, Try.ntmps16
    go_wp2
    go_ret2
    exact ⟨ret2 rfl rfl, Q.refl _⟩
  have g0 : (b == 0) = false := by rw [beq_eq_false_iff_ne]; exact hb
  rw [show qv b (rd a b) = rv (rd a b) from if_neg hb, show qe b (rd a b) = re (rd a b) from if_neg hb]
  obtain ⟨q, r, y, hq, hr, hy, q0, q1, r0, r1, y1⟩ := parts_all a b ha hb0 hb
  obtain ⟨p1, p2, p3, p4⟩ := rd_parts a b q r y hb hq hr hy
  have hc : ∀ w, Calls Try.prog 30 #[.int .i64 a, .int .i64 b] w fun e w' => e = .returned (.tuple #[.int .u64 q, .int .u64 r, .bool (mi a b)]) ∧ Q w w' := by
    rw [hq, hr]; exact fun w => parts_any a b w ha hb0 hb
  have hcy : ∀ w, Calls Try.prog 32 #[.int .i64 b] w fun e w' => e = .returned (.int .u64 y) ∧ w = w' := by
    rw [hy]; unfold okI at hb0; exact fun w => size_any b w hb0.1 hb0.2
  clear hq hr hy hb hb0 ha
  cases hm : mi a b
  all_goals rw [hm] at hc
  · by_cases h : r < y - r
    · have hf := hid (p1 hm h)
      have he : (r == y - r) = false := by rw [beq_eq_false_iff_ne]; omega
      have hl : decide (y - r < r) = false := decide_eq_false (by omega)
      have cc := hid hc
      have cy := hid hcy
      clear hc hcy hm p1 p2 p3 p4
      go_enter Try.func16, Try.ntmps16
      go_wp2_with fail
      refine (cc.out _).mono ?_
      rintro e w' ⟨rfl, n, rfl⟩
      go_wp2_with fail
      refine (cy.out _).mono ?_
      rintro e w' ⟨rfl, rfl⟩
      go_wp2_with fail
      refine (rsigned_any _ false _ (by omega) (by omega)).mono ?_
      rintro e w' ⟨rfl, rfl⟩
      go_wp2_with fail
      go_ret2
      exact ⟨ret2 (by rw [hf.out]) (by rw [hf.out]), Q.drewN (Q.refl _) _⟩
    · by_cases h2 : y - r < r
      · have hf := hid (p2 hm (by omega))
        have hl : decide (y - r < r) = true := decide_eq_true (by omega)
        have cc := hid hc
        have cy := hid hcy
        clear hc hcy hm p1 p2 p3 p4 h
        go_enter Try.func16, Try.ntmps16
        go_wp2_with fail
        refine (cc.out _).mono ?_
        rintro e w' ⟨rfl, n, rfl⟩
        go_wp2_with fail
        refine (cy.out _).mono ?_
        rintro e w' ⟨rfl, rfl⟩
        go_wp2_with fail
        refine (rsigned_any _ false _ (by omega) (by omega)).mono ?_
        rintro e w' ⟨rfl, rfl⟩
        go_wp2_with fail
        go_ret2
        exact ⟨ret2 (by rw [hf.out]) (by rw [hf.out]), Q.drewN (Q.refl _) _⟩
      · have hf := hid (p2 hm (by omega))
        have he : (r == y - r) = true := by rw [beq_iff_eq]; omega
        have hl : decide (y - r < r) = false := decide_eq_false (by omega)
        have cc := hid hc
        have cy := hid hcy
        clear hc hcy hm p1 p2 p3 p4 h h2
        go_enter Try.func16, Try.ntmps16
        go_wp2_with fail
        refine (cc.out _).mono ?_
        rintro e w' ⟨rfl, n, rfl⟩
        go_wp2_with fail
        refine (cy.out _).mono ?_
        rintro e w' ⟨rfl, rfl⟩
        go_wp2_with fail
        refine (rsigned_any _ false _ (by omega) (by omega)).mono ?_
        rintro e w' ⟨rfl, rfl⟩
        go_wp2_with fail
        go_ret2
        exact ⟨ret2 (by rw [hf.out]) (by rw [hf.out]), Q.drewN (Q.refl _) _⟩
  · by_cases h : y - r < r
    · have hf := hid (p4 hm h)
      have hl : decide (y - r < r) = true := decide_eq_true (by omega)
      have cc := hid hc
      have cy := hid hcy
      clear hc hcy hm p1 p2 p3 p4
      go_enter Try.func16, Try.ntmps16
      go_wp2_with fail
      refine (cc.out _).mono ?_
      rintro e w' ⟨rfl, n, rfl⟩
      go_wp2_with fail
      refine (cy.out _).mono ?_
      rintro e w' ⟨rfl, rfl⟩
      go_wp2_with fail
      refine (rsigned_any _ true _ (by omega) (by omega)).mono ?_
      rintro e w' ⟨rfl, rfl⟩
      go_wp2_with fail
      go_ret2
      exact ⟨ret2 (by rw [hf.out]) (by rw [hf.out]), Q.drewN (Q.refl _) _⟩
    · by_cases h2 : r < y - r
      · have hf := hid (p3 hm (by omega))
        have he : (r == y - r) = false := by rw [beq_eq_false_iff_ne]; omega
        have hl : decide (y - r < r) = false := decide_eq_false (by omega)
        have cc := hid hc
        have cy := hid hcy
        clear hc hcy hm p1 p2 p3 p4 h
        go_enter Try.func16, Try.ntmps16
        go_wp2_with fail
        refine (cc.out _).mono ?_
        rintro e w' ⟨rfl, n, rfl⟩
        go_wp2_with fail
        refine (cy.out _).mono ?_
        rintro e w' ⟨rfl, rfl⟩
        go_wp2_with fail
        refine (rsigned_any _ true _ (by omega) (by omega)).mono ?_
        rintro e w' ⟨rfl, rfl⟩
        go_wp2_with fail
        go_ret2
        exact ⟨ret2 (by rw [hf.out]) (by rw [hf.out]), Q.drewN (Q.refl _) _⟩
      · have hf := hid (p3 hm (by omega))
        have he : (r == y - r) = true := by rw [beq_iff_eq]; omega
        have hl : decide (y - r < r) = false := decide_eq_false (by omega)
        have cc := hid hc
        have cy := hid hcy
        clear hc hcy hm p1 p2 p3 p4 h h2
        go_enter Try.func16, Try.ntmps16
        go_wp2_with fail
        refine (cc.out _).mono ?_
        rintro e w' ⟨rfl, n, rfl⟩
        go_wp2_with fail
        refine (cy.out _).mono ?_
        rintro e w' ⟨rfl, rfl⟩
        go_wp2_with fail
        refine (rsigned_any _ true _ (by omega) (by omega)).mono ?_
        rintro e w' ⟨rfl, rfl⟩
        go_wp2_with fail
        go_ret2
        exact ⟨ret2 (by rw [hf.out]) (by rw [hf.out]), Q.drewN (Q.refl _) _⟩
end Go.Proofs.Ytjnlbgmfhomepaa.Num
