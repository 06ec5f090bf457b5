/- Contract of squareOver of geom as it landed: the walk. -/
import Derived.Test.YtjdkgndecnhokaaECode9
namespace Go.Proofs.Ytjdkgndecnhokaa.Geom
open Go.RowKit
open Go.Proofs.Ytjdkgndecnhokaa.Wire
set_option linter.unusedVariables false

set_option maxHeartbeats 4000000 in
theorem sq_ok (n d g h x y m den z : Int) (w : World) (g0 : 0 < g) (h0 : 0 < h) (bm : 0 < m ∧ m ≤ 70368744177664) (bx : -70368744177664 ≤ x ∧ x ≤ 70368744177664) (by' : -70368744177664 ≤ y ∧ y ≤ 70368744177664) (bd : 0 ≤ den ∧ den ≤ 70368744177664) (eg : d.tdiv g = m) (ex : n.tdiv g = x) (ey : n.tdiv h = y) (ed : m.tdiv h = den)
    (G1 : Hid (∀ w', Calls Try.prog 49 #[.int .i64 n, .int .i64 d] w' fun e w'' => e = .returned (.int .i64 g) ∧ Num.Q w' w''))
    (G2 : Hid (∀ w', Calls Try.prog 49 #[.int .i64 g, .int .i64 m] w' fun e w'' => e = .returned (.int .i64 h) ∧ Num.Q w' w''))
    (M1 : Hid (∀ w', Calls Try.prog 50 #[.int .i64 x, .int .i64 y, .int .i64 1] w' fun e w'' => e = .returned (.tuple #[.int .i64 z, .int .i64 0]) ∧ Num.Q w' w'')) :
    Calls Try.prog 44 #[.int .i64 n, .int .i64 d] w (DisOut w (z, den)) := by
  obtain ⟨bm1, bm2⟩ := bm
  obtain ⟨bx1, bx2⟩ := bx
  obtain ⟨by1, by2⟩ := by'
  obtain ⟨bd1, bd2⟩ := bd
  have wx : IntKind.i64.wrap x = x := by rw [IntKind.wrap_i64]; omega
  have wy : IntKind.i64.wrap y = y := by rw [IntKind.wrap_i64]; omega
  have i1 : ¬ g = 0 := by omega
  have t1 : (g == 0) = false := beq_eq_false_iff_ne.2 i1
  have i2 : ¬ h = 0 := by omega
  have t2 : (h == 0) = false := beq_eq_false_iff_ne.2 i2
  go_enter Try.func44, Try.ntmps44
  go_wp2_with fail
  refine (G1.out _).mono ?_
  rintro e w1 ⟨rfl, q1⟩
  have B1 : Bl w w1 := ((Bl.refl w).alloc _).q q1
  have X1 : BY w1 w.heap.size 0 0 := (BY.new rfl).bl (Q.bl q1)
  clear q1
  go_wp2_with fail
  refine (G2.out _).mono ?_
  rintro e w2 ⟨rfl, q2⟩
  have B2 : Bl w w2 := B1.q q2
  have X2 : BY w2 w.heap.size 0 0 := X1.bl (Q.bl q2)
  clear q2 B1 X1
  go_wp2_with fail
  go_quiet ((go_at_call 50; exact Num.quiet_q ⟨_, rfl⟩ (M1.out _)))
  have X3 : BY (w2.drewN nq) w.heap.size 0 0 := X2
  have B3 : Bl w (w2.drewN nq) := B2.drewN nq
  clear B2 X2
  generalize w2.drewN nq = w3 at *
  have f0 := X3.c0
  have f1 := X3.c1
  have f2 := X3.fr 0
  have f3 := X3.fr 1
  go_wp2_with fail
  have Yf := BY.set z den X3
  (try simp only [Exit.inBlock, Exit.then])
  refine bodyPost_ret (results_cell_row rfl _ _ _ _ _ _ _ rfl Yf Try.underlying32 rfl (by kernel_rfl)) rfl ?_
  exact ⟨rfl, (B3.setCell (Nat.le_refl _) _).setCell (Nat.le_refl _) _⟩
set_option maxHeartbeats 4000000 in
theorem sq_over (n d g h x y m den z : Int) (w : World) (g0 : 0 < g) (h0 : 0 < h) (bm : 0 < m ∧ m ≤ 70368744177664) (bx : -70368744177664 ≤ x ∧ x ≤ 70368744177664) (by' : -70368744177664 ≤ y ∧ y ≤ 70368744177664) (bd : 0 ≤ den ∧ den ≤ 70368744177664) (eg : d.tdiv g = m) (ex : n.tdiv g = x) (ey : n.tdiv h = y) (ed : m.tdiv h = den)
    (G1 : Hid (∀ w', Calls Try.prog 49 #[.int .i64 n, .int .i64 d] w' fun e w'' => e = .returned (.int .i64 g) ∧ Num.Q w' w''))
    (G2 : Hid (∀ w', Calls Try.prog 49 #[.int .i64 g, .int .i64 m] w' fun e w'' => e = .returned (.int .i64 h) ∧ Num.Q w' w''))
    (M1 : Hid (∀ w', Calls Try.prog 50 #[.int .i64 x, .int .i64 y, .int .i64 1] w' fun e w'' => e = .returned (.tuple #[.int .i64 0, .int .i64 15]) ∧ Num.Q w' w''))
    (M2 : Hid (∀ w', Calls Try.prog 50 #[.int .i64 n, .int .i64 n, .int .i64 d] w' fun e w'' => e = .returned (.tuple #[.int .i64 z, .int .i64 0]) ∧ Num.Q w' w'')) :
    Calls Try.prog 44 #[.int .i64 n, .int .i64 d] w (DisOut w (z, 1)) := by
  obtain ⟨bm1, bm2⟩ := bm
  obtain ⟨bx1, bx2⟩ := bx
  obtain ⟨by1, by2⟩ := by'
  obtain ⟨bd1, bd2⟩ := bd
  have wx : IntKind.i64.wrap x = x := by rw [IntKind.wrap_i64]; omega
  have wy : IntKind.i64.wrap y = y := by rw [IntKind.wrap_i64]; omega
  have i1 : ¬ g = 0 := by omega
  have t1 : (g == 0) = false := beq_eq_false_iff_ne.2 i1
  have i2 : ¬ h = 0 := by omega
  have t2 : (h == 0) = false := beq_eq_false_iff_ne.2 i2
  go_enter Try.func44, Try.ntmps44
  go_wp2_with fail
  refine (G1.out _).mono ?_
  rintro e w1 ⟨rfl, q1⟩
  have B1 : Bl w w1 := ((Bl.refl w).alloc _).q q1
  have X1 : BY w1 w.heap.size 0 0 := (BY.new rfl).bl (Q.bl q1)
  clear q1
  go_wp2_with fail
  refine (G2.out _).mono ?_
  rintro e w2 ⟨rfl, q2⟩
  have B2 : Bl w w2 := B1.q q2
  have X2 : BY w2 w.heap.size 0 0 := X1.bl (Q.bl q2)
  clear q2 B1 X1
  go_wp2_with fail
  go_quiet ((go_at_call 50; exact Num.quiet_q ⟨_, rfl⟩ (M1.out _)))
  have X3 : BY (w2.drewN nq) w.heap.size 0 0 := X2
  have B3 : Bl w (w2.drewN nq) := B2.drewN nq
  clear B2 X2
  generalize w2.drewN nq = w3 at *
  go_wp2_with fail
  refine (M2.out _).mono ?_
  rintro e w4 ⟨rfl, q4⟩
  have B4 : Bl w w4 := B3.q q4
  have X4 : BY w4 w.heap.size 0 0 := X3.bl (Q.bl q4)
  clear q4 X3 B3
  have f0 := X4.c0
  have f1 := X4.c1
  have f2 := X4.fr 0
  have f3 := X4.fr 1
  go_wp2_with fail
  have Yf := BY.set z 1 X4
  (try simp only [Exit.inBlock, Exit.then])
  refine bodyPost_ret (results_cell_row rfl _ _ _ _ _ _ _ rfl Yf Try.underlying32 rfl (by kernel_rfl)) rfl ?_
  exact ⟨rfl, (B4.setCell (Nat.le_refl _) _).setCell (Nat.le_refl _) _⟩
theorem SquareOver_in (n d : Int) (w : World) (hn : n.natAbs ≤ 35184372088832) (hd : 0 < d) (hd2 : d ≤ 35184372088832) (hq : n * n / d ≤ 35184372088832) :
    Calls Try.prog 44 #[.int .i64 n, .int .i64 d] w (DisOut w (red (ab n) d)) := by
  obtain ⟨g, h, x, y, m, den, e1, e2, e3, e4, e5, e6, g0, h0, m0, gle, mle, hle, d0, dle, bx, by', xy0, hr⟩ := sq_parts n d hd
  have okI' : ∀ v : Int, -35184372088832 ≤ v → v ≤ 35184372088832 → Num.okI v := fun v h1 h2 => by unfold Num.okI; omega
  have G1 := fun w' => Num.Gcd_any n d w' (okI' n (by omega) (by omega)) (okI' d (by omega) (by omega))
  rw [e1, Num.rv_ok (okI' g (by omega) (by omega))] at G1
  have G2 := fun w' => Num.Gcd_any g m w' (okI' g (by omega) (by omega)) (okI' m (by omega) (by omega))
  rw [e3, Num.rv_ok (okI' h (by omega) (by omega))] at G2
  have M1 := fun w' => Num.muldiv_any x y 1 w' (okI' x (by omega) (by omega)) (okI' y (by omega) (by omega)) (okI' 1 (by omega) (by omega))
  have f1 : Num.fl (x * y) 1 = x * y := by unfold Num.fl; rw [if_pos (by decide), Int.ediv_one]
  rw [f1] at M1
  rw [hr]
  by_cases hov : (9223372036854775807 : Int) < x * y
  · rw [if_pos hov]
    rw [show Num.qv 1 (x * y) = 0 by unfold Num.qv; rw [if_neg (by decide), Num.rv_no (by unfold Num.okI; omega)], show Num.qe 1 (x * y) = 15 by unfold Num.qe; rw [if_neg (by decide), Num.re_no (by unfold Num.okI; omega)]] at M1
    have M2 := fun w' => Num.muldiv_any n n d w' (okI' n (by omega) (by omega)) (okI' n (by omega) (by omega)) (okI' d (by omega) (by omega))
    have f2 : Num.fl (n * n) d = n * n / d := by unfold Num.fl; rw [if_pos hd]
    have hq0 : 0 ≤ n * n / d := Int.ediv_nonneg (sq_nn n) (by omega)
    have ok2 : Num.okI (n * n / d) := okI' _ (by omega) hq
    rw [f2, Num.qv_ok (by omega) ok2, Num.qe_ok (by omega) ok2] at M2
    exact sq_over n d g h x y m den _ w g0 h0 ⟨m0, by omega⟩ ⟨by omega, by omega⟩ ⟨by omega, by omega⟩ ⟨d0, by omega⟩ e2 e4 e5 e6 (hid G1) (hid G2) (hid M1) (hid M2)
  · rw [if_neg hov]
    have ok1 : Num.okI (x * y) := by unfold Num.okI; omega
    rw [Num.qv_ok (by decide) ok1, Num.qe_ok (by decide) ok1] at M1
    exact sq_ok n d g h x y m den _ w g0 h0 ⟨m0, by omega⟩ ⟨by omega, by omega⟩ ⟨by omega, by omega⟩ ⟨d0, by omega⟩ e2 e4 e5 e6 (hid G1) (hid G2) (hid M1)
end Go.Proofs.Ytjdkgndecnhokaa.Geom
