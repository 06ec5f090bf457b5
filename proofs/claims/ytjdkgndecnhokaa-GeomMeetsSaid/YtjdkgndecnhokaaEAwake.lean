/- The statements' own words about geom: pt, moved, turned, equal; awake returns true. -/
import Derived.Test.YtjdkgndecnhokaaESet
import Derived.Test.YtjdkgndecnhokaaGQuiet
import Derived.Test.YtjdkgndecnhokaaGStruct
namespace Go.Proofs.Ytjdkgndecnhokaa.Geom
open Go.RowKit
open Go.Proofs.Ytjdkgndecnhokaa.Wire
set_option linter.unusedVariables false

theorem pt_any (x y : Int) (w : World) :
    Calls Try.prog 38 #[.int .i64 x, .int .i64 y] w fun e w' => e = .returned (.agg #[.int .i64 x, .int .i64 y]) ∧ Bl w w' := by
  go_enter Try.func38, Try.ntmps38
  go_wp2_with fail
  have Yf := BX.new (w := w) (x := x) (y := y) rfl
  (try simp only [Exit.inBlock, Exit.then])
  refine bodyPost_ret (results_cell_row rfl _ _ _ _ _ _ _ rfl Yf Try.underlying23 rfl (by kernel_rfl)) rfl ?_
  exact ⟨rfl, (Bl.refl w).alloc _⟩

theorem BX.keep {w w' : World} {g B : Nat} {x y : Int} (h : BX w g x y) (hb : Below B w w') (hg : g < B) : BX w' g x y := (hb.block g hg).trans h
set_option maxHeartbeats 1000000 in
theorem moved_any (p v : P) (w : World) (hp : Nr p) (hv : Nr v) :
    Calls Try.prog 30 #[.agg #[.int .i64 p.1, .int .i64 p.2], .agg #[.int .i64 v.1, .int .i64 v.2]] w fun e w' => e = .returned (.agg #[.int .i64 (p.1 + v.1), .int .i64 (p.2 + v.2)]) ∧ Bl w w' := by
  obtain ⟨p1, p2⟩ := p
  obtain ⟨v1, v2⟩ := v
  unfold Nr at hp hv
  simp only at hp hv
  obtain ⟨m1, m2, m3, m4⟩ := hp
  obtain ⟨n1, n2, n3, n4⟩ := hv
  have c := hid (fun w' => pt_any (p1 + v1) (p2 + v2) w')
  go_enter Try.func30, Try.ntmps30
  go_wp2_with fail
  refine (c.out _).mono ?_
  rintro e w2 ⟨rfl, hb⟩
  have hB : Bl w w2 := Bl.trans ((((Bl.refl w).alloc _).alloc _).alloc _) hb
  have X3 : BX w2 (w.heap.size + 1 + 1) 0 0 := (BX.new (by simp)).bl hb
  have f1 := X3.c0
  have f2 := X3.c1
  have f3 := X3.fr 0
  have f4 := X3.fr 1
  go_wp2_with fail
  have Yf := BX.set (p1 + v1) (p2 + v2) X3
  (try simp only [Exit.inBlock, Exit.then])
  refine bodyPost_ret (results_cell_row rfl _ _ _ _ _ _ _ rfl Yf Try.underlying23 rfl (by kernel_rfl)) rfl ?_
  exact ⟨rfl, (hB.setCell (show w.heap.size ≤ w.heap.size + 1 + 1 by omega) _).setCell (show w.heap.size ≤ w.heap.size + 1 + 1 by omega) _⟩

set_option maxHeartbeats 1000000 in
theorem turned_any (p : P) (w : World) (hp : Nr p) :
    Calls Try.prog 31 #[.agg #[.int .i64 p.1, .int .i64 p.2]] w fun e w' => e = .returned (.agg #[.int .i64 (-p.2), .int .i64 p.1]) ∧ Bl w w' := by
  obtain ⟨p1, p2⟩ := p
  unfold Nr at hp
  simp only at hp
  obtain ⟨m1, m2, m3, m4⟩ := hp
  have c := hid (fun w' => pt_any (-p2) p1 w')
  go_enter Try.func31, Try.ntmps31
  go_wp2_with fail
  refine (c.out _).mono ?_
  rintro e w2 ⟨rfl, hb⟩
  have hB : Bl w w2 := Bl.trans (((Bl.refl w).alloc _).alloc _) hb
  have X3 : BX w2 (w.heap.size + 1) 0 0 := (BX.new (by simp)).bl hb
  have f1 := X3.c0
  have f2 := X3.c1
  have f3 := X3.fr 0
  have f4 := X3.fr 1
  go_wp2_with fail
  have Yf := BX.set (-p2) p1 X3
  (try simp only [Exit.inBlock, Exit.then])
  refine bodyPost_ret (results_cell_row rfl _ _ _ _ _ _ _ rfl Yf Try.underlying23 rfl (by kernel_rfl)) rfl ?_
  exact ⟨rfl, (hB.setCell (show w.heap.size ≤ w.heap.size + 1 by omega) _).setCell (show w.heap.size ≤ w.heap.size + 1 by omega) _⟩

set_option maxRecDepth 100000 in
theorem awake_lex : (regionsOf Try.f17).all (fun o => Region.lexB .any o) = true := by kernel_rfl

set_option maxRecDepth 100000 in
set_option maxHeartbeats 4000000 in
theorem awake_any (w : World) : Calls Try.prog 17 #[] w fun e w' => e = .returned (.bool true) ∧ Bl w w' := by
  have q0 : Hid (∀ w', Calls Try.prog 11 #[.agg #[.int .i64 (0), .int .i64 (0)], .agg #[.int .i64 (4), .int .i64 (0)], .agg #[.int .i64 (0), .int .i64 (3)]] w' fun e w2 => e = .returned (.int .i64 (12)) ∧ Bl w' w2) := hid (fun w' => by
    have h := Twice_any ((0 : Int), (0 : Int)) ((4 : Int), (0 : Int)) ((0 : Int), (3 : Int)) w'
    rw [show tw ((0 : Int), (0 : Int)) ((4 : Int), (0 : Int)) ((0 : Int), (3 : Int)) = 12 by decide +kernel] at h
    exact h)
  have q1 : Hid (∀ w', Calls Try.prog 13 #[.agg #[.int .i64 (0), .int .i64 (0)], .agg #[.int .i64 (0), .int .i64 (3)], .agg #[.int .i64 (4), .int .i64 (0)]] w' fun e w2 => e = .returned (.int .i64 (-1)) ∧ Bl w' w2) := hid (fun w' => by
    have h := Side_any ((0 : Int), (0 : Int)) ((0 : Int), (3 : Int)) ((4 : Int), (0 : Int)) w'
    rw [show sd ((0 : Int), (0 : Int)) ((0 : Int), (3 : Int)) ((4 : Int), (0 : Int)) = -1 by decide +kernel] at h
    exact h)
  have q2 : Hid (∀ w', Calls Try.prog 15 #[.agg #[.int .i64 (0), .int .i64 (0)], .agg #[.int .i64 (4), .int .i64 (4)], .agg #[.int .i64 (2), .int .i64 (2)]] w' fun e w2 => e = .returned (.bool true) ∧ Bl w' w2) := hid (fun w' => by
    have h := On_any ((0 : Int), (0 : Int)) ((4 : Int), (4 : Int)) ((2 : Int), (2 : Int)) w'
    rw [show on ((0 : Int), (0 : Int)) ((4 : Int), (4 : Int)) ((2 : Int), (2 : Int)) = true by decide +kernel] at h
    exact h)
  have q3 : Hid (∀ w', Calls Try.prog 15 #[.agg #[.int .i64 (0), .int .i64 (0)], .agg #[.int .i64 (4), .int .i64 (4)], .agg #[.int .i64 (5), .int .i64 (5)]] w' fun e w2 => e = .returned (.bool false) ∧ Bl w' w2) := hid (fun w' => by
    have h := On_any ((0 : Int), (0 : Int)) ((4 : Int), (4 : Int)) ((5 : Int), (5 : Int)) w'
    rw [show on ((0 : Int), (0 : Int)) ((4 : Int), (4 : Int)) ((5 : Int), (5 : Int)) = false by decide +kernel] at h
    exact h)
  have q4 : Hid (∀ w', Calls Try.prog 19 #[.agg #[.int .i64 (0), .int .i64 (0)], .agg #[.int .i64 (4), .int .i64 (4)], .agg #[.int .i64 (0), .int .i64 (3)], .agg #[.int .i64 (3), .int .i64 (0)]] w' fun e w2 => e = .returned (.int .i64 (1)) ∧ Bl w' w2) := hid (fun w' => by
    have h := Meet_any ((0 : Int), (0 : Int)) ((4 : Int), (4 : Int)) ((0 : Int), (3 : Int)) ((3 : Int), (0 : Int)) w'
    rw [show mt ((0 : Int), (0 : Int)) ((4 : Int), (4 : Int)) ((0 : Int), (3 : Int)) ((3 : Int), (0 : Int)) = 1 by decide +kernel] at h
    exact h)
  have q5 : Hid (∀ w', Calls Try.prog 19 #[.agg #[.int .i64 (0), .int .i64 (0)], .agg #[.int .i64 (4), .int .i64 (0)], .agg #[.int .i64 (2), .int .i64 (0)], .agg #[.int .i64 (9), .int .i64 (0)]] w' fun e w2 => e = .returned (.int .i64 (2)) ∧ Bl w' w2) := hid (fun w' => by
    have h := Meet_any ((0 : Int), (0 : Int)) ((4 : Int), (0 : Int)) ((2 : Int), (0 : Int)) ((9 : Int), (0 : Int)) w'
    rw [show mt ((0 : Int), (0 : Int)) ((4 : Int), (0 : Int)) ((2 : Int), (0 : Int)) ((9 : Int), (0 : Int)) = 2 by decide +kernel] at h
    exact h)
  have q6 : Hid (∀ w', Calls Try.prog 20 #[.agg #[.int .i64 (0), .int .i64 (0)], .agg #[.int .i64 (5), .int .i64 (0)], .agg #[.int .i64 (0), .int .i64 (1)]] w' fun e w2 => e = .returned (.bool true) ∧ Bl w' w2) := hid (fun w' => by
    have h := Less_any ((0 : Int), (0 : Int)) ((5 : Int), (0 : Int)) ((0 : Int), (1 : Int)) w'
    rw [show les ((0 : Int), (0 : Int)) ((5 : Int), (0 : Int)) ((0 : Int), (1 : Int)) = true by decide +kernel] at h
    exact h)
  have q7 : Hid (∀ w', Calls Try.prog 20 #[.agg #[.int .i64 (0), .int .i64 (0)], .agg #[.int .i64 (0), .int .i64 (1)], .agg #[.int .i64 (2), .int .i64 (-1)]] w' fun e w2 => e = .returned (.bool true) ∧ Bl w' w2) := hid (fun w' => by
    have h := Less_any ((0 : Int), (0 : Int)) ((0 : Int), (1 : Int)) ((2 : Int), (-1 : Int)) w'
    rw [show les ((0 : Int), (0 : Int)) ((0 : Int), (1 : Int)) ((2 : Int), (-1 : Int)) = true by decide +kernel] at h
    exact h)
  have q8 : Hid (∀ w', Calls Try.prog 20 #[.agg #[.int .i64 (0), .int .i64 (0)], .agg #[.int .i64 (2), .int .i64 (-1)], .agg #[.int .i64 (5), .int .i64 (0)]] w' fun e w2 => e = .returned (.bool false) ∧ Bl w' w2) := hid (fun w' => by
    have h := Less_any ((0 : Int), (0 : Int)) ((2 : Int), (-1 : Int)) ((5 : Int), (0 : Int)) w'
    rw [show les ((0 : Int), (0 : Int)) ((2 : Int), (-1 : Int)) ((5 : Int), (0 : Int)) = false by decide +kernel] at h
    exact h)
  have q9 : Hid (∀ w', Calls Try.prog 24 #[.agg #[.int .i64 (0), .int .i64 (0)], .agg #[.int .i64 (3), .int .i64 (1)], .agg #[.int .i64 (1), .int .i64 (1)]] w' fun e w2 => e = .returned (.agg #[.int .i64 (2), .int .i64 (5)]) ∧ Bl w' w2) := hid (fun w' => by
    have h := Dist_any ((0 : Int), (0 : Int)) ((3 : Int), (1 : Int)) ((1 : Int), (1 : Int)) w'
    unfold DisOut at h
    rw [show dis ((0 : Int), (0 : Int)) ((3 : Int), (1 : Int)) ((1 : Int), (1 : Int)) = (2, 5) by decide +kernel] at h
    exact h)
  have q10 : Hid (∀ w', Calls Try.prog 24 #[.agg #[.int .i64 (0), .int .i64 (0)], .agg #[.int .i64 (-3), .int .i64 (0)], .agg #[.int .i64 (1), .int .i64 (1)]] w' fun e w2 => e = .returned (.agg #[.int .i64 (2), .int .i64 (1)]) ∧ Bl w' w2) := hid (fun w' => by
    have h := Dist_any ((0 : Int), (0 : Int)) ((-3 : Int), (0 : Int)) ((1 : Int), (1 : Int)) w'
    unfold DisOut at h
    rw [show dis ((0 : Int), (0 : Int)) ((-3 : Int), (0 : Int)) ((1 : Int), (1 : Int)) = (2, 1) by decide +kernel] at h
    exact h)
  have q11 : Hid (∀ w', Calls Try.prog 27 #[.agg #[.int .i64 0, .int .i64 0, .int .i64 4, .int .i64 4], .agg #[.int .i64 4, .int .i64 0]] w' fun e w2 => e = .returned (.bool true) ∧ Bl w' w2) := hid (fun w' => by
    have h := In_any 0 0 4 4 4 0 w'
    rw [show inn 0 0 4 4 4 0 = true by decide] at h
    exact h)
  have q12 : Hid (∀ w', Calls Try.prog 26 #[.agg #[.int .i64 0, .int .i64 0, .int .i64 4, .int .i64 4], .agg #[.int .i64 4, .int .i64 0, .int .i64 8, .int .i64 4]] w' fun e w2 => e = .returned (.bool false) ∧ Bl w' w2) := hid (fun w' => by
    have h := Overlap_any 0 0 4 4 4 0 8 4 w'
    rw [show ovl 0 0 4 4 4 0 8 4 = false by decide] at h
    exact h)
  have q13 : Hid (∀ w', Calls Try.prog 26 #[.agg #[.int .i64 0, .int .i64 0, .int .i64 4, .int .i64 4], .agg #[.int .i64 3, .int .i64 3, .int .i64 5, .int .i64 5]] w' fun e w2 => e = .returned (.bool true) ∧ Bl w' w2) := hid (fun w' => by
    have h := Overlap_any 0 0 4 4 3 3 5 5 w'
    rw [show ovl 0 0 4 4 3 3 5 5 = true by decide] at h
    exact h)
  go_enter Try.func17, Try.ntmps17
  go_wp2_with fail
  refine (pt_any 0 0 _).mono ?_
  rintro e v0 ⟨rfl, b0⟩
  go_wp2_with fail
  obtain ⟨w1, hw1⟩ : ∃ w1, w1 = v0.alloc (.cells #[.int .i64 0, .int .i64 0] 23) := ⟨_, rfl⟩
  have hB1 : Bl w w1 := by rw [hw1]; exact b0.alloc _
  have X0 : BX w1 v0.heap.size 0 0 := by rw [hw1]; exact BX.new rfl
  rw [← hw1]
  clear hw1
  have mixed : Try.prog.follows .mixedOrders = true := by kernel_rfl
  have k0_0 := GB.cell X0.lt X0.c0
  have k0_1 := GB.cell X0.lt X0.c1
  refine wp_region_gb mixed (lex_of (f := Try.f17) (k := 0) awake_lex (by kernel_rfl)) ?_
  try simp only [List.append]
  repeat
    with_reducible refine wpQuiet_step (fun K hK => ?_)
    go_simp
    first
      | (with_reducible refine hK _ ?_; clear hK K)
      | (rw [if_neg (by intro h; cases h)]; with_reducible refine hK _ ?_; clear hK K)
      | (apply Exists.intro; with_reducible refine ⟨fun _ => ?_, hK _ ?_⟩; (first | (go_at_call 38; with_reducible refine gb_of (pt_any _ _ _)) | (go_at_call 11; with_reducible refine gb_of (q0.out _)) | (go_at_call 13; with_reducible refine gb_of (q1.out _)) | (go_at_call 15; with_reducible refine gb_of (q2.out _)) | (go_at_call 15; with_reducible refine gb_of (q3.out _)) | (go_at_call 19; with_reducible refine gb_of (q4.out _)) | (go_at_call 19; with_reducible refine gb_of (q5.out _)) | (go_at_call 20; with_reducible refine gb_of (q6.out _)) | (go_at_call 20; with_reducible refine gb_of (q7.out _)) | (go_at_call 20; with_reducible refine gb_of (q8.out _)) | (go_at_call 24; with_reducible refine gb_of (q9.out _)) | (go_at_call 24; with_reducible refine gb_of (q10.out _)) | (go_at_call 27; with_reducible refine gb_of (q11.out _)) | (go_at_call 26; with_reducible refine gb_of (q12.out _)) | (go_at_call 26; with_reducible refine gb_of (q13.out _))); clear hK K)
  with_reducible refine wpQuiet_nil ?_
  intro w' hw'
  obtain ⟨pw, hw''⟩ := hw'
  subst hw''
  go_wp2_with fail
  go_ret
  exact ⟨rfl, hB1.trans pw.h⟩
end Go.Proofs.Ytjdkgndecnhokaa.Geom
