/- Contract of Dist of geom as it landed. (Written by wip/bin/mkdistl.py.) -/
import Derived.Test.YtjdkgndecnhokaaECode10
namespace Go.Proofs.Ytjdkgndecnhokaa.Geom
open Go.RowKit
open Go.Proofs.Ytjdkgndecnhokaa.Wire
set_option linter.unusedVariables false

theorem box31' (w : World) (a1 a2 b1 b2 p1 p2 : Int) : ∃ v, (((w.alloc (.cells #[.int .i64 a1, .int .i64 a2] 23)).alloc (.cells #[.int .i64 b1, .int .i64 b2] 23)).alloc (.cells #[.int .i64 p1, .int .i64 p2] 23)).alloc (.cells #[.int .i64 0, .int .i64 0] 32) = v ∧
    BX v w.heap.size a1 a2 ∧ BX v (w.heap.size + 1) b1 b2 ∧ BX v (w.heap.size + 1 + 1) p1 p2 ∧ BY v (w.heap.size + 1 + 1 + 1) 0 0 ∧ Bl w v :=
  ⟨_, rfl, (box3 (Bl.refl _)).1.al _, (box3 (Bl.refl _)).2.1.al _, (box3 (Bl.refl _)).2.2.al _, BY.new (by simp), ((((Bl.refl w).alloc _).alloc _).alloc _).alloc _⟩
set_option maxHeartbeats 8000000 in
theorem Dist_far (a1 a2 b1 b2 p1 p2 : Int) (w : World) (N1 : Hid (∀ (w' : World) (T : TypeId) (g : Nat), g = w'.heap.size → Calls Try.prog 32 #[.slice (some ⟨g, 0, none⟩) 3 3] (w'.alloc (.cells #[.int .i64 a1, .int .i64 a2, .int .i64 b1, .int .i64 b2, .int .i64 p1, .int .i64 p2] T)) fun e w'' => e = .returned (.bool false) ∧ Bl (w'.alloc (.cells #[.int .i64 a1, .int .i64 a2, .int .i64 b1, .int .i64 b2, .int .i64 p1, .int .i64 p2] T)) w'')) :
    Calls Try.prog 24 #[.agg #[.int .i64 a1, .int .i64 a2], .agg #[.int .i64 b1, .int .i64 b2], .agg #[.int .i64 p1, .int .i64 p2]] w (DisOut w (0, 0)) := by
  have hg3 : w.heap.size ≤ w.heap.size + 1 + 1 + 1 := by omega
  go_enter Try.func24, Try.ntmps24
  go_wp2_with fail
  obtain ⟨v, ev, x1, x2, x3, x4, hv⟩ := box31' w a1 a2 b1 b2 p1 p2
  refine (N1.out _ _ _ (by simp)).mono ?_
  rw [ev]
  rintro e w1 ⟨rfl, hb1⟩
  have B1 := Bl.trans (Bl.alloc hv _) hb1
  have x1 := (BX.al x1 _).bl hb1
  have x2 := (BX.al x2 _).bl hb1
  have x3 := (BX.al x3 _).bl hb1
  have x4 := (BY.al x4 _).bl hb1
  clear ev hb1 hv
  have k1 := x1.c0
  have k2 := x1.c1
  have k3 := x2.c0
  have k4 := x2.c1
  have k5 := x3.c0
  have k6 := x3.c1
  have k7 := x4.c0
  have k8 := x4.c1
  have f1 := x4.fr 0
  have f2 := x4.fr 1
  go_wp2_with fail
  have Yf := BY.set (0) (0) x4
  (try simp only [Exit.inBlock, Exit.then])
  refine bodyPost_ret (results_cell_row rfl _ _ _ _ _ _ _ rfl Yf Try.underlying32 rfl (by kernel_rfl)) rfl ?_
  exact ⟨rfl, (B1.setCell hg3 _).setCell hg3 _⟩
set_option maxHeartbeats 8000000 in
theorem Dist_before (a1 a2 b1 b2 p1 p2 : Int) (w : World) (t V : Int) (h : t ≤ 0) (N1 : Hid (∀ (w' : World) (T : TypeId) (g : Nat), g = w'.heap.size → Calls Try.prog 32 #[.slice (some ⟨g, 0, none⟩) 3 3] (w'.alloc (.cells #[.int .i64 a1, .int .i64 a2, .int .i64 b1, .int .i64 b2, .int .i64 p1, .int .i64 p2] T)) fun e w'' => e = .returned (.bool true) ∧ Bl (w'.alloc (.cells #[.int .i64 a1, .int .i64 a2, .int .i64 b1, .int .i64 b2, .int .i64 p1, .int .i64 p2] T)) w''))(D1 : Hid (∀ w', Calls Try.prog 43 #[.agg #[.int .i64 a1, .int .i64 a2], .agg #[.int .i64 b1, .int .i64 b2], .agg #[.int .i64 p1, .int .i64 p2]] w' fun e w'' => e = .returned (.int .i64 t) ∧ Bl w' w''))(D2 : Hid (∀ w', Calls Try.prog 43 #[.agg #[.int .i64 a1, .int .i64 a2], .agg #[.int .i64 p1, .int .i64 p2], .agg #[.int .i64 p1, .int .i64 p2]] w' fun e w'' => e = .returned (.int .i64 V) ∧ Bl w' w'')) :
    Calls Try.prog 24 #[.agg #[.int .i64 a1, .int .i64 a2], .agg #[.int .i64 b1, .int .i64 b2], .agg #[.int .i64 p1, .int .i64 p2]] w (DisOut w (V, 1)) := by
  have hg3 : w.heap.size ≤ w.heap.size + 1 + 1 + 1 := by omega
  go_enter Try.func24, Try.ntmps24
  go_wp2_with fail
  obtain ⟨v, ev, x1, x2, x3, x4, hv⟩ := box31' w a1 a2 b1 b2 p1 p2
  refine (N1.out _ _ _ (by simp)).mono ?_
  rw [ev]
  rintro e w1 ⟨rfl, hb1⟩
  have B1 := Bl.trans (Bl.alloc hv _) hb1
  have x1 := (BX.al x1 _).bl hb1
  have x2 := (BX.al x2 _).bl hb1
  have x3 := (BX.al x3 _).bl hb1
  have x4 := (BY.al x4 _).bl hb1
  clear ev hb1 hv
  have k1 := x1.c0
  have k2 := x1.c1
  have k3 := x2.c0
  have k4 := x2.c1
  have k5 := x3.c0
  have k6 := x3.c1
  have k7 := x4.c0
  have k8 := x4.c1
  have f1 := x4.fr 0
  have f2 := x4.fr 1
  go_wp2_with fail
  refine (D1.out _).mono ?_
  rintro e w2 ⟨rfl, hb2⟩
  have B2 := Bl.trans B1 hb2
  clear k1 k2 k3 k4 k5 k6 k7 k8 f1 f2
  have x1 := x1.bl hb2
  have x2 := x2.bl hb2
  have x3 := x3.bl hb2
  have x4 := x4.bl hb2
  clear hb2
  have k1 := x1.c0
  have k2 := x1.c1
  have k3 := x2.c0
  have k4 := x2.c1
  have k5 := x3.c0
  have k6 := x3.c1
  have k7 := x4.c0
  have k8 := x4.c1
  have f1 := x4.fr 0
  have f2 := x4.fr 1
  go_wp2_with fail
  refine (D2.out _).mono ?_
  rintro e w3 ⟨rfl, hb3⟩
  have B3 := Bl.trans B2 hb3
  clear k1 k2 k3 k4 k5 k6 k7 k8 f1 f2
  have x1 := x1.bl hb3
  have x2 := x2.bl hb3
  have x3 := x3.bl hb3
  have x4 := x4.bl hb3
  clear hb3
  have k1 := x1.c0
  have k2 := x1.c1
  have k3 := x2.c0
  have k4 := x2.c1
  have k5 := x3.c0
  have k6 := x3.c1
  have k7 := x4.c0
  have k8 := x4.c1
  have f1 := x4.fr 0
  have f2 := x4.fr 1
  go_wp2_with fail
  have Yf := BY.set (V) (1) x4
  (try simp only [Exit.inBlock, Exit.then])
  refine bodyPost_ret (results_cell_row rfl _ _ _ _ _ _ _ rfl Yf Try.underlying32 rfl (by kernel_rfl)) rfl ?_
  exact ⟨rfl, (B3.setCell hg3 _).setCell hg3 _⟩
set_option maxHeartbeats 8000000 in
theorem Dist_behind (a1 a2 b1 b2 p1 p2 : Int) (w : World) (t s V : Int) (h : ¬ t ≤ 0) (h2 : s ≤ 0) (N1 : Hid (∀ (w' : World) (T : TypeId) (g : Nat), g = w'.heap.size → Calls Try.prog 32 #[.slice (some ⟨g, 0, none⟩) 3 3] (w'.alloc (.cells #[.int .i64 a1, .int .i64 a2, .int .i64 b1, .int .i64 b2, .int .i64 p1, .int .i64 p2] T)) fun e w'' => e = .returned (.bool true) ∧ Bl (w'.alloc (.cells #[.int .i64 a1, .int .i64 a2, .int .i64 b1, .int .i64 b2, .int .i64 p1, .int .i64 p2] T)) w''))(D1 : Hid (∀ w', Calls Try.prog 43 #[.agg #[.int .i64 a1, .int .i64 a2], .agg #[.int .i64 b1, .int .i64 b2], .agg #[.int .i64 p1, .int .i64 p2]] w' fun e w'' => e = .returned (.int .i64 t) ∧ Bl w' w''))(D2 : Hid (∀ w', Calls Try.prog 43 #[.agg #[.int .i64 b1, .int .i64 b2], .agg #[.int .i64 a1, .int .i64 a2], .agg #[.int .i64 p1, .int .i64 p2]] w' fun e w'' => e = .returned (.int .i64 s) ∧ Bl w' w''))(D3 : Hid (∀ w', Calls Try.prog 43 #[.agg #[.int .i64 b1, .int .i64 b2], .agg #[.int .i64 p1, .int .i64 p2], .agg #[.int .i64 p1, .int .i64 p2]] w' fun e w'' => e = .returned (.int .i64 V) ∧ Bl w' w'')) :
    Calls Try.prog 24 #[.agg #[.int .i64 a1, .int .i64 a2], .agg #[.int .i64 b1, .int .i64 b2], .agg #[.int .i64 p1, .int .i64 p2]] w (DisOut w (V, 1)) := by
  have hg3 : w.heap.size ≤ w.heap.size + 1 + 1 + 1 := by omega
  go_enter Try.func24, Try.ntmps24
  go_wp2_with fail
  obtain ⟨v, ev, x1, x2, x3, x4, hv⟩ := box31' w a1 a2 b1 b2 p1 p2
  refine (N1.out _ _ _ (by simp)).mono ?_
  rw [ev]
  rintro e w1 ⟨rfl, hb1⟩
  have B1 := Bl.trans (Bl.alloc hv _) hb1
  have x1 := (BX.al x1 _).bl hb1
  have x2 := (BX.al x2 _).bl hb1
  have x3 := (BX.al x3 _).bl hb1
  have x4 := (BY.al x4 _).bl hb1
  clear ev hb1 hv
  have k1 := x1.c0
  have k2 := x1.c1
  have k3 := x2.c0
  have k4 := x2.c1
  have k5 := x3.c0
  have k6 := x3.c1
  have k7 := x4.c0
  have k8 := x4.c1
  have f1 := x4.fr 0
  have f2 := x4.fr 1
  go_wp2_with fail
  refine (D1.out _).mono ?_
  rintro e w2 ⟨rfl, hb2⟩
  have B2 := Bl.trans B1 hb2
  clear k1 k2 k3 k4 k5 k6 k7 k8 f1 f2
  have x1 := x1.bl hb2
  have x2 := x2.bl hb2
  have x3 := x3.bl hb2
  have x4 := x4.bl hb2
  clear hb2
  have k1 := x1.c0
  have k2 := x1.c1
  have k3 := x2.c0
  have k4 := x2.c1
  have k5 := x3.c0
  have k6 := x3.c1
  have k7 := x4.c0
  have k8 := x4.c1
  have f1 := x4.fr 0
  have f2 := x4.fr 1
  go_wp2_with fail
  refine (D2.out _).mono ?_
  rintro e w3 ⟨rfl, hb3⟩
  have B3 := Bl.trans B2 hb3
  clear k1 k2 k3 k4 k5 k6 k7 k8 f1 f2
  have x1 := x1.bl hb3
  have x2 := x2.bl hb3
  have x3 := x3.bl hb3
  have x4 := x4.bl hb3
  clear hb3
  have k1 := x1.c0
  have k2 := x1.c1
  have k3 := x2.c0
  have k4 := x2.c1
  have k5 := x3.c0
  have k6 := x3.c1
  have k7 := x4.c0
  have k8 := x4.c1
  have f1 := x4.fr 0
  have f2 := x4.fr 1
  go_wp2_with fail
  refine (D3.out _).mono ?_
  rintro e w4 ⟨rfl, hb4⟩
  have B4 := Bl.trans B3 hb4
  clear k1 k2 k3 k4 k5 k6 k7 k8 f1 f2
  have x1 := x1.bl hb4
  have x2 := x2.bl hb4
  have x3 := x3.bl hb4
  have x4 := x4.bl hb4
  clear hb4
  have k1 := x1.c0
  have k2 := x1.c1
  have k3 := x2.c0
  have k4 := x2.c1
  have k5 := x3.c0
  have k6 := x3.c1
  have k7 := x4.c0
  have k8 := x4.c1
  have f1 := x4.fr 0
  have f2 := x4.fr 1
  go_wp2_with fail
  have Yf := BY.set (V) (1) x4
  (try simp only [Exit.inBlock, Exit.then])
  refine bodyPost_ret (results_cell_row rfl _ _ _ _ _ _ _ rfl Yf Try.underlying32 rfl (by kernel_rfl)) rfl ?_
  exact ⟨rfl, (B4.setCell hg3 _).setCell hg3 _⟩
set_option maxHeartbeats 8000000 in
theorem Dist_mid (a1 a2 b1 b2 p1 p2 : Int) (w : World) (t s C N : Int) (R : Int × Int) (h : ¬ t ≤ 0) (h2 : ¬ s ≤ 0) (N1 : Hid (∀ (w' : World) (T : TypeId) (g : Nat), g = w'.heap.size → Calls Try.prog 32 #[.slice (some ⟨g, 0, none⟩) 3 3] (w'.alloc (.cells #[.int .i64 a1, .int .i64 a2, .int .i64 b1, .int .i64 b2, .int .i64 p1, .int .i64 p2] T)) fun e w'' => e = .returned (.bool true) ∧ Bl (w'.alloc (.cells #[.int .i64 a1, .int .i64 a2, .int .i64 b1, .int .i64 b2, .int .i64 p1, .int .i64 p2] T)) w''))(D1 : Hid (∀ w', Calls Try.prog 43 #[.agg #[.int .i64 a1, .int .i64 a2], .agg #[.int .i64 b1, .int .i64 b2], .agg #[.int .i64 p1, .int .i64 p2]] w' fun e w'' => e = .returned (.int .i64 t) ∧ Bl w' w''))(D2 : Hid (∀ w', Calls Try.prog 43 #[.agg #[.int .i64 b1, .int .i64 b2], .agg #[.int .i64 a1, .int .i64 a2], .agg #[.int .i64 p1, .int .i64 p2]] w' fun e w'' => e = .returned (.int .i64 s) ∧ Bl w' w''))(C1 : Hid (∀ w', Calls Try.prog 33 #[.agg #[.int .i64 a1, .int .i64 a2], .agg #[.int .i64 b1, .int .i64 b2], .agg #[.int .i64 p1, .int .i64 p2]] w' fun e w'' => e = .returned (.int .i64 C) ∧ Bl w' w''))(D3 : Hid (∀ w', Calls Try.prog 43 #[.agg #[.int .i64 a1, .int .i64 a2], .agg #[.int .i64 b1, .int .i64 b2], .agg #[.int .i64 b1, .int .i64 b2]] w' fun e w'' => e = .returned (.int .i64 N) ∧ Bl w' w'')) (Q1 : Hid (∀ w', Calls Try.prog 44 #[.int .i64 C, .int .i64 N] w' (DisOut w' R))) :
    Calls Try.prog 24 #[.agg #[.int .i64 a1, .int .i64 a2], .agg #[.int .i64 b1, .int .i64 b2], .agg #[.int .i64 p1, .int .i64 p2]] w (DisOut w (R)) := by
  have hg3 : w.heap.size ≤ w.heap.size + 1 + 1 + 1 := by omega
  go_enter Try.func24, Try.ntmps24
  go_wp2_with fail
  obtain ⟨v, ev, x1, x2, x3, x4, hv⟩ := box31' w a1 a2 b1 b2 p1 p2
  refine (N1.out _ _ _ (by simp)).mono ?_
  rw [ev]
  rintro e w1 ⟨rfl, hb1⟩
  have B1 := Bl.trans (Bl.alloc hv _) hb1
  have x1 := (BX.al x1 _).bl hb1
  have x2 := (BX.al x2 _).bl hb1
  have x3 := (BX.al x3 _).bl hb1
  have x4 := (BY.al x4 _).bl hb1
  clear ev hb1 hv
  have k1 := x1.c0
  have k2 := x1.c1
  have k3 := x2.c0
  have k4 := x2.c1
  have k5 := x3.c0
  have k6 := x3.c1
  have k7 := x4.c0
  have k8 := x4.c1
  have f1 := x4.fr 0
  have f2 := x4.fr 1
  go_wp2_with fail
  refine (D1.out _).mono ?_
  rintro e w2 ⟨rfl, hb2⟩
  have B2 := Bl.trans B1 hb2
  clear k1 k2 k3 k4 k5 k6 k7 k8 f1 f2
  have x1 := x1.bl hb2
  have x2 := x2.bl hb2
  have x3 := x3.bl hb2
  have x4 := x4.bl hb2
  clear hb2
  have k1 := x1.c0
  have k2 := x1.c1
  have k3 := x2.c0
  have k4 := x2.c1
  have k5 := x3.c0
  have k6 := x3.c1
  have k7 := x4.c0
  have k8 := x4.c1
  have f1 := x4.fr 0
  have f2 := x4.fr 1
  go_wp2_with fail
  refine (D2.out _).mono ?_
  rintro e w3 ⟨rfl, hb3⟩
  have B3 := Bl.trans B2 hb3
  clear k1 k2 k3 k4 k5 k6 k7 k8 f1 f2
  have x1 := x1.bl hb3
  have x2 := x2.bl hb3
  have x3 := x3.bl hb3
  have x4 := x4.bl hb3
  clear hb3
  have k1 := x1.c0
  have k2 := x1.c1
  have k3 := x2.c0
  have k4 := x2.c1
  have k5 := x3.c0
  have k6 := x3.c1
  have k7 := x4.c0
  have k8 := x4.c1
  have f1 := x4.fr 0
  have f2 := x4.fr 1
  go_wp2_with fail
  clear k1 k2 k3 k4 k5 k6 k7 k8 f1 f2
  refine wp_region_noPanic ?_
  refine wp_region_held_drew (S := fun w' => BX w' w.heap.size a1 a2 ∧ BX w' (w.heap.size + 1) b1 b2 ∧ BX w' (w.heap.size + 1 + 1) p1 p2 ∧ ∃ u1 u2, BY w' (w.heap.size + 1 + 1 + 1) u1 u2) (by kernel_rfl) ⟨x1, x2, x3, _, _, x4⟩ (fun hs => ?_)
  refine wpAnyH_take (i := 0) (oi := ({ dst := some 37, op := Op.load 23 (Operand.tmp 3), type := 23, pos := "geom.go:70", after := #[], guard := none } : Oper)) (v := ?_) rfl (by kernel_rfl) (by kernel_rfl) (by kernel_rfl) (fun _ _ _ h => h) (Or.inl ⟨by rfl, ?_⟩) hs ?_
  rotate_left 1
  · (intro w' hw'; obtain ⟨y1, y2, y3, y4⟩ := hw'; have q1 := y1.c0; have q2 := y1.c1; have q3 := y2.c0; have q4 := y2.c1; have q5 := y3.c0; have q6 := y3.c1; go_simp <;> with_reducible rfl)
  try simp only [Act.put, List.setIfInBounds_toArray, List.set_cons_zero, List.set_cons_succ]
  refine wpAnyH_take (i := 1) (oi := ({ dst := some 38, op := Op.load 23 (Operand.tmp 4), type := 23, pos := "geom.go:70", after := #[], guard := none } : Oper)) (v := ?_) rfl (by kernel_rfl) (by kernel_rfl) (by kernel_rfl) (fun _ _ _ h => h) (Or.inl ⟨by rfl, ?_⟩) hs ?_
  rotate_left 1
  · (intro w' hw'; obtain ⟨y1, y2, y3, y4⟩ := hw'; have q1 := y1.c0; have q2 := y1.c1; have q3 := y2.c0; have q4 := y2.c1; have q5 := y3.c0; have q6 := y3.c1; go_simp <;> with_reducible rfl)
  try simp only [Act.put, List.setIfInBounds_toArray, List.set_cons_zero, List.set_cons_succ]
  refine wpAnyH_take (i := 2) (oi := ({ dst := some 39, op := Op.load 23 (Operand.tmp 5), type := 23, pos := "geom.go:70", after := #[], guard := none } : Oper)) (v := ?_) rfl (by kernel_rfl) (by kernel_rfl) (by kernel_rfl) (fun _ _ _ h => h) (Or.inl ⟨by rfl, ?_⟩) hs ?_
  rotate_left 1
  · (intro w' hw'; obtain ⟨y1, y2, y3, y4⟩ := hw'; have q1 := y1.c0; have q2 := y1.c1; have q3 := y2.c0; have q4 := y2.c1; have q5 := y3.c0; have q6 := y3.c1; go_simp <;> with_reducible rfl)
  try simp only [Act.put, List.setIfInBounds_toArray, List.set_cons_zero, List.set_cons_succ]
  refine wpAnyH_take (i := 4) (oi := ({ dst := some 41, op := Op.load 23 (Operand.tmp 3), type := 23, pos := "geom.go:70", after := #[], guard := none } : Oper)) (v := ?_) rfl (by kernel_rfl) (by kernel_rfl) (by kernel_rfl) (fun _ _ _ h => h) (Or.inl ⟨by rfl, ?_⟩) hs ?_
  rotate_left 1
  · (intro w' hw'; obtain ⟨y1, y2, y3, y4⟩ := hw'; have q1 := y1.c0; have q2 := y1.c1; have q3 := y2.c0; have q4 := y2.c1; have q5 := y3.c0; have q6 := y3.c1; go_simp <;> with_reducible rfl)
  try simp only [Act.put, List.setIfInBounds_toArray, List.set_cons_zero, List.set_cons_succ]
  refine wpAnyH_take (i := 5) (oi := ({ dst := some 42, op := Op.load 23 (Operand.tmp 4), type := 23, pos := "geom.go:70", after := #[], guard := none } : Oper)) (v := ?_) rfl (by kernel_rfl) (by kernel_rfl) (by kernel_rfl) (fun _ _ _ h => h) (Or.inl ⟨by rfl, ?_⟩) hs ?_
  rotate_left 1
  · (intro w' hw'; obtain ⟨y1, y2, y3, y4⟩ := hw'; have q1 := y1.c0; have q2 := y1.c1; have q3 := y2.c0; have q4 := y2.c1; have q5 := y3.c0; have q6 := y3.c1; go_simp <;> with_reducible rfl)
  try simp only [Act.put, List.setIfInBounds_toArray, List.set_cons_zero, List.set_cons_succ]
  refine wpAnyH_take (i := 6) (oi := ({ dst := some 43, op := Op.load 23 (Operand.tmp 4), type := 23, pos := "geom.go:70", after := #[], guard := none } : Oper)) (v := ?_) rfl (by kernel_rfl) (by kernel_rfl) (by kernel_rfl) (fun _ _ _ h => h) (Or.inl ⟨by rfl, ?_⟩) hs ?_
  rotate_left 1
  · (intro w' hw'; obtain ⟨y1, y2, y3, y4⟩ := hw'; have q1 := y1.c0; have q2 := y1.c1; have q3 := y2.c0; have q4 := y2.c1; have q5 := y3.c0; have q6 := y3.c1; go_simp <;> with_reducible rfl)
  try simp only [Act.put, List.setIfInBounds_toArray, List.set_cons_zero, List.set_cons_succ]
  refine wpAnyH_ready (rs := [3]) (by kernel_rfl) (by simp) ?_
  refine AllReadyH.cons (o := ({ dst := some 40, op := Op.call { callee := Callee.value (Operand.func 33), args := #[Operand.tmp 37, Operand.tmp 38, Operand.tmp 39], argTypes := #[23, 23, 23] }, type := 3, pos := "geom.go:70", after := #[{ on := 0, ground := Ground.data }, { on := 1, ground := Ground.data }, { on := 2, ground := Ground.data }], guard := none } : Oper)) rfl (fun K hK => ?_) AllReadyH.nil
  go_simp
  go_at_call 33
  refine (C1.out _).mono ?_
  rintro e w4 ⟨rfl, hb4⟩
  have B4 := Bl.trans (Bl.drew B3) hb4
  refine hK.out _ _ (⟨hs.1.bl hb4, hs.2.1.bl hb4, hs.2.2.1.bl hb4, by obtain ⟨u1, u2, hu⟩ := hs.2.2.2; exact ⟨u1, u2, hu.bl hb4⟩⟩) (fun hs1 => ?_)
  clear hK K
  try simp only [Act.put, List.setIfInBounds_toArray, List.set_cons_zero, List.set_cons_succ]
  refine wpAnyH_ready (rs := [7]) (by kernel_rfl) (by simp) ?_
  refine AllReadyH.cons (o := ({ dst := some 44, op := Op.call { callee := Callee.value (Operand.func 43), args := #[Operand.tmp 41, Operand.tmp 42, Operand.tmp 43], argTypes := #[23, 23, 23] }, type := 3, pos := "geom.go:70", after := #[{ on := 4, ground := Ground.data }, { on := 5, ground := Ground.data }, { on := 6, ground := Ground.data }, { on := 3, ground := Ground.chain }], guard := none } : Oper)) rfl (fun K hK => ?_) AllReadyH.nil
  go_simp
  go_at_call 43
  refine (D3.out _).mono ?_
  rintro e w5 ⟨rfl, hb5⟩
  have B5 := Bl.trans B4 hb5
  refine hK.out _ _ (⟨hs1.1.bl hb5, hs1.2.1.bl hb5, hs1.2.2.1.bl hb5, by obtain ⟨u1, u2, hu⟩ := hs1.2.2.2; exact ⟨u1, u2, hu.bl hb5⟩⟩) (fun hs2 => ?_)
  clear hK K
  try simp only [Act.put, List.setIfInBounds_toArray, List.set_cons_zero, List.set_cons_succ]
  refine wpAnyH_ready (rs := [8]) (by kernel_rfl) (by simp) ?_
  refine AllReadyH.cons (o := ({ dst := some 45, op := Op.call { callee := Callee.value (Operand.func 44), args := #[Operand.tmp 40, Operand.tmp 44], argTypes := #[3, 3] }, type := 32, pos := "geom.go:70", after := #[{ on := 3, ground := Ground.data }, { on := 7, ground := Ground.data }, { on := 7, ground := Ground.chain }], guard := none } : Oper)) rfl (fun K hK => ?_) AllReadyH.nil
  go_simp
  go_at_call 44
  refine (Q1.out _).mono ?_
  rintro e w6 ⟨rfl, hb6⟩
  have B6 := Bl.trans B5 hb6
  refine hK.out _ _ (⟨hs2.1.bl hb6, hs2.2.1.bl hb6, hs2.2.2.1.bl hb6, by obtain ⟨u1, u2, hu⟩ := hs2.2.2.2; exact ⟨u1, u2, hu.bl hb6⟩⟩) (fun hs3 => ?_)
  clear hK K
  try simp only [Act.put, List.setIfInBounds_toArray, List.set_cons_zero, List.set_cons_succ]
  refine wpAnyH_ready (rs := [9]) (by kernel_rfl) (by simp) ?_
  refine AllReadyH.cons (o := ({ dst := none, op := Op.store 32 (Operand.tmp 6) (Operand.tmp 45), type := 0, pos := "geom.go:70", after := #[{ on := 8, ground := Ground.data }, { on := 8, ground := Ground.chain }, { on := 0, ground := Ground.phase }, { on := 1, ground := Ground.phase }, { on := 2, ground := Ground.phase }, { on := 3, ground := Ground.phase }, { on := 4, ground := Ground.phase }, { on := 5, ground := Ground.phase }, { on := 6, ground := Ground.phase }, { on := 7, ground := Ground.phase }, { on := 8, ground := Ground.phase }], guard := none } : Oper)) rfl (fun K hK => ?_) AllReadyH.nil
  obtain ⟨u1, u2, Y6⟩ := hs3.2.2.2
  have k1 := Y6.c0
  have k2 := Y6.c1
  have k3 := Y6.fr 0
  have k4 := Y6.fr 1
  go_simp
  refine hK.out _ _ (⟨hs3.1.oth (by omega), hs3.2.1.oth (by omega), hs3.2.2.1.oth (by omega), _, _, Y6.set R.1 R.2⟩) (fun hs4 => ?_)
  clear hK K
  try simp only [Act.put, List.setIfInBounds_toArray, List.set_cons_zero, List.set_cons_succ]
  refine wpAnyH_done (by kernel_rfl) ?_ _
  refine NoPanic.normal ?_
  (try simp only [Exit.then])
  go_wp2_with fail
  have Yf := Y6.set R.1 R.2
  (try simp only [Exit.inBlock, Exit.then])
  refine bodyPost_ret (results_cell_row rfl _ _ _ _ _ _ _ rfl Yf Try.underlying32 rfl (by kernel_rfl)) rfl ?_
  exact ⟨rfl, (B6.setCell hg3 _).setCell hg3 _⟩
theorem Dist_any (a b p : P) (w : World) :
    Calls Try.prog 24 #[.agg #[.int .i64 a.1, .int .i64 a.2], .agg #[.int .i64 b.1, .int .i64 b.2], .agg #[.int .i64 p.1, .int .i64 p.2]] w (DisOut w (dis a b p)) := by
  have n1 := fun w' T g hg => Near3 a b p w' T g hg
  by_cases hn : Nrs [a, b, p]
  · rw [decide_eq_true hn] at n1
    obtain ⟨ha, hb, hp⟩ := nrs3.1 hn
    have D1 := fun w' => Dot_in a b p w' ha hb hp
    have D2 := fun w' => Dot_in b a p w' hb ha hp
    have e1 : dt b a b p = dt a b a b - dt a b a p := by unfold dt; grind
    rw [dis_near hn]
    by_cases h1 : dt a b a p ≤ 0
    · rw [if_pos h1]
      exact Dist_before _ _ _ _ _ _ w _ _ h1 (hid n1) (hid D1) (hid (fun w' => Dot_in a p p w' ha hp hp))
    · rw [if_neg h1]
      by_cases h2 : dt a b a b ≤ dt a b a p
      · rw [if_pos h2]
        exact Dist_behind _ _ _ _ _ _ w _ _ _ h1 (by rw [e1]; omega) (hid n1) (hid D1) (hid D2) (hid (fun w' => Dot_in b p p w' hb hp hp))
      · rw [if_neg h2]
        have bC := crs_bound ha hb ha hp
        have bN := dt_bound ha hb ha hb
        have bP := dt_bound ha hp ha hp
        have hsq := crs_sq a b p
        have hN : 0 < dt a b a b := by omega
        have hq : crs a b a p * crs a b a p / dt a b a b ≤ 35184372088832 := by
          refine Int.le_trans (Int.ediv_le_ediv hN hsq) ?_
          rw [Int.mul_ediv_cancel_left _ (by omega)]
          omega
        exact Dist_mid _ _ _ _ _ _ w _ _ _ _ _ h1 (by rw [e1]; omega) (hid n1) (hid D1) (hid D2) (hid (fun w' => Cross_in a b p w' ha hb hp)) (hid (fun w' => Dot_in a b b w' ha hb hb)) (hid (fun w' => SquareOver_in _ _ w' (by omega) hN bN.2 hq))
  · rw [decide_eq_false hn] at n1
    rw [dis_far hn]
    exact Dist_far _ _ _ _ _ _ w (hid n1)
end Go.Proofs.Ytjdkgndecnhokaa.Geom
