/- Contract of Meet of geom as it landed. (Written by wip/bin/mkmeetl.py.) -/
import Derived.Test.YtjdkgndecnhokaaECode7
import Derived.Test.YtjdkgndecnhokaaEMeet2
namespace Go.Proofs.Ytjdkgndecnhokaa.Geom
open Go.RowKit
open Go.Proofs.Ytjdkgndecnhokaa.Wire
set_option linter.unusedVariables false

theorem box4' (w : World) (a1 a2 b1 b2 c1 c2 d1 d2 : Int) : ∃ v, (((w.alloc (.cells #[.int .i64 a1, .int .i64 a2] 23)).alloc (.cells #[.int .i64 b1, .int .i64 b2] 23)).alloc (.cells #[.int .i64 c1, .int .i64 c2] 23)).alloc (.cells #[.int .i64 d1, .int .i64 d2] 23) = v ∧
    BX v w.heap.size a1 a2 ∧ BX v (w.heap.size + 1) b1 b2 ∧ BX v (w.heap.size + 1 + 1) c1 c2 ∧ BX v (w.heap.size + 1 + 1 + 1) d1 d2 ∧ Bl w v :=
  ⟨_, rfl, (box4 (Bl.refl _)).1, (box4 (Bl.refl _)).2.1, (box4 (Bl.refl _)).2.2.1, (box4 (Bl.refl _)).2.2.2, ((((Bl.refl w).alloc _).alloc _).alloc _).alloc _⟩
theorem sgn_bd (s : Int) : sgn s = -1 ∨ sgn s = 0 ∨ sgn s = 1 := by unfold sgn; split; simp; split <;> simp
set_option maxHeartbeats 8000000 in
theorem Meet_far (a1 a2 b1 b2 c1 c2 d1 d2 : Int) (w : World) (N1 : Hid (∀ (w' : World) (T : TypeId) (g : Nat), g = w'.heap.size → Calls Try.prog 32 #[.slice (some ⟨g, 0, none⟩) 4 4] (w'.alloc (.cells #[.int .i64 a1, .int .i64 a2, .int .i64 b1, .int .i64 b2, .int .i64 c1, .int .i64 c2, .int .i64 d1, .int .i64 d2] T)) fun e w'' => e = .returned (.bool false) ∧ Bl (w'.alloc (.cells #[.int .i64 a1, .int .i64 a2, .int .i64 b1, .int .i64 b2, .int .i64 c1, .int .i64 c2, .int .i64 d1, .int .i64 d2] T)) w'')) :
    Calls Try.prog 19 #[.agg #[.int .i64 a1, .int .i64 a2], .agg #[.int .i64 b1, .int .i64 b2], .agg #[.int .i64 c1, .int .i64 c2], .agg #[.int .i64 d1, .int .i64 d2]] w (fun e w' => e = .returned (.int .i64 0) ∧ Bl w w') := by
  go_enter Try.func19, Try.ntmps19
  go_wp2_with fail
  obtain ⟨v, ev, x1, x2, x3, x4, hv⟩ := box4' w a1 a2 b1 b2 c1 c2 d1 d2
  refine (N1.out _ _ _ (by simp)).mono ?_
  rw [ev]
  rintro e w1 ⟨rfl, hb1⟩
  have hB1 := Bl.trans (Bl.alloc hv _) hb1
  clear ev x1 x2 x3 x4 hb1
  go_wp2_with fail
  go_ret
  exact ⟨rfl, hB1⟩
set_option maxHeartbeats 8000000 in
theorem Meet_a (a1 a2 b1 b2 c1 c2 d1 d2 : Int) (w : World) (s1 s2 s3 s4 : Int) (g1 : -1 ≤ s1 * s2) (g2 : s1 * s2 ≤ 1) (g3 : -1 ≤ s3 * s4) (g4 : s3 * s4 ≤ 1) (h : 0 < s1 * s2) (N1 : Hid (∀ (w' : World) (T : TypeId) (g : Nat), g = w'.heap.size → Calls Try.prog 32 #[.slice (some ⟨g, 0, none⟩) 4 4] (w'.alloc (.cells #[.int .i64 a1, .int .i64 a2, .int .i64 b1, .int .i64 b2, .int .i64 c1, .int .i64 c2, .int .i64 d1, .int .i64 d2] T)) fun e w'' => e = .returned (.bool true) ∧ Bl (w'.alloc (.cells #[.int .i64 a1, .int .i64 a2, .int .i64 b1, .int .i64 b2, .int .i64 c1, .int .i64 c2, .int .i64 d1, .int .i64 d2] T)) w''))(S1 : Hid (∀ w', Calls Try.prog 13 #[.agg #[.int .i64 a1, .int .i64 a2], .agg #[.int .i64 b1, .int .i64 b2], .agg #[.int .i64 c1, .int .i64 c2]] w' fun e w'' => e = .returned (.int .i64 s1) ∧ Bl w' w'')) (S2 : Hid (∀ w', Calls Try.prog 13 #[.agg #[.int .i64 a1, .int .i64 a2], .agg #[.int .i64 b1, .int .i64 b2], .agg #[.int .i64 d1, .int .i64 d2]] w' fun e w'' => e = .returned (.int .i64 s2) ∧ Bl w' w'')) (S3 : Hid (∀ w', Calls Try.prog 13 #[.agg #[.int .i64 c1, .int .i64 c2], .agg #[.int .i64 d1, .int .i64 d2], .agg #[.int .i64 a1, .int .i64 a2]] w' fun e w'' => e = .returned (.int .i64 s3) ∧ Bl w' w'')) (S4 : Hid (∀ w', Calls Try.prog 13 #[.agg #[.int .i64 c1, .int .i64 c2], .agg #[.int .i64 d1, .int .i64 d2], .agg #[.int .i64 b1, .int .i64 b2]] w' fun e w'' => e = .returned (.int .i64 s4) ∧ Bl w' w'')) :
    Calls Try.prog 19 #[.agg #[.int .i64 a1, .int .i64 a2], .agg #[.int .i64 b1, .int .i64 b2], .agg #[.int .i64 c1, .int .i64 c2], .agg #[.int .i64 d1, .int .i64 d2]] w (fun e w' => e = .returned (.int .i64 0) ∧ Bl w w') := by
  go_enter Try.func19, Try.ntmps19
  go_wp2_with fail
  obtain ⟨v, ev, x1, x2, x3, x4, hv⟩ := box4' w a1 a2 b1 b2 c1 c2 d1 d2
  refine (N1.out _ _ _ (by simp)).mono ?_
  rw [ev]
  rintro e w1 ⟨rfl, hb1⟩
  have hB1 := Bl.trans (Bl.alloc hv _) hb1
  have x1 := (BX.al x1 _).bl hb1
  have x2 := (BX.al x2 _).bl hb1
  have x3 := (BX.al x3 _).bl hb1
  have x4 := (BX.al x4 _).bl hb1
  clear ev hb1
  have k1 := x1.c0
  have k2 := x1.c1
  have k3 := x2.c0
  have k4 := x2.c1
  have k5 := x3.c0
  have k6 := x3.c1
  have k7 := x4.c0
  have k8 := x4.c1
  go_wp2_with fail
  clear k1 k2 k3 k4 k5 k6 k7 k8
  refine wp_region_noPanic ?_
  refine wp_region_held_drew (S := fun w' => BX w' w.heap.size a1 a2 ∧ BX w' (w.heap.size + 1) b1 b2 ∧ BX w' (w.heap.size + 1 + 1) c1 c2 ∧ BX w' (w.heap.size + 1 + 1 + 1) d1 d2) (by kernel_rfl) ⟨x1, x2, x3, x4⟩ (fun hs => ?_)
  refine wpAnyH_take (i := 0) (oi := ({ dst := some 20, op := Op.load 23 (Operand.tmp 4), type := 23, pos := "geom.go:37", after := #[], guard := none } : Oper)) (v := ?_) rfl (by kernel_rfl) (by kernel_rfl) (by kernel_rfl) (fun _ _ _ h => h) (Or.inl ⟨by rfl, ?_⟩) hs ?_
  rotate_left 1
  · (intro w' hw'; obtain ⟨y1, y2, y3, y4⟩ := hw'; have q1 := y1.c0; have q2 := y1.c1; have q3 := y2.c0; have q4 := y2.c1; have q5 := y3.c0; have q6 := y3.c1; have q7 := y4.c0; have q8 := y4.c1; go_simp <;> with_reducible rfl)
  try simp only [Act.put, List.setIfInBounds_toArray, List.set_cons_zero, List.set_cons_succ]
  refine wpAnyH_take (i := 1) (oi := ({ dst := some 21, op := Op.load 23 (Operand.tmp 5), type := 23, pos := "geom.go:37", after := #[], guard := none } : Oper)) (v := ?_) rfl (by kernel_rfl) (by kernel_rfl) (by kernel_rfl) (fun _ _ _ h => h) (Or.inl ⟨by rfl, ?_⟩) hs ?_
  rotate_left 1
  · (intro w' hw'; obtain ⟨y1, y2, y3, y4⟩ := hw'; have q1 := y1.c0; have q2 := y1.c1; have q3 := y2.c0; have q4 := y2.c1; have q5 := y3.c0; have q6 := y3.c1; have q7 := y4.c0; have q8 := y4.c1; go_simp <;> with_reducible rfl)
  try simp only [Act.put, List.setIfInBounds_toArray, List.set_cons_zero, List.set_cons_succ]
  refine wpAnyH_take (i := 2) (oi := ({ dst := some 22, op := Op.load 23 (Operand.tmp 6), type := 23, pos := "geom.go:37", after := #[], guard := none } : Oper)) (v := ?_) rfl (by kernel_rfl) (by kernel_rfl) (by kernel_rfl) (fun _ _ _ h => h) (Or.inl ⟨by rfl, ?_⟩) hs ?_
  rotate_left 1
  · (intro w' hw'; obtain ⟨y1, y2, y3, y4⟩ := hw'; have q1 := y1.c0; have q2 := y1.c1; have q3 := y2.c0; have q4 := y2.c1; have q5 := y3.c0; have q6 := y3.c1; have q7 := y4.c0; have q8 := y4.c1; go_simp <;> with_reducible rfl)
  try simp only [Act.put, List.setIfInBounds_toArray, List.set_cons_zero, List.set_cons_succ]
  refine wpAnyH_take (i := 4) (oi := ({ dst := some 24, op := Op.load 23 (Operand.tmp 4), type := 23, pos := "geom.go:37", after := #[], guard := none } : Oper)) (v := ?_) rfl (by kernel_rfl) (by kernel_rfl) (by kernel_rfl) (fun _ _ _ h => h) (Or.inl ⟨by rfl, ?_⟩) hs ?_
  rotate_left 1
  · (intro w' hw'; obtain ⟨y1, y2, y3, y4⟩ := hw'; have q1 := y1.c0; have q2 := y1.c1; have q3 := y2.c0; have q4 := y2.c1; have q5 := y3.c0; have q6 := y3.c1; have q7 := y4.c0; have q8 := y4.c1; go_simp <;> with_reducible rfl)
  try simp only [Act.put, List.setIfInBounds_toArray, List.set_cons_zero, List.set_cons_succ]
  refine wpAnyH_take (i := 5) (oi := ({ dst := some 25, op := Op.load 23 (Operand.tmp 5), type := 23, pos := "geom.go:37", after := #[], guard := none } : Oper)) (v := ?_) rfl (by kernel_rfl) (by kernel_rfl) (by kernel_rfl) (fun _ _ _ h => h) (Or.inl ⟨by rfl, ?_⟩) hs ?_
  rotate_left 1
  · (intro w' hw'; obtain ⟨y1, y2, y3, y4⟩ := hw'; have q1 := y1.c0; have q2 := y1.c1; have q3 := y2.c0; have q4 := y2.c1; have q5 := y3.c0; have q6 := y3.c1; have q7 := y4.c0; have q8 := y4.c1; go_simp <;> with_reducible rfl)
  try simp only [Act.put, List.setIfInBounds_toArray, List.set_cons_zero, List.set_cons_succ]
  refine wpAnyH_take (i := 6) (oi := ({ dst := some 26, op := Op.load 23 (Operand.tmp 7), type := 23, pos := "geom.go:37", after := #[], guard := none } : Oper)) (v := ?_) rfl (by kernel_rfl) (by kernel_rfl) (by kernel_rfl) (fun _ _ _ h => h) (Or.inl ⟨by rfl, ?_⟩) hs ?_
  rotate_left 1
  · (intro w' hw'; obtain ⟨y1, y2, y3, y4⟩ := hw'; have q1 := y1.c0; have q2 := y1.c1; have q3 := y2.c0; have q4 := y2.c1; have q5 := y3.c0; have q6 := y3.c1; have q7 := y4.c0; have q8 := y4.c1; go_simp <;> with_reducible rfl)
  try simp only [Act.put, List.setIfInBounds_toArray, List.set_cons_zero, List.set_cons_succ]
  refine wpAnyH_ready (rs := [3]) (by kernel_rfl) (by simp) ?_
  refine AllReadyH.cons (o := ({ dst := some 23, op := Op.call { callee := Callee.value (Operand.func 13), args := #[Operand.tmp 20, Operand.tmp 21, Operand.tmp 22], argTypes := #[23, 23, 23] }, type := 3, pos := "geom.go:37", after := #[{ on := 0, ground := Ground.data }, { on := 1, ground := Ground.data }, { on := 2, ground := Ground.data }], guard := none } : Oper)) rfl (fun K hK => ?_) AllReadyH.nil
  go_simp
  go_at_call 13
  refine (S1.out _).mono ?_
  rintro e w2 ⟨rfl, hb1⟩
  have HBw2 := hid (Bl.trans (Bl.drew hB1) hb1)
  refine hK.out _ _ (⟨hs.1.bl hb1, hs.2.1.bl hb1, hs.2.2.1.bl hb1, hs.2.2.2.bl hb1⟩) (fun hs1 => ?_)
  clear hK K
  try simp only [Act.put, List.setIfInBounds_toArray, List.set_cons_zero, List.set_cons_succ]
  refine wpAnyH_ready (rs := [7]) (by kernel_rfl) (by simp) ?_
  refine AllReadyH.cons (o := ({ dst := some 27, op := Op.call { callee := Callee.value (Operand.func 13), args := #[Operand.tmp 24, Operand.tmp 25, Operand.tmp 26], argTypes := #[23, 23, 23] }, type := 3, pos := "geom.go:37", after := #[{ on := 4, ground := Ground.data }, { on := 5, ground := Ground.data }, { on := 6, ground := Ground.data }, { on := 3, ground := Ground.chain }], guard := none } : Oper)) rfl (fun K hK => ?_) AllReadyH.nil
  go_simp
  go_at_call 13
  refine (S2.out _).mono ?_
  rintro e w3 ⟨rfl, hb2⟩
  have HBw3 := hid (Bl.trans HBw2.out hb2)
  refine hK.out _ _ (⟨hs1.1.bl hb2, hs1.2.1.bl hb2, hs1.2.2.1.bl hb2, hs1.2.2.2.bl hb2⟩) (fun hs2 => ?_)
  clear hK K
  try simp only [Act.put, List.setIfInBounds_toArray, List.set_cons_zero, List.set_cons_succ]
  refine wpAnyH_take (i := 8) (oi := ({ dst := some 9, op := Op.assign (Operand.tmp 23), type := 3, pos := "geom.go:37", after := #[{ on := 3, ground := Ground.data }, { on := 7, ground := Ground.chain }, { on := 0, ground := Ground.phase }, { on := 1, ground := Ground.phase }, { on := 2, ground := Ground.phase }, { on := 3, ground := Ground.phase }, { on := 4, ground := Ground.textOnly Departure.lateStores }, { on := 5, ground := Ground.textOnly Departure.lateStores }, { on := 6, ground := Ground.textOnly Departure.lateStores }, { on := 7, ground := Ground.textOnly Departure.lateStoresUnsure }], guard := none } : Oper)) (v := ?_) rfl (by kernel_rfl) (by kernel_rfl) (by kernel_rfl) (fun _ _ _ h => h) (Or.inl ⟨by rfl, ?_⟩) hs2 ?_
  rotate_left 1
  · (intro w' hw'; go_simp <;> with_reducible rfl)
  try simp only [Act.put, List.setIfInBounds_toArray, List.set_cons_zero, List.set_cons_succ]
  refine wpAnyH_take (i := 9) (oi := ({ dst := some 10, op := Op.assign (Operand.tmp 27), type := 3, pos := "geom.go:37", after := #[{ on := 7, ground := Ground.data }, { on := 8, ground := Ground.chain }, { on := 0, ground := Ground.phase }, { on := 1, ground := Ground.phase }, { on := 2, ground := Ground.phase }, { on := 3, ground := Ground.phase }, { on := 4, ground := Ground.phase }, { on := 5, ground := Ground.phase }, { on := 6, ground := Ground.phase }, { on := 7, ground := Ground.phase }, { on := 8, ground := Ground.phase }], guard := none } : Oper)) (v := ?_) rfl (by kernel_rfl) (by kernel_rfl) (by kernel_rfl) (fun _ _ _ h => h) (Or.inl ⟨by rfl, ?_⟩) hs2 ?_
  rotate_left 1
  · (intro w' hw'; go_simp <;> with_reducible rfl)
  try simp only [Act.put, List.setIfInBounds_toArray, List.set_cons_zero, List.set_cons_succ]
  refine wpAnyH_done (by kernel_rfl) ?_ _
  refine NoPanic.normal ?_
  clear x1 x2 x3 x4
  go_wp2_with fail
  refine wp_region_noPanic ?_
  refine wp_region_held_drew (S := fun w' => BX w' w.heap.size a1 a2 ∧ BX w' (w.heap.size + 1) b1 b2 ∧ BX w' (w.heap.size + 1 + 1) c1 c2 ∧ BX w' (w.heap.size + 1 + 1 + 1) d1 d2) (by kernel_rfl) ⟨hs2.1, hs2.2.1, hs2.2.2.1, hs2.2.2.2⟩ (fun ht => ?_)
  refine wpAnyH_take (i := 0) (oi := ({ dst := some 28, op := Op.load 23 (Operand.tmp 6), type := 23, pos := "geom.go:38", after := #[], guard := none } : Oper)) (v := ?_) rfl (by kernel_rfl) (by kernel_rfl) (by kernel_rfl) (fun _ _ _ h => h) (Or.inl ⟨by rfl, ?_⟩) ht ?_
  rotate_left 1
  · (intro w' hw'; obtain ⟨y1, y2, y3, y4⟩ := hw'; have q1 := y1.c0; have q2 := y1.c1; have q3 := y2.c0; have q4 := y2.c1; have q5 := y3.c0; have q6 := y3.c1; have q7 := y4.c0; have q8 := y4.c1; go_simp <;> with_reducible rfl)
  try simp only [Act.put, List.setIfInBounds_toArray, List.set_cons_zero, List.set_cons_succ]
  refine wpAnyH_take (i := 1) (oi := ({ dst := some 29, op := Op.load 23 (Operand.tmp 7), type := 23, pos := "geom.go:38", after := #[], guard := none } : Oper)) (v := ?_) rfl (by kernel_rfl) (by kernel_rfl) (by kernel_rfl) (fun _ _ _ h => h) (Or.inl ⟨by rfl, ?_⟩) ht ?_
  rotate_left 1
  · (intro w' hw'; obtain ⟨y1, y2, y3, y4⟩ := hw'; have q1 := y1.c0; have q2 := y1.c1; have q3 := y2.c0; have q4 := y2.c1; have q5 := y3.c0; have q6 := y3.c1; have q7 := y4.c0; have q8 := y4.c1; go_simp <;> with_reducible rfl)
  try simp only [Act.put, List.setIfInBounds_toArray, List.set_cons_zero, List.set_cons_succ]
  refine wpAnyH_take (i := 2) (oi := ({ dst := some 30, op := Op.load 23 (Operand.tmp 4), type := 23, pos := "geom.go:38", after := #[], guard := none } : Oper)) (v := ?_) rfl (by kernel_rfl) (by kernel_rfl) (by kernel_rfl) (fun _ _ _ h => h) (Or.inl ⟨by rfl, ?_⟩) ht ?_
  rotate_left 1
  · (intro w' hw'; obtain ⟨y1, y2, y3, y4⟩ := hw'; have q1 := y1.c0; have q2 := y1.c1; have q3 := y2.c0; have q4 := y2.c1; have q5 := y3.c0; have q6 := y3.c1; have q7 := y4.c0; have q8 := y4.c1; go_simp <;> with_reducible rfl)
  try simp only [Act.put, List.setIfInBounds_toArray, List.set_cons_zero, List.set_cons_succ]
  refine wpAnyH_take (i := 4) (oi := ({ dst := some 32, op := Op.load 23 (Operand.tmp 6), type := 23, pos := "geom.go:38", after := #[], guard := none } : Oper)) (v := ?_) rfl (by kernel_rfl) (by kernel_rfl) (by kernel_rfl) (fun _ _ _ h => h) (Or.inl ⟨by rfl, ?_⟩) ht ?_
  rotate_left 1
  · (intro w' hw'; obtain ⟨y1, y2, y3, y4⟩ := hw'; have q1 := y1.c0; have q2 := y1.c1; have q3 := y2.c0; have q4 := y2.c1; have q5 := y3.c0; have q6 := y3.c1; have q7 := y4.c0; have q8 := y4.c1; go_simp <;> with_reducible rfl)
  try simp only [Act.put, List.setIfInBounds_toArray, List.set_cons_zero, List.set_cons_succ]
  refine wpAnyH_take (i := 5) (oi := ({ dst := some 33, op := Op.load 23 (Operand.tmp 7), type := 23, pos := "geom.go:38", after := #[], guard := none } : Oper)) (v := ?_) rfl (by kernel_rfl) (by kernel_rfl) (by kernel_rfl) (fun _ _ _ h => h) (Or.inl ⟨by rfl, ?_⟩) ht ?_
  rotate_left 1
  · (intro w' hw'; obtain ⟨y1, y2, y3, y4⟩ := hw'; have q1 := y1.c0; have q2 := y1.c1; have q3 := y2.c0; have q4 := y2.c1; have q5 := y3.c0; have q6 := y3.c1; have q7 := y4.c0; have q8 := y4.c1; go_simp <;> with_reducible rfl)
  try simp only [Act.put, List.setIfInBounds_toArray, List.set_cons_zero, List.set_cons_succ]
  refine wpAnyH_take (i := 6) (oi := ({ dst := some 34, op := Op.load 23 (Operand.tmp 5), type := 23, pos := "geom.go:38", after := #[], guard := none } : Oper)) (v := ?_) rfl (by kernel_rfl) (by kernel_rfl) (by kernel_rfl) (fun _ _ _ h => h) (Or.inl ⟨by rfl, ?_⟩) ht ?_
  rotate_left 1
  · (intro w' hw'; obtain ⟨y1, y2, y3, y4⟩ := hw'; have q1 := y1.c0; have q2 := y1.c1; have q3 := y2.c0; have q4 := y2.c1; have q5 := y3.c0; have q6 := y3.c1; have q7 := y4.c0; have q8 := y4.c1; go_simp <;> with_reducible rfl)
  try simp only [Act.put, List.setIfInBounds_toArray, List.set_cons_zero, List.set_cons_succ]
  refine wpAnyH_ready (rs := [3]) (by kernel_rfl) (by simp) ?_
  refine AllReadyH.cons (o := ({ dst := some 31, op := Op.call { callee := Callee.value (Operand.func 13), args := #[Operand.tmp 28, Operand.tmp 29, Operand.tmp 30], argTypes := #[23, 23, 23] }, type := 3, pos := "geom.go:38", after := #[{ on := 0, ground := Ground.data }, { on := 1, ground := Ground.data }, { on := 2, ground := Ground.data }], guard := none } : Oper)) rfl (fun K hK => ?_) AllReadyH.nil
  go_simp
  go_at_call 13
  refine (S3.out _).mono ?_
  rintro e w4 ⟨rfl, hb1⟩
  have HBw4 := hid (Bl.trans (Bl.drew HBw3.out) hb1)
  refine hK.out _ _ (⟨ht.1.bl hb1, ht.2.1.bl hb1, ht.2.2.1.bl hb1, ht.2.2.2.bl hb1⟩) (fun ht1 => ?_)
  clear hK K
  try simp only [Act.put, List.setIfInBounds_toArray, List.set_cons_zero, List.set_cons_succ]
  refine wpAnyH_ready (rs := [7]) (by kernel_rfl) (by simp) ?_
  refine AllReadyH.cons (o := ({ dst := some 35, op := Op.call { callee := Callee.value (Operand.func 13), args := #[Operand.tmp 32, Operand.tmp 33, Operand.tmp 34], argTypes := #[23, 23, 23] }, type := 3, pos := "geom.go:38", after := #[{ on := 4, ground := Ground.data }, { on := 5, ground := Ground.data }, { on := 6, ground := Ground.data }, { on := 3, ground := Ground.chain }], guard := none } : Oper)) rfl (fun K hK => ?_) AllReadyH.nil
  go_simp
  go_at_call 13
  refine (S4.out _).mono ?_
  rintro e w5 ⟨rfl, hb2⟩
  have HBw5 := hid (Bl.trans HBw4.out hb2)
  refine hK.out _ _ (⟨ht1.1.bl hb2, ht1.2.1.bl hb2, ht1.2.2.1.bl hb2, ht1.2.2.2.bl hb2⟩) (fun ht2 => ?_)
  clear hK K
  try simp only [Act.put, List.setIfInBounds_toArray, List.set_cons_zero, List.set_cons_succ]
  refine wpAnyH_take (i := 8) (oi := ({ dst := some 11, op := Op.assign (Operand.tmp 31), type := 3, pos := "geom.go:38", after := #[{ on := 3, ground := Ground.data }, { on := 7, ground := Ground.chain }, { on := 0, ground := Ground.phase }, { on := 1, ground := Ground.phase }, { on := 2, ground := Ground.phase }, { on := 3, ground := Ground.phase }, { on := 4, ground := Ground.textOnly Departure.lateStores }, { on := 5, ground := Ground.textOnly Departure.lateStores }, { on := 6, ground := Ground.textOnly Departure.lateStores }, { on := 7, ground := Ground.textOnly Departure.lateStoresUnsure }], guard := none } : Oper)) (v := ?_) rfl (by kernel_rfl) (by kernel_rfl) (by kernel_rfl) (fun _ _ _ h => h) (Or.inl ⟨by rfl, ?_⟩) ht2 ?_
  rotate_left 1
  · (intro w' hw'; go_simp <;> with_reducible rfl)
  try simp only [Act.put, List.setIfInBounds_toArray, List.set_cons_zero, List.set_cons_succ]
  refine wpAnyH_take (i := 9) (oi := ({ dst := some 12, op := Op.assign (Operand.tmp 35), type := 3, pos := "geom.go:38", after := #[{ on := 7, ground := Ground.data }, { on := 8, ground := Ground.chain }, { on := 0, ground := Ground.phase }, { on := 1, ground := Ground.phase }, { on := 2, ground := Ground.phase }, { on := 3, ground := Ground.phase }, { on := 4, ground := Ground.phase }, { on := 5, ground := Ground.phase }, { on := 6, ground := Ground.phase }, { on := 7, ground := Ground.phase }, { on := 8, ground := Ground.phase }], guard := none } : Oper)) (v := ?_) rfl (by kernel_rfl) (by kernel_rfl) (by kernel_rfl) (fun _ _ _ h => h) (Or.inl ⟨by rfl, ?_⟩) ht2 ?_
  rotate_left 1
  · (intro w' hw'; go_simp <;> with_reducible rfl)
  try simp only [Act.put, List.setIfInBounds_toArray, List.set_cons_zero, List.set_cons_succ]
  refine wpAnyH_done (by kernel_rfl) ?_ _
  refine NoPanic.normal ?_
  obtain ⟨z1, z2, z3, z4⟩ := ht2
  have k1 := z1.c0
  have k2 := z1.c1
  have k3 := z2.c0
  have k4 := z2.c1
  have k5 := z3.c0
  have k6 := z3.c1
  have k7 := z4.c0
  have k8 := z4.c1
  clear z1 z2 z3 z4
  go_wp2_with fail
  go_ret
  exact ⟨rfl, HBw5.out⟩
set_option maxHeartbeats 8000000 in
theorem Meet_b (a1 a2 b1 b2 c1 c2 d1 d2 : Int) (w : World) (s1 s2 s3 s4 : Int) (g1 : -1 ≤ s1 * s2) (g2 : s1 * s2 ≤ 1) (g3 : -1 ≤ s3 * s4) (g4 : s3 * s4 ≤ 1) (h : ¬ 0 < s1 * s2) (h2 : 0 < s3 * s4) (N1 : Hid (∀ (w' : World) (T : TypeId) (g : Nat), g = w'.heap.size → Calls Try.prog 32 #[.slice (some ⟨g, 0, none⟩) 4 4] (w'.alloc (.cells #[.int .i64 a1, .int .i64 a2, .int .i64 b1, .int .i64 b2, .int .i64 c1, .int .i64 c2, .int .i64 d1, .int .i64 d2] T)) fun e w'' => e = .returned (.bool true) ∧ Bl (w'.alloc (.cells #[.int .i64 a1, .int .i64 a2, .int .i64 b1, .int .i64 b2, .int .i64 c1, .int .i64 c2, .int .i64 d1, .int .i64 d2] T)) w''))(S1 : Hid (∀ w', Calls Try.prog 13 #[.agg #[.int .i64 a1, .int .i64 a2], .agg #[.int .i64 b1, .int .i64 b2], .agg #[.int .i64 c1, .int .i64 c2]] w' fun e w'' => e = .returned (.int .i64 s1) ∧ Bl w' w'')) (S2 : Hid (∀ w', Calls Try.prog 13 #[.agg #[.int .i64 a1, .int .i64 a2], .agg #[.int .i64 b1, .int .i64 b2], .agg #[.int .i64 d1, .int .i64 d2]] w' fun e w'' => e = .returned (.int .i64 s2) ∧ Bl w' w'')) (S3 : Hid (∀ w', Calls Try.prog 13 #[.agg #[.int .i64 c1, .int .i64 c2], .agg #[.int .i64 d1, .int .i64 d2], .agg #[.int .i64 a1, .int .i64 a2]] w' fun e w'' => e = .returned (.int .i64 s3) ∧ Bl w' w'')) (S4 : Hid (∀ w', Calls Try.prog 13 #[.agg #[.int .i64 c1, .int .i64 c2], .agg #[.int .i64 d1, .int .i64 d2], .agg #[.int .i64 b1, .int .i64 b2]] w' fun e w'' => e = .returned (.int .i64 s4) ∧ Bl w' w'')) :
    Calls Try.prog 19 #[.agg #[.int .i64 a1, .int .i64 a2], .agg #[.int .i64 b1, .int .i64 b2], .agg #[.int .i64 c1, .int .i64 c2], .agg #[.int .i64 d1, .int .i64 d2]] w (fun e w' => e = .returned (.int .i64 0) ∧ Bl w w') := by
  go_enter Try.func19, Try.ntmps19
  go_wp2_with fail
  obtain ⟨v, ev, x1, x2, x3, x4, hv⟩ := box4' w a1 a2 b1 b2 c1 c2 d1 d2
  refine (N1.out _ _ _ (by simp)).mono ?_
  rw [ev]
  rintro e w1 ⟨rfl, hb1⟩
  have hB1 := Bl.trans (Bl.alloc hv _) hb1
  have x1 := (BX.al x1 _).bl hb1
  have x2 := (BX.al x2 _).bl hb1
  have x3 := (BX.al x3 _).bl hb1
  have x4 := (BX.al x4 _).bl hb1
  clear ev hb1
  have k1 := x1.c0
  have k2 := x1.c1
  have k3 := x2.c0
  have k4 := x2.c1
  have k5 := x3.c0
  have k6 := x3.c1
  have k7 := x4.c0
  have k8 := x4.c1
  go_wp2_with fail
  clear k1 k2 k3 k4 k5 k6 k7 k8
  refine wp_region_noPanic ?_
  refine wp_region_held_drew (S := fun w' => BX w' w.heap.size a1 a2 ∧ BX w' (w.heap.size + 1) b1 b2 ∧ BX w' (w.heap.size + 1 + 1) c1 c2 ∧ BX w' (w.heap.size + 1 + 1 + 1) d1 d2) (by kernel_rfl) ⟨x1, x2, x3, x4⟩ (fun hs => ?_)
  refine wpAnyH_take (i := 0) (oi := ({ dst := some 20, op := Op.load 23 (Operand.tmp 4), type := 23, pos := "geom.go:37", after := #[], guard := none } : Oper)) (v := ?_) rfl (by kernel_rfl) (by kernel_rfl) (by kernel_rfl) (fun _ _ _ h => h) (Or.inl ⟨by rfl, ?_⟩) hs ?_
  rotate_left 1
  · (intro w' hw'; obtain ⟨y1, y2, y3, y4⟩ := hw'; have q1 := y1.c0; have q2 := y1.c1; have q3 := y2.c0; have q4 := y2.c1; have q5 := y3.c0; have q6 := y3.c1; have q7 := y4.c0; have q8 := y4.c1; go_simp <;> with_reducible rfl)
  try simp only [Act.put, List.setIfInBounds_toArray, List.set_cons_zero, List.set_cons_succ]
  refine wpAnyH_take (i := 1) (oi := ({ dst := some 21, op := Op.load 23 (Operand.tmp 5), type := 23, pos := "geom.go:37", after := #[], guard := none } : Oper)) (v := ?_) rfl (by kernel_rfl) (by kernel_rfl) (by kernel_rfl) (fun _ _ _ h => h) (Or.inl ⟨by rfl, ?_⟩) hs ?_
  rotate_left 1
  · (intro w' hw'; obtain ⟨y1, y2, y3, y4⟩ := hw'; have q1 := y1.c0; have q2 := y1.c1; have q3 := y2.c0; have q4 := y2.c1; have q5 := y3.c0; have q6 := y3.c1; have q7 := y4.c0; have q8 := y4.c1; go_simp <;> with_reducible rfl)
  try simp only [Act.put, List.setIfInBounds_toArray, List.set_cons_zero, List.set_cons_succ]
  refine wpAnyH_take (i := 2) (oi := ({ dst := some 22, op := Op.load 23 (Operand.tmp 6), type := 23, pos := "geom.go:37", after := #[], guard := none } : Oper)) (v := ?_) rfl (by kernel_rfl) (by kernel_rfl) (by kernel_rfl) (fun _ _ _ h => h) (Or.inl ⟨by rfl, ?_⟩) hs ?_
  rotate_left 1
  · (intro w' hw'; obtain ⟨y1, y2, y3, y4⟩ := hw'; have q1 := y1.c0; have q2 := y1.c1; have q3 := y2.c0; have q4 := y2.c1; have q5 := y3.c0; have q6 := y3.c1; have q7 := y4.c0; have q8 := y4.c1; go_simp <;> with_reducible rfl)
  try simp only [Act.put, List.setIfInBounds_toArray, List.set_cons_zero, List.set_cons_succ]
  refine wpAnyH_take (i := 4) (oi := ({ dst := some 24, op := Op.load 23 (Operand.tmp 4), type := 23, pos := "geom.go:37", after := #[], guard := none } : Oper)) (v := ?_) rfl (by kernel_rfl) (by kernel_rfl) (by kernel_rfl) (fun _ _ _ h => h) (Or.inl ⟨by rfl, ?_⟩) hs ?_
  rotate_left 1
  · (intro w' hw'; obtain ⟨y1, y2, y3, y4⟩ := hw'; have q1 := y1.c0; have q2 := y1.c1; have q3 := y2.c0; have q4 := y2.c1; have q5 := y3.c0; have q6 := y3.c1; have q7 := y4.c0; have q8 := y4.c1; go_simp <;> with_reducible rfl)
  try simp only [Act.put, List.setIfInBounds_toArray, List.set_cons_zero, List.set_cons_succ]
  refine wpAnyH_take (i := 5) (oi := ({ dst := some 25, op := Op.load 23 (Operand.tmp 5), type := 23, pos := "geom.go:37", after := #[], guard := none } : Oper)) (v := ?_) rfl (by kernel_rfl) (by kernel_rfl) (by kernel_rfl) (fun _ _ _ h => h) (Or.inl ⟨by rfl, ?_⟩) hs ?_
  rotate_left 1
  · (intro w' hw'; obtain ⟨y1, y2, y3, y4⟩ := hw'; have q1 := y1.c0; have q2 := y1.c1; have q3 := y2.c0; have q4 := y2.c1; have q5 := y3.c0; have q6 := y3.c1; have q7 := y4.c0; have q8 := y4.c1; go_simp <;> with_reducible rfl)
  try simp only [Act.put, List.setIfInBounds_toArray, List.set_cons_zero, List.set_cons_succ]
  refine wpAnyH_take (i := 6) (oi := ({ dst := some 26, op := Op.load 23 (Operand.tmp 7), type := 23, pos := "geom.go:37", after := #[], guard := none } : Oper)) (v := ?_) rfl (by kernel_rfl) (by kernel_rfl) (by kernel_rfl) (fun _ _ _ h => h) (Or.inl ⟨by rfl, ?_⟩) hs ?_
  rotate_left 1
  · (intro w' hw'; obtain ⟨y1, y2, y3, y4⟩ := hw'; have q1 := y1.c0; have q2 := y1.c1; have q3 := y2.c0; have q4 := y2.c1; have q5 := y3.c0; have q6 := y3.c1; have q7 := y4.c0; have q8 := y4.c1; go_simp <;> with_reducible rfl)
  try simp only [Act.put, List.setIfInBounds_toArray, List.set_cons_zero, List.set_cons_succ]
  refine wpAnyH_ready (rs := [3]) (by kernel_rfl) (by simp) ?_
  refine AllReadyH.cons (o := ({ dst := some 23, op := Op.call { callee := Callee.value (Operand.func 13), args := #[Operand.tmp 20, Operand.tmp 21, Operand.tmp 22], argTypes := #[23, 23, 23] }, type := 3, pos := "geom.go:37", after := #[{ on := 0, ground := Ground.data }, { on := 1, ground := Ground.data }, { on := 2, ground := Ground.data }], guard := none } : Oper)) rfl (fun K hK => ?_) AllReadyH.nil
  go_simp
  go_at_call 13
  refine (S1.out _).mono ?_
  rintro e w2 ⟨rfl, hb1⟩
  have HBw2 := hid (Bl.trans (Bl.drew hB1) hb1)
  refine hK.out _ _ (⟨hs.1.bl hb1, hs.2.1.bl hb1, hs.2.2.1.bl hb1, hs.2.2.2.bl hb1⟩) (fun hs1 => ?_)
  clear hK K
  try simp only [Act.put, List.setIfInBounds_toArray, List.set_cons_zero, List.set_cons_succ]
  refine wpAnyH_ready (rs := [7]) (by kernel_rfl) (by simp) ?_
  refine AllReadyH.cons (o := ({ dst := some 27, op := Op.call { callee := Callee.value (Operand.func 13), args := #[Operand.tmp 24, Operand.tmp 25, Operand.tmp 26], argTypes := #[23, 23, 23] }, type := 3, pos := "geom.go:37", after := #[{ on := 4, ground := Ground.data }, { on := 5, ground := Ground.data }, { on := 6, ground := Ground.data }, { on := 3, ground := Ground.chain }], guard := none } : Oper)) rfl (fun K hK => ?_) AllReadyH.nil
  go_simp
  go_at_call 13
  refine (S2.out _).mono ?_
  rintro e w3 ⟨rfl, hb2⟩
  have HBw3 := hid (Bl.trans HBw2.out hb2)
  refine hK.out _ _ (⟨hs1.1.bl hb2, hs1.2.1.bl hb2, hs1.2.2.1.bl hb2, hs1.2.2.2.bl hb2⟩) (fun hs2 => ?_)
  clear hK K
  try simp only [Act.put, List.setIfInBounds_toArray, List.set_cons_zero, List.set_cons_succ]
  refine wpAnyH_take (i := 8) (oi := ({ dst := some 9, op := Op.assign (Operand.tmp 23), type := 3, pos := "geom.go:37", after := #[{ on := 3, ground := Ground.data }, { on := 7, ground := Ground.chain }, { on := 0, ground := Ground.phase }, { on := 1, ground := Ground.phase }, { on := 2, ground := Ground.phase }, { on := 3, ground := Ground.phase }, { on := 4, ground := Ground.textOnly Departure.lateStores }, { on := 5, ground := Ground.textOnly Departure.lateStores }, { on := 6, ground := Ground.textOnly Departure.lateStores }, { on := 7, ground := Ground.textOnly Departure.lateStoresUnsure }], guard := none } : Oper)) (v := ?_) rfl (by kernel_rfl) (by kernel_rfl) (by kernel_rfl) (fun _ _ _ h => h) (Or.inl ⟨by rfl, ?_⟩) hs2 ?_
  rotate_left 1
  · (intro w' hw'; go_simp <;> with_reducible rfl)
  try simp only [Act.put, List.setIfInBounds_toArray, List.set_cons_zero, List.set_cons_succ]
  refine wpAnyH_take (i := 9) (oi := ({ dst := some 10, op := Op.assign (Operand.tmp 27), type := 3, pos := "geom.go:37", after := #[{ on := 7, ground := Ground.data }, { on := 8, ground := Ground.chain }, { on := 0, ground := Ground.phase }, { on := 1, ground := Ground.phase }, { on := 2, ground := Ground.phase }, { on := 3, ground := Ground.phase }, { on := 4, ground := Ground.phase }, { on := 5, ground := Ground.phase }, { on := 6, ground := Ground.phase }, { on := 7, ground := Ground.phase }, { on := 8, ground := Ground.phase }], guard := none } : Oper)) (v := ?_) rfl (by kernel_rfl) (by kernel_rfl) (by kernel_rfl) (fun _ _ _ h => h) (Or.inl ⟨by rfl, ?_⟩) hs2 ?_
  rotate_left 1
  · (intro w' hw'; go_simp <;> with_reducible rfl)
  try simp only [Act.put, List.setIfInBounds_toArray, List.set_cons_zero, List.set_cons_succ]
  refine wpAnyH_done (by kernel_rfl) ?_ _
  refine NoPanic.normal ?_
  clear x1 x2 x3 x4
  go_wp2_with fail
  refine wp_region_noPanic ?_
  refine wp_region_held_drew (S := fun w' => BX w' w.heap.size a1 a2 ∧ BX w' (w.heap.size + 1) b1 b2 ∧ BX w' (w.heap.size + 1 + 1) c1 c2 ∧ BX w' (w.heap.size + 1 + 1 + 1) d1 d2) (by kernel_rfl) ⟨hs2.1, hs2.2.1, hs2.2.2.1, hs2.2.2.2⟩ (fun ht => ?_)
  refine wpAnyH_take (i := 0) (oi := ({ dst := some 28, op := Op.load 23 (Operand.tmp 6), type := 23, pos := "geom.go:38", after := #[], guard := none } : Oper)) (v := ?_) rfl (by kernel_rfl) (by kernel_rfl) (by kernel_rfl) (fun _ _ _ h => h) (Or.inl ⟨by rfl, ?_⟩) ht ?_
  rotate_left 1
  · (intro w' hw'; obtain ⟨y1, y2, y3, y4⟩ := hw'; have q1 := y1.c0; have q2 := y1.c1; have q3 := y2.c0; have q4 := y2.c1; have q5 := y3.c0; have q6 := y3.c1; have q7 := y4.c0; have q8 := y4.c1; go_simp <;> with_reducible rfl)
  try simp only [Act.put, List.setIfInBounds_toArray, List.set_cons_zero, List.set_cons_succ]
  refine wpAnyH_take (i := 1) (oi := ({ dst := some 29, op := Op.load 23 (Operand.tmp 7), type := 23, pos := "geom.go:38", after := #[], guard := none } : Oper)) (v := ?_) rfl (by kernel_rfl) (by kernel_rfl) (by kernel_rfl) (fun _ _ _ h => h) (Or.inl ⟨by rfl, ?_⟩) ht ?_
  rotate_left 1
  · (intro w' hw'; obtain ⟨y1, y2, y3, y4⟩ := hw'; have q1 := y1.c0; have q2 := y1.c1; have q3 := y2.c0; have q4 := y2.c1; have q5 := y3.c0; have q6 := y3.c1; have q7 := y4.c0; have q8 := y4.c1; go_simp <;> with_reducible rfl)
  try simp only [Act.put, List.setIfInBounds_toArray, List.set_cons_zero, List.set_cons_succ]
  refine wpAnyH_take (i := 2) (oi := ({ dst := some 30, op := Op.load 23 (Operand.tmp 4), type := 23, pos := "geom.go:38", after := #[], guard := none } : Oper)) (v := ?_) rfl (by kernel_rfl) (by kernel_rfl) (by kernel_rfl) (fun _ _ _ h => h) (Or.inl ⟨by rfl, ?_⟩) ht ?_
  rotate_left 1
  · (intro w' hw'; obtain ⟨y1, y2, y3, y4⟩ := hw'; have q1 := y1.c0; have q2 := y1.c1; have q3 := y2.c0; have q4 := y2.c1; have q5 := y3.c0; have q6 := y3.c1; have q7 := y4.c0; have q8 := y4.c1; go_simp <;> with_reducible rfl)
  try simp only [Act.put, List.setIfInBounds_toArray, List.set_cons_zero, List.set_cons_succ]
  refine wpAnyH_take (i := 4) (oi := ({ dst := some 32, op := Op.load 23 (Operand.tmp 6), type := 23, pos := "geom.go:38", after := #[], guard := none } : Oper)) (v := ?_) rfl (by kernel_rfl) (by kernel_rfl) (by kernel_rfl) (fun _ _ _ h => h) (Or.inl ⟨by rfl, ?_⟩) ht ?_
  rotate_left 1
  · (intro w' hw'; obtain ⟨y1, y2, y3, y4⟩ := hw'; have q1 := y1.c0; have q2 := y1.c1; have q3 := y2.c0; have q4 := y2.c1; have q5 := y3.c0; have q6 := y3.c1; have q7 := y4.c0; have q8 := y4.c1; go_simp <;> with_reducible rfl)
  try simp only [Act.put, List.setIfInBounds_toArray, List.set_cons_zero, List.set_cons_succ]
  refine wpAnyH_take (i := 5) (oi := ({ dst := some 33, op := Op.load 23 (Operand.tmp 7), type := 23, pos := "geom.go:38", after := #[], guard := none } : Oper)) (v := ?_) rfl (by kernel_rfl) (by kernel_rfl) (by kernel_rfl) (fun _ _ _ h => h) (Or.inl ⟨by rfl, ?_⟩) ht ?_
  rotate_left 1
  · (intro w' hw'; obtain ⟨y1, y2, y3, y4⟩ := hw'; have q1 := y1.c0; have q2 := y1.c1; have q3 := y2.c0; have q4 := y2.c1; have q5 := y3.c0; have q6 := y3.c1; have q7 := y4.c0; have q8 := y4.c1; go_simp <;> with_reducible rfl)
  try simp only [Act.put, List.setIfInBounds_toArray, List.set_cons_zero, List.set_cons_succ]
  refine wpAnyH_take (i := 6) (oi := ({ dst := some 34, op := Op.load 23 (Operand.tmp 5), type := 23, pos := "geom.go:38", after := #[], guard := none } : Oper)) (v := ?_) rfl (by kernel_rfl) (by kernel_rfl) (by kernel_rfl) (fun _ _ _ h => h) (Or.inl ⟨by rfl, ?_⟩) ht ?_
  rotate_left 1
  · (intro w' hw'; obtain ⟨y1, y2, y3, y4⟩ := hw'; have q1 := y1.c0; have q2 := y1.c1; have q3 := y2.c0; have q4 := y2.c1; have q5 := y3.c0; have q6 := y3.c1; have q7 := y4.c0; have q8 := y4.c1; go_simp <;> with_reducible rfl)
  try simp only [Act.put, List.setIfInBounds_toArray, List.set_cons_zero, List.set_cons_succ]
  refine wpAnyH_ready (rs := [3]) (by kernel_rfl) (by simp) ?_
  refine AllReadyH.cons (o := ({ dst := some 31, op := Op.call { callee := Callee.value (Operand.func 13), args := #[Operand.tmp 28, Operand.tmp 29, Operand.tmp 30], argTypes := #[23, 23, 23] }, type := 3, pos := "geom.go:38", after := #[{ on := 0, ground := Ground.data }, { on := 1, ground := Ground.data }, { on := 2, ground := Ground.data }], guard := none } : Oper)) rfl (fun K hK => ?_) AllReadyH.nil
  go_simp
  go_at_call 13
  refine (S3.out _).mono ?_
  rintro e w4 ⟨rfl, hb1⟩
  have HBw4 := hid (Bl.trans (Bl.drew HBw3.out) hb1)
  refine hK.out _ _ (⟨ht.1.bl hb1, ht.2.1.bl hb1, ht.2.2.1.bl hb1, ht.2.2.2.bl hb1⟩) (fun ht1 => ?_)
  clear hK K
  try simp only [Act.put, List.setIfInBounds_toArray, List.set_cons_zero, List.set_cons_succ]
  refine wpAnyH_ready (rs := [7]) (by kernel_rfl) (by simp) ?_
  refine AllReadyH.cons (o := ({ dst := some 35, op := Op.call { callee := Callee.value (Operand.func 13), args := #[Operand.tmp 32, Operand.tmp 33, Operand.tmp 34], argTypes := #[23, 23, 23] }, type := 3, pos := "geom.go:38", after := #[{ on := 4, ground := Ground.data }, { on := 5, ground := Ground.data }, { on := 6, ground := Ground.data }, { on := 3, ground := Ground.chain }], guard := none } : Oper)) rfl (fun K hK => ?_) AllReadyH.nil
  go_simp
  go_at_call 13
  refine (S4.out _).mono ?_
  rintro e w5 ⟨rfl, hb2⟩
  have HBw5 := hid (Bl.trans HBw4.out hb2)
  refine hK.out _ _ (⟨ht1.1.bl hb2, ht1.2.1.bl hb2, ht1.2.2.1.bl hb2, ht1.2.2.2.bl hb2⟩) (fun ht2 => ?_)
  clear hK K
  try simp only [Act.put, List.setIfInBounds_toArray, List.set_cons_zero, List.set_cons_succ]
  refine wpAnyH_take (i := 8) (oi := ({ dst := some 11, op := Op.assign (Operand.tmp 31), type := 3, pos := "geom.go:38", after := #[{ on := 3, ground := Ground.data }, { on := 7, ground := Ground.chain }, { on := 0, ground := Ground.phase }, { on := 1, ground := Ground.phase }, { on := 2, ground := Ground.phase }, { on := 3, ground := Ground.phase }, { on := 4, ground := Ground.textOnly Departure.lateStores }, { on := 5, ground := Ground.textOnly Departure.lateStores }, { on := 6, ground := Ground.textOnly Departure.lateStores }, { on := 7, ground := Ground.textOnly Departure.lateStoresUnsure }], guard := none } : Oper)) (v := ?_) rfl (by kernel_rfl) (by kernel_rfl) (by kernel_rfl) (fun _ _ _ h => h) (Or.inl ⟨by rfl, ?_⟩) ht2 ?_
  rotate_left 1
  · (intro w' hw'; go_simp <;> with_reducible rfl)
  try simp only [Act.put, List.setIfInBounds_toArray, List.set_cons_zero, List.set_cons_succ]
  refine wpAnyH_take (i := 9) (oi := ({ dst := some 12, op := Op.assign (Operand.tmp 35), type := 3, pos := "geom.go:38", after := #[{ on := 7, ground := Ground.data }, { on := 8, ground := Ground.chain }, { on := 0, ground := Ground.phase }, { on := 1, ground := Ground.phase }, { on := 2, ground := Ground.phase }, { on := 3, ground := Ground.phase }, { on := 4, ground := Ground.phase }, { on := 5, ground := Ground.phase }, { on := 6, ground := Ground.phase }, { on := 7, ground := Ground.phase }, { on := 8, ground := Ground.phase }], guard := none } : Oper)) (v := ?_) rfl (by kernel_rfl) (by kernel_rfl) (by kernel_rfl) (fun _ _ _ h => h) (Or.inl ⟨by rfl, ?_⟩) ht2 ?_
  rotate_left 1
  · (intro w' hw'; go_simp <;> with_reducible rfl)
  try simp only [Act.put, List.setIfInBounds_toArray, List.set_cons_zero, List.set_cons_succ]
  refine wpAnyH_done (by kernel_rfl) ?_ _
  refine NoPanic.normal ?_
  obtain ⟨z1, z2, z3, z4⟩ := ht2
  have k1 := z1.c0
  have k2 := z1.c1
  have k3 := z2.c0
  have k4 := z2.c1
  have k5 := z3.c0
  have k6 := z3.c1
  have k7 := z4.c0
  have k8 := z4.c1
  clear z1 z2 z3 z4
  go_wp2_with fail
  go_ret
  exact ⟨rfl, HBw5.out⟩
set_option maxHeartbeats 8000000 in
theorem Meet_d1 (a1 a2 b1 b2 c1 c2 d1 d2 : Int) (w : World) (s1 s2 s3 s4 : Int) (g1 : -1 ≤ s1 * s2) (g2 : s1 * s2 ≤ 1) (g3 : -1 ≤ s3 * s4) (g4 : s3 * s4 ≤ 1) (h : ¬ 0 < s1 * s2) (h2 : ¬ 0 < s3 * s4) (h3 : (s1 == 0) = false) (N1 : Hid (∀ (w' : World) (T : TypeId) (g : Nat), g = w'.heap.size → Calls Try.prog 32 #[.slice (some ⟨g, 0, none⟩) 4 4] (w'.alloc (.cells #[.int .i64 a1, .int .i64 a2, .int .i64 b1, .int .i64 b2, .int .i64 c1, .int .i64 c2, .int .i64 d1, .int .i64 d2] T)) fun e w'' => e = .returned (.bool true) ∧ Bl (w'.alloc (.cells #[.int .i64 a1, .int .i64 a2, .int .i64 b1, .int .i64 b2, .int .i64 c1, .int .i64 c2, .int .i64 d1, .int .i64 d2] T)) w''))(S1 : Hid (∀ w', Calls Try.prog 13 #[.agg #[.int .i64 a1, .int .i64 a2], .agg #[.int .i64 b1, .int .i64 b2], .agg #[.int .i64 c1, .int .i64 c2]] w' fun e w'' => e = .returned (.int .i64 s1) ∧ Bl w' w'')) (S2 : Hid (∀ w', Calls Try.prog 13 #[.agg #[.int .i64 a1, .int .i64 a2], .agg #[.int .i64 b1, .int .i64 b2], .agg #[.int .i64 d1, .int .i64 d2]] w' fun e w'' => e = .returned (.int .i64 s2) ∧ Bl w' w'')) (S3 : Hid (∀ w', Calls Try.prog 13 #[.agg #[.int .i64 c1, .int .i64 c2], .agg #[.int .i64 d1, .int .i64 d2], .agg #[.int .i64 a1, .int .i64 a2]] w' fun e w'' => e = .returned (.int .i64 s3) ∧ Bl w' w'')) (S4 : Hid (∀ w', Calls Try.prog 13 #[.agg #[.int .i64 c1, .int .i64 c2], .agg #[.int .i64 d1, .int .i64 d2], .agg #[.int .i64 b1, .int .i64 b2]] w' fun e w'' => e = .returned (.int .i64 s4) ∧ Bl w' w'')) :
    Calls Try.prog 19 #[.agg #[.int .i64 a1, .int .i64 a2], .agg #[.int .i64 b1, .int .i64 b2], .agg #[.int .i64 c1, .int .i64 c2], .agg #[.int .i64 d1, .int .i64 d2]] w (fun e w' => e = .returned (.int .i64 1) ∧ Bl w w') := by
  have dz : decide (0 < s3 * s4) = false := decide_eq_false h2
  go_enter Try.func19, Try.ntmps19
  go_wp2_with fail
  obtain ⟨v, ev, x1, x2, x3, x4, hv⟩ := box4' w a1 a2 b1 b2 c1 c2 d1 d2
  refine (N1.out _ _ _ (by simp)).mono ?_
  rw [ev]
  rintro e w1 ⟨rfl, hb1⟩
  have hB1 := Bl.trans (Bl.alloc hv _) hb1
  have x1 := (BX.al x1 _).bl hb1
  have x2 := (BX.al x2 _).bl hb1
  have x3 := (BX.al x3 _).bl hb1
  have x4 := (BX.al x4 _).bl hb1
  clear ev hb1
  have k1 := x1.c0
  have k2 := x1.c1
  have k3 := x2.c0
  have k4 := x2.c1
  have k5 := x3.c0
  have k6 := x3.c1
  have k7 := x4.c0
  have k8 := x4.c1
  go_wp2_with fail
  clear k1 k2 k3 k4 k5 k6 k7 k8
  refine wp_region_noPanic ?_
  refine wp_region_held_drew (S := fun w' => BX w' w.heap.size a1 a2 ∧ BX w' (w.heap.size + 1) b1 b2 ∧ BX w' (w.heap.size + 1 + 1) c1 c2 ∧ BX w' (w.heap.size + 1 + 1 + 1) d1 d2) (by kernel_rfl) ⟨x1, x2, x3, x4⟩ (fun hs => ?_)
  refine wpAnyH_take (i := 0) (oi := ({ dst := some 20, op := Op.load 23 (Operand.tmp 4), type := 23, pos := "geom.go:37", after := #[], guard := none } : Oper)) (v := ?_) rfl (by kernel_rfl) (by kernel_rfl) (by kernel_rfl) (fun _ _ _ h => h) (Or.inl ⟨by rfl, ?_⟩) hs ?_
  rotate_left 1
  · (intro w' hw'; obtain ⟨y1, y2, y3, y4⟩ := hw'; have q1 := y1.c0; have q2 := y1.c1; have q3 := y2.c0; have q4 := y2.c1; have q5 := y3.c0; have q6 := y3.c1; have q7 := y4.c0; have q8 := y4.c1; go_simp <;> with_reducible rfl)
  try simp only [Act.put, List.setIfInBounds_toArray, List.set_cons_zero, List.set_cons_succ]
  refine wpAnyH_take (i := 1) (oi := ({ dst := some 21, op := Op.load 23 (Operand.tmp 5), type := 23, pos := "geom.go:37", after := #[], guard := none } : Oper)) (v := ?_) rfl (by kernel_rfl) (by kernel_rfl) (by kernel_rfl) (fun _ _ _ h => h) (Or.inl ⟨by rfl, ?_⟩) hs ?_
  rotate_left 1
  · (intro w' hw'; obtain ⟨y1, y2, y3, y4⟩ := hw'; have q1 := y1.c0; have q2 := y1.c1; have q3 := y2.c0; have q4 := y2.c1; have q5 := y3.c0; have q6 := y3.c1; have q7 := y4.c0; have q8 := y4.c1; go_simp <;> with_reducible rfl)
  try simp only [Act.put, List.setIfInBounds_toArray, List.set_cons_zero, List.set_cons_succ]
  refine wpAnyH_take (i := 2) (oi := ({ dst := some 22, op := Op.load 23 (Operand.tmp 6), type := 23, pos := "geom.go:37", after := #[], guard := none } : Oper)) (v := ?_) rfl (by kernel_rfl) (by kernel_rfl) (by kernel_rfl) (fun _ _ _ h => h) (Or.inl ⟨by rfl, ?_⟩) hs ?_
  rotate_left 1
  · (intro w' hw'; obtain ⟨y1, y2, y3, y4⟩ := hw'; have q1 := y1.c0; have q2 := y1.c1; have q3 := y2.c0; have q4 := y2.c1; have q5 := y3.c0; have q6 := y3.c1; have q7 := y4.c0; have q8 := y4.c1; go_simp <;> with_reducible rfl)
  try simp only [Act.put, List.setIfInBounds_toArray, List.set_cons_zero, List.set_cons_succ]
  refine wpAnyH_take (i := 4) (oi := ({ dst := some 24, op := Op.load 23 (Operand.tmp 4), type := 23, pos := "geom.go:37", after := #[], guard := none } : Oper)) (v := ?_) rfl (by kernel_rfl) (by kernel_rfl) (by kernel_rfl) (fun _ _ _ h => h) (Or.inl ⟨by rfl, ?_⟩) hs ?_
  rotate_left 1
  · (intro w' hw'; obtain ⟨y1, y2, y3, y4⟩ := hw'; have q1 := y1.c0; have q2 := y1.c1; have q3 := y2.c0; have q4 := y2.c1; have q5 := y3.c0; have q6 := y3.c1; have q7 := y4.c0; have q8 := y4.c1; go_simp <;> with_reducible rfl)
  try simp only [Act.put, List.setIfInBounds_toArray, List.set_cons_zero, List.set_cons_succ]
  refine wpAnyH_take (i := 5) (oi := ({ dst := some 25, op := Op.load 23 (Operand.tmp 5), type := 23, pos := "geom.go:37", after := #[], guard := none } : Oper)) (v := ?_) rfl (by kernel_rfl) (by kernel_rfl) (by kernel_rfl) (fun _ _ _ h => h) (Or.inl ⟨by rfl, ?_⟩) hs ?_
  rotate_left 1
  · (intro w' hw'; obtain ⟨y1, y2, y3, y4⟩ := hw'; have q1 := y1.c0; have q2 := y1.c1; have q3 := y2.c0; have q4 := y2.c1; have q5 := y3.c0; have q6 := y3.c1; have q7 := y4.c0; have q8 := y4.c1; go_simp <;> with_reducible rfl)
  try simp only [Act.put, List.setIfInBounds_toArray, List.set_cons_zero, List.set_cons_succ]
  refine wpAnyH_take (i := 6) (oi := ({ dst := some 26, op := Op.load 23 (Operand.tmp 7), type := 23, pos := "geom.go:37", after := #[], guard := none } : Oper)) (v := ?_) rfl (by kernel_rfl) (by kernel_rfl) (by kernel_rfl) (fun _ _ _ h => h) (Or.inl ⟨by rfl, ?_⟩) hs ?_
  rotate_left 1
  · (intro w' hw'; obtain ⟨y1, y2, y3, y4⟩ := hw'; have q1 := y1.c0; have q2 := y1.c1; have q3 := y2.c0; have q4 := y2.c1; have q5 := y3.c0; have q6 := y3.c1; have q7 := y4.c0; have q8 := y4.c1; go_simp <;> with_reducible rfl)
  try simp only [Act.put, List.setIfInBounds_toArray, List.set_cons_zero, List.set_cons_succ]
  refine wpAnyH_ready (rs := [3]) (by kernel_rfl) (by simp) ?_
  refine AllReadyH.cons (o := ({ dst := some 23, op := Op.call { callee := Callee.value (Operand.func 13), args := #[Operand.tmp 20, Operand.tmp 21, Operand.tmp 22], argTypes := #[23, 23, 23] }, type := 3, pos := "geom.go:37", after := #[{ on := 0, ground := Ground.data }, { on := 1, ground := Ground.data }, { on := 2, ground := Ground.data }], guard := none } : Oper)) rfl (fun K hK => ?_) AllReadyH.nil
  go_simp
  go_at_call 13
  refine (S1.out _).mono ?_
  rintro e w2 ⟨rfl, hb1⟩
  have HBw2 := hid (Bl.trans (Bl.drew hB1) hb1)
  refine hK.out _ _ (⟨hs.1.bl hb1, hs.2.1.bl hb1, hs.2.2.1.bl hb1, hs.2.2.2.bl hb1⟩) (fun hs1 => ?_)
  clear hK K
  try simp only [Act.put, List.setIfInBounds_toArray, List.set_cons_zero, List.set_cons_succ]
  refine wpAnyH_ready (rs := [7]) (by kernel_rfl) (by simp) ?_
  refine AllReadyH.cons (o := ({ dst := some 27, op := Op.call { callee := Callee.value (Operand.func 13), args := #[Operand.tmp 24, Operand.tmp 25, Operand.tmp 26], argTypes := #[23, 23, 23] }, type := 3, pos := "geom.go:37", after := #[{ on := 4, ground := Ground.data }, { on := 5, ground := Ground.data }, { on := 6, ground := Ground.data }, { on := 3, ground := Ground.chain }], guard := none } : Oper)) rfl (fun K hK => ?_) AllReadyH.nil
  go_simp
  go_at_call 13
  refine (S2.out _).mono ?_
  rintro e w3 ⟨rfl, hb2⟩
  have HBw3 := hid (Bl.trans HBw2.out hb2)
  refine hK.out _ _ (⟨hs1.1.bl hb2, hs1.2.1.bl hb2, hs1.2.2.1.bl hb2, hs1.2.2.2.bl hb2⟩) (fun hs2 => ?_)
  clear hK K
  try simp only [Act.put, List.setIfInBounds_toArray, List.set_cons_zero, List.set_cons_succ]
  refine wpAnyH_take (i := 8) (oi := ({ dst := some 9, op := Op.assign (Operand.tmp 23), type := 3, pos := "geom.go:37", after := #[{ on := 3, ground := Ground.data }, { on := 7, ground := Ground.chain }, { on := 0, ground := Ground.phase }, { on := 1, ground := Ground.phase }, { on := 2, ground := Ground.phase }, { on := 3, ground := Ground.phase }, { on := 4, ground := Ground.textOnly Departure.lateStores }, { on := 5, ground := Ground.textOnly Departure.lateStores }, { on := 6, ground := Ground.textOnly Departure.lateStores }, { on := 7, ground := Ground.textOnly Departure.lateStoresUnsure }], guard := none } : Oper)) (v := ?_) rfl (by kernel_rfl) (by kernel_rfl) (by kernel_rfl) (fun _ _ _ h => h) (Or.inl ⟨by rfl, ?_⟩) hs2 ?_
  rotate_left 1
  · (intro w' hw'; go_simp <;> with_reducible rfl)
  try simp only [Act.put, List.setIfInBounds_toArray, List.set_cons_zero, List.set_cons_succ]
  refine wpAnyH_take (i := 9) (oi := ({ dst := some 10, op := Op.assign (Operand.tmp 27), type := 3, pos := "geom.go:37", after := #[{ on := 7, ground := Ground.data }, { on := 8, ground := Ground.chain }, { on := 0, ground := Ground.phase }, { on := 1, ground := Ground.phase }, { on := 2, ground := Ground.phase }, { on := 3, ground := Ground.phase }, { on := 4, ground := Ground.phase }, { on := 5, ground := Ground.phase }, { on := 6, ground := Ground.phase }, { on := 7, ground := Ground.phase }, { on := 8, ground := Ground.phase }], guard := none } : Oper)) (v := ?_) rfl (by kernel_rfl) (by kernel_rfl) (by kernel_rfl) (fun _ _ _ h => h) (Or.inl ⟨by rfl, ?_⟩) hs2 ?_
  rotate_left 1
  · (intro w' hw'; go_simp <;> with_reducible rfl)
  try simp only [Act.put, List.setIfInBounds_toArray, List.set_cons_zero, List.set_cons_succ]
  refine wpAnyH_done (by kernel_rfl) ?_ _
  refine NoPanic.normal ?_
  clear x1 x2 x3 x4
  go_wp2_with fail
  refine wp_region_noPanic ?_
  refine wp_region_held_drew (S := fun w' => BX w' w.heap.size a1 a2 ∧ BX w' (w.heap.size + 1) b1 b2 ∧ BX w' (w.heap.size + 1 + 1) c1 c2 ∧ BX w' (w.heap.size + 1 + 1 + 1) d1 d2) (by kernel_rfl) ⟨hs2.1, hs2.2.1, hs2.2.2.1, hs2.2.2.2⟩ (fun ht => ?_)
  refine wpAnyH_take (i := 0) (oi := ({ dst := some 28, op := Op.load 23 (Operand.tmp 6), type := 23, pos := "geom.go:38", after := #[], guard := none } : Oper)) (v := ?_) rfl (by kernel_rfl) (by kernel_rfl) (by kernel_rfl) (fun _ _ _ h => h) (Or.inl ⟨by rfl, ?_⟩) ht ?_
  rotate_left 1
  · (intro w' hw'; obtain ⟨y1, y2, y3, y4⟩ := hw'; have q1 := y1.c0; have q2 := y1.c1; have q3 := y2.c0; have q4 := y2.c1; have q5 := y3.c0; have q6 := y3.c1; have q7 := y4.c0; have q8 := y4.c1; go_simp <;> with_reducible rfl)
  try simp only [Act.put, List.setIfInBounds_toArray, List.set_cons_zero, List.set_cons_succ]
  refine wpAnyH_take (i := 1) (oi := ({ dst := some 29, op := Op.load 23 (Operand.tmp 7), type := 23, pos := "geom.go:38", after := #[], guard := none } : Oper)) (v := ?_) rfl (by kernel_rfl) (by kernel_rfl) (by kernel_rfl) (fun _ _ _ h => h) (Or.inl ⟨by rfl, ?_⟩) ht ?_
  rotate_left 1
  · (intro w' hw'; obtain ⟨y1, y2, y3, y4⟩ := hw'; have q1 := y1.c0; have q2 := y1.c1; have q3 := y2.c0; have q4 := y2.c1; have q5 := y3.c0; have q6 := y3.c1; have q7 := y4.c0; have q8 := y4.c1; go_simp <;> with_reducible rfl)
  try simp only [Act.put, List.setIfInBounds_toArray, List.set_cons_zero, List.set_cons_succ]
  refine wpAnyH_take (i := 2) (oi := ({ dst := some 30, op := Op.load 23 (Operand.tmp 4), type := 23, pos := "geom.go:38", after := #[], guard := none } : Oper)) (v := ?_) rfl (by kernel_rfl) (by kernel_rfl) (by kernel_rfl) (fun _ _ _ h => h) (Or.inl ⟨by rfl, ?_⟩) ht ?_
  rotate_left 1
  · (intro w' hw'; obtain ⟨y1, y2, y3, y4⟩ := hw'; have q1 := y1.c0; have q2 := y1.c1; have q3 := y2.c0; have q4 := y2.c1; have q5 := y3.c0; have q6 := y3.c1; have q7 := y4.c0; have q8 := y4.c1; go_simp <;> with_reducible rfl)
  try simp only [Act.put, List.setIfInBounds_toArray, List.set_cons_zero, List.set_cons_succ]
  refine wpAnyH_take (i := 4) (oi := ({ dst := some 32, op := Op.load 23 (Operand.tmp 6), type := 23, pos := "geom.go:38", after := #[], guard := none } : Oper)) (v := ?_) rfl (by kernel_rfl) (by kernel_rfl) (by kernel_rfl) (fun _ _ _ h => h) (Or.inl ⟨by rfl, ?_⟩) ht ?_
  rotate_left 1
  · (intro w' hw'; obtain ⟨y1, y2, y3, y4⟩ := hw'; have q1 := y1.c0; have q2 := y1.c1; have q3 := y2.c0; have q4 := y2.c1; have q5 := y3.c0; have q6 := y3.c1; have q7 := y4.c0; have q8 := y4.c1; go_simp <;> with_reducible rfl)
  try simp only [Act.put, List.setIfInBounds_toArray, List.set_cons_zero, List.set_cons_succ]
  refine wpAnyH_take (i := 5) (oi := ({ dst := some 33, op := Op.load 23 (Operand.tmp 7), type := 23, pos := "geom.go:38", after := #[], guard := none } : Oper)) (v := ?_) rfl (by kernel_rfl) (by kernel_rfl) (by kernel_rfl) (fun _ _ _ h => h) (Or.inl ⟨by rfl, ?_⟩) ht ?_
  rotate_left 1
  · (intro w' hw'; obtain ⟨y1, y2, y3, y4⟩ := hw'; have q1 := y1.c0; have q2 := y1.c1; have q3 := y2.c0; have q4 := y2.c1; have q5 := y3.c0; have q6 := y3.c1; have q7 := y4.c0; have q8 := y4.c1; go_simp <;> with_reducible rfl)
  try simp only [Act.put, List.setIfInBounds_toArray, List.set_cons_zero, List.set_cons_succ]
  refine wpAnyH_take (i := 6) (oi := ({ dst := some 34, op := Op.load 23 (Operand.tmp 5), type := 23, pos := "geom.go:38", after := #[], guard := none } : Oper)) (v := ?_) rfl (by kernel_rfl) (by kernel_rfl) (by kernel_rfl) (fun _ _ _ h => h) (Or.inl ⟨by rfl, ?_⟩) ht ?_
  rotate_left 1
  · (intro w' hw'; obtain ⟨y1, y2, y3, y4⟩ := hw'; have q1 := y1.c0; have q2 := y1.c1; have q3 := y2.c0; have q4 := y2.c1; have q5 := y3.c0; have q6 := y3.c1; have q7 := y4.c0; have q8 := y4.c1; go_simp <;> with_reducible rfl)
  try simp only [Act.put, List.setIfInBounds_toArray, List.set_cons_zero, List.set_cons_succ]
  refine wpAnyH_ready (rs := [3]) (by kernel_rfl) (by simp) ?_
  refine AllReadyH.cons (o := ({ dst := some 31, op := Op.call { callee := Callee.value (Operand.func 13), args := #[Operand.tmp 28, Operand.tmp 29, Operand.tmp 30], argTypes := #[23, 23, 23] }, type := 3, pos := "geom.go:38", after := #[{ on := 0, ground := Ground.data }, { on := 1, ground := Ground.data }, { on := 2, ground := Ground.data }], guard := none } : Oper)) rfl (fun K hK => ?_) AllReadyH.nil
  go_simp
  go_at_call 13
  refine (S3.out _).mono ?_
  rintro e w4 ⟨rfl, hb1⟩
  have HBw4 := hid (Bl.trans (Bl.drew HBw3.out) hb1)
  refine hK.out _ _ (⟨ht.1.bl hb1, ht.2.1.bl hb1, ht.2.2.1.bl hb1, ht.2.2.2.bl hb1⟩) (fun ht1 => ?_)
  clear hK K
  try simp only [Act.put, List.setIfInBounds_toArray, List.set_cons_zero, List.set_cons_succ]
  refine wpAnyH_ready (rs := [7]) (by kernel_rfl) (by simp) ?_
  refine AllReadyH.cons (o := ({ dst := some 35, op := Op.call { callee := Callee.value (Operand.func 13), args := #[Operand.tmp 32, Operand.tmp 33, Operand.tmp 34], argTypes := #[23, 23, 23] }, type := 3, pos := "geom.go:38", after := #[{ on := 4, ground := Ground.data }, { on := 5, ground := Ground.data }, { on := 6, ground := Ground.data }, { on := 3, ground := Ground.chain }], guard := none } : Oper)) rfl (fun K hK => ?_) AllReadyH.nil
  go_simp
  go_at_call 13
  refine (S4.out _).mono ?_
  rintro e w5 ⟨rfl, hb2⟩
  have HBw5 := hid (Bl.trans HBw4.out hb2)
  refine hK.out _ _ (⟨ht1.1.bl hb2, ht1.2.1.bl hb2, ht1.2.2.1.bl hb2, ht1.2.2.2.bl hb2⟩) (fun ht2 => ?_)
  clear hK K
  try simp only [Act.put, List.setIfInBounds_toArray, List.set_cons_zero, List.set_cons_succ]
  refine wpAnyH_take (i := 8) (oi := ({ dst := some 11, op := Op.assign (Operand.tmp 31), type := 3, pos := "geom.go:38", after := #[{ on := 3, ground := Ground.data }, { on := 7, ground := Ground.chain }, { on := 0, ground := Ground.phase }, { on := 1, ground := Ground.phase }, { on := 2, ground := Ground.phase }, { on := 3, ground := Ground.phase }, { on := 4, ground := Ground.textOnly Departure.lateStores }, { on := 5, ground := Ground.textOnly Departure.lateStores }, { on := 6, ground := Ground.textOnly Departure.lateStores }, { on := 7, ground := Ground.textOnly Departure.lateStoresUnsure }], guard := none } : Oper)) (v := ?_) rfl (by kernel_rfl) (by kernel_rfl) (by kernel_rfl) (fun _ _ _ h => h) (Or.inl ⟨by rfl, ?_⟩) ht2 ?_
  rotate_left 1
  · (intro w' hw'; go_simp <;> with_reducible rfl)
  try simp only [Act.put, List.setIfInBounds_toArray, List.set_cons_zero, List.set_cons_succ]
  refine wpAnyH_take (i := 9) (oi := ({ dst := some 12, op := Op.assign (Operand.tmp 35), type := 3, pos := "geom.go:38", after := #[{ on := 7, ground := Ground.data }, { on := 8, ground := Ground.chain }, { on := 0, ground := Ground.phase }, { on := 1, ground := Ground.phase }, { on := 2, ground := Ground.phase }, { on := 3, ground := Ground.phase }, { on := 4, ground := Ground.phase }, { on := 5, ground := Ground.phase }, { on := 6, ground := Ground.phase }, { on := 7, ground := Ground.phase }, { on := 8, ground := Ground.phase }], guard := none } : Oper)) (v := ?_) rfl (by kernel_rfl) (by kernel_rfl) (by kernel_rfl) (fun _ _ _ h => h) (Or.inl ⟨by rfl, ?_⟩) ht2 ?_
  rotate_left 1
  · (intro w' hw'; go_simp <;> with_reducible rfl)
  try simp only [Act.put, List.setIfInBounds_toArray, List.set_cons_zero, List.set_cons_succ]
  refine wpAnyH_done (by kernel_rfl) ?_ _
  refine NoPanic.normal ?_
  obtain ⟨z1, z2, z3, z4⟩ := ht2
  have k1 := z1.c0
  have k2 := z1.c1
  have k3 := z2.c0
  have k4 := z2.c1
  have k5 := z3.c0
  have k6 := z3.c1
  have k7 := z4.c0
  have k8 := z4.c1
  clear z1 z2 z3 z4
  go_wp2_with fail
  go_ret
  exact ⟨rfl, HBw5.out⟩
set_option maxHeartbeats 8000000 in
theorem Meet_d2 (a1 a2 b1 b2 c1 c2 d1 d2 : Int) (w : World) (s2 s3 s4 : Int) (g3 : -1 ≤ s3 * s4) (g4 : s3 * s4 ≤ 1) (h2 : ¬ 0 < s3 * s4) (h3 : (s2 == 0) = false) (N1 : Hid (∀ (w' : World) (T : TypeId) (g : Nat), g = w'.heap.size → Calls Try.prog 32 #[.slice (some ⟨g, 0, none⟩) 4 4] (w'.alloc (.cells #[.int .i64 a1, .int .i64 a2, .int .i64 b1, .int .i64 b2, .int .i64 c1, .int .i64 c2, .int .i64 d1, .int .i64 d2] T)) fun e w'' => e = .returned (.bool true) ∧ Bl (w'.alloc (.cells #[.int .i64 a1, .int .i64 a2, .int .i64 b1, .int .i64 b2, .int .i64 c1, .int .i64 c2, .int .i64 d1, .int .i64 d2] T)) w''))(S1 : Hid (∀ w', Calls Try.prog 13 #[.agg #[.int .i64 a1, .int .i64 a2], .agg #[.int .i64 b1, .int .i64 b2], .agg #[.int .i64 c1, .int .i64 c2]] w' fun e w'' => e = .returned (.int .i64 0) ∧ Bl w' w'')) (S2 : Hid (∀ w', Calls Try.prog 13 #[.agg #[.int .i64 a1, .int .i64 a2], .agg #[.int .i64 b1, .int .i64 b2], .agg #[.int .i64 d1, .int .i64 d2]] w' fun e w'' => e = .returned (.int .i64 s2) ∧ Bl w' w'')) (S3 : Hid (∀ w', Calls Try.prog 13 #[.agg #[.int .i64 c1, .int .i64 c2], .agg #[.int .i64 d1, .int .i64 d2], .agg #[.int .i64 a1, .int .i64 a2]] w' fun e w'' => e = .returned (.int .i64 s3) ∧ Bl w' w'')) (S4 : Hid (∀ w', Calls Try.prog 13 #[.agg #[.int .i64 c1, .int .i64 c2], .agg #[.int .i64 d1, .int .i64 d2], .agg #[.int .i64 b1, .int .i64 b2]] w' fun e w'' => e = .returned (.int .i64 s4) ∧ Bl w' w'')) :
    Calls Try.prog 19 #[.agg #[.int .i64 a1, .int .i64 a2], .agg #[.int .i64 b1, .int .i64 b2], .agg #[.int .i64 c1, .int .i64 c2], .agg #[.int .i64 d1, .int .i64 d2]] w (fun e w' => e = .returned (.int .i64 1) ∧ Bl w w') := by
  have dz : decide (0 < s3 * s4) = false := decide_eq_false h2
  go_enter Try.func19, Try.ntmps19
  go_wp2_with fail
  obtain ⟨v, ev, x1, x2, x3, x4, hv⟩ := box4' w a1 a2 b1 b2 c1 c2 d1 d2
  refine (N1.out _ _ _ (by simp)).mono ?_
  rw [ev]
  rintro e w1 ⟨rfl, hb1⟩
  have hB1 := Bl.trans (Bl.alloc hv _) hb1
  have x1 := (BX.al x1 _).bl hb1
  have x2 := (BX.al x2 _).bl hb1
  have x3 := (BX.al x3 _).bl hb1
  have x4 := (BX.al x4 _).bl hb1
  clear ev hb1
  have k1 := x1.c0
  have k2 := x1.c1
  have k3 := x2.c0
  have k4 := x2.c1
  have k5 := x3.c0
  have k6 := x3.c1
  have k7 := x4.c0
  have k8 := x4.c1
  go_wp2_with fail
  clear k1 k2 k3 k4 k5 k6 k7 k8
  refine wp_region_noPanic ?_
  refine wp_region_held_drew (S := fun w' => BX w' w.heap.size a1 a2 ∧ BX w' (w.heap.size + 1) b1 b2 ∧ BX w' (w.heap.size + 1 + 1) c1 c2 ∧ BX w' (w.heap.size + 1 + 1 + 1) d1 d2) (by kernel_rfl) ⟨x1, x2, x3, x4⟩ (fun hs => ?_)
  refine wpAnyH_take (i := 0) (oi := ({ dst := some 20, op := Op.load 23 (Operand.tmp 4), type := 23, pos := "geom.go:37", after := #[], guard := none } : Oper)) (v := ?_) rfl (by kernel_rfl) (by kernel_rfl) (by kernel_rfl) (fun _ _ _ h => h) (Or.inl ⟨by rfl, ?_⟩) hs ?_
  rotate_left 1
  · (intro w' hw'; obtain ⟨y1, y2, y3, y4⟩ := hw'; have q1 := y1.c0; have q2 := y1.c1; have q3 := y2.c0; have q4 := y2.c1; have q5 := y3.c0; have q6 := y3.c1; have q7 := y4.c0; have q8 := y4.c1; go_simp <;> with_reducible rfl)
  try simp only [Act.put, List.setIfInBounds_toArray, List.set_cons_zero, List.set_cons_succ]
  refine wpAnyH_take (i := 1) (oi := ({ dst := some 21, op := Op.load 23 (Operand.tmp 5), type := 23, pos := "geom.go:37", after := #[], guard := none } : Oper)) (v := ?_) rfl (by kernel_rfl) (by kernel_rfl) (by kernel_rfl) (fun _ _ _ h => h) (Or.inl ⟨by rfl, ?_⟩) hs ?_
  rotate_left 1
  · (intro w' hw'; obtain ⟨y1, y2, y3, y4⟩ := hw'; have q1 := y1.c0; have q2 := y1.c1; have q3 := y2.c0; have q4 := y2.c1; have q5 := y3.c0; have q6 := y3.c1; have q7 := y4.c0; have q8 := y4.c1; go_simp <;> with_reducible rfl)
  try simp only [Act.put, List.setIfInBounds_toArray, List.set_cons_zero, List.set_cons_succ]
  refine wpAnyH_take (i := 2) (oi := ({ dst := some 22, op := Op.load 23 (Operand.tmp 6), type := 23, pos := "geom.go:37", after := #[], guard := none } : Oper)) (v := ?_) rfl (by kernel_rfl) (by kernel_rfl) (by kernel_rfl) (fun _ _ _ h => h) (Or.inl ⟨by rfl, ?_⟩) hs ?_
  rotate_left 1
  · (intro w' hw'; obtain ⟨y1, y2, y3, y4⟩ := hw'; have q1 := y1.c0; have q2 := y1.c1; have q3 := y2.c0; have q4 := y2.c1; have q5 := y3.c0; have q6 := y3.c1; have q7 := y4.c0; have q8 := y4.c1; go_simp <;> with_reducible rfl)
  try simp only [Act.put, List.setIfInBounds_toArray, List.set_cons_zero, List.set_cons_succ]
  refine wpAnyH_take (i := 4) (oi := ({ dst := some 24, op := Op.load 23 (Operand.tmp 4), type := 23, pos := "geom.go:37", after := #[], guard := none } : Oper)) (v := ?_) rfl (by kernel_rfl) (by kernel_rfl) (by kernel_rfl) (fun _ _ _ h => h) (Or.inl ⟨by rfl, ?_⟩) hs ?_
  rotate_left 1
  · (intro w' hw'; obtain ⟨y1, y2, y3, y4⟩ := hw'; have q1 := y1.c0; have q2 := y1.c1; have q3 := y2.c0; have q4 := y2.c1; have q5 := y3.c0; have q6 := y3.c1; have q7 := y4.c0; have q8 := y4.c1; go_simp <;> with_reducible rfl)
  try simp only [Act.put, List.setIfInBounds_toArray, List.set_cons_zero, List.set_cons_succ]
  refine wpAnyH_take (i := 5) (oi := ({ dst := some 25, op := Op.load 23 (Operand.tmp 5), type := 23, pos := "geom.go:37", after := #[], guard := none } : Oper)) (v := ?_) rfl (by kernel_rfl) (by kernel_rfl) (by kernel_rfl) (fun _ _ _ h => h) (Or.inl ⟨by rfl, ?_⟩) hs ?_
  rotate_left 1
  · (intro w' hw'; obtain ⟨y1, y2, y3, y4⟩ := hw'; have q1 := y1.c0; have q2 := y1.c1; have q3 := y2.c0; have q4 := y2.c1; have q5 := y3.c0; have q6 := y3.c1; have q7 := y4.c0; have q8 := y4.c1; go_simp <;> with_reducible rfl)
  try simp only [Act.put, List.setIfInBounds_toArray, List.set_cons_zero, List.set_cons_succ]
  refine wpAnyH_take (i := 6) (oi := ({ dst := some 26, op := Op.load 23 (Operand.tmp 7), type := 23, pos := "geom.go:37", after := #[], guard := none } : Oper)) (v := ?_) rfl (by kernel_rfl) (by kernel_rfl) (by kernel_rfl) (fun _ _ _ h => h) (Or.inl ⟨by rfl, ?_⟩) hs ?_
  rotate_left 1
  · (intro w' hw'; obtain ⟨y1, y2, y3, y4⟩ := hw'; have q1 := y1.c0; have q2 := y1.c1; have q3 := y2.c0; have q4 := y2.c1; have q5 := y3.c0; have q6 := y3.c1; have q7 := y4.c0; have q8 := y4.c1; go_simp <;> with_reducible rfl)
  try simp only [Act.put, List.setIfInBounds_toArray, List.set_cons_zero, List.set_cons_succ]
  refine wpAnyH_ready (rs := [3]) (by kernel_rfl) (by simp) ?_
  refine AllReadyH.cons (o := ({ dst := some 23, op := Op.call { callee := Callee.value (Operand.func 13), args := #[Operand.tmp 20, Operand.tmp 21, Operand.tmp 22], argTypes := #[23, 23, 23] }, type := 3, pos := "geom.go:37", after := #[{ on := 0, ground := Ground.data }, { on := 1, ground := Ground.data }, { on := 2, ground := Ground.data }], guard := none } : Oper)) rfl (fun K hK => ?_) AllReadyH.nil
  go_simp
  go_at_call 13
  refine (S1.out _).mono ?_
  rintro e w2 ⟨rfl, hb1⟩
  have HBw2 := hid (Bl.trans (Bl.drew hB1) hb1)
  refine hK.out _ _ (⟨hs.1.bl hb1, hs.2.1.bl hb1, hs.2.2.1.bl hb1, hs.2.2.2.bl hb1⟩) (fun hs1 => ?_)
  clear hK K
  try simp only [Act.put, List.setIfInBounds_toArray, List.set_cons_zero, List.set_cons_succ]
  refine wpAnyH_ready (rs := [7]) (by kernel_rfl) (by simp) ?_
  refine AllReadyH.cons (o := ({ dst := some 27, op := Op.call { callee := Callee.value (Operand.func 13), args := #[Operand.tmp 24, Operand.tmp 25, Operand.tmp 26], argTypes := #[23, 23, 23] }, type := 3, pos := "geom.go:37", after := #[{ on := 4, ground := Ground.data }, { on := 5, ground := Ground.data }, { on := 6, ground := Ground.data }, { on := 3, ground := Ground.chain }], guard := none } : Oper)) rfl (fun K hK => ?_) AllReadyH.nil
  go_simp
  go_at_call 13
  refine (S2.out _).mono ?_
  rintro e w3 ⟨rfl, hb2⟩
  have HBw3 := hid (Bl.trans HBw2.out hb2)
  refine hK.out _ _ (⟨hs1.1.bl hb2, hs1.2.1.bl hb2, hs1.2.2.1.bl hb2, hs1.2.2.2.bl hb2⟩) (fun hs2 => ?_)
  clear hK K
  try simp only [Act.put, List.setIfInBounds_toArray, List.set_cons_zero, List.set_cons_succ]
  refine wpAnyH_take (i := 8) (oi := ({ dst := some 9, op := Op.assign (Operand.tmp 23), type := 3, pos := "geom.go:37", after := #[{ on := 3, ground := Ground.data }, { on := 7, ground := Ground.chain }, { on := 0, ground := Ground.phase }, { on := 1, ground := Ground.phase }, { on := 2, ground := Ground.phase }, { on := 3, ground := Ground.phase }, { on := 4, ground := Ground.textOnly Departure.lateStores }, { on := 5, ground := Ground.textOnly Departure.lateStores }, { on := 6, ground := Ground.textOnly Departure.lateStores }, { on := 7, ground := Ground.textOnly Departure.lateStoresUnsure }], guard := none } : Oper)) (v := ?_) rfl (by kernel_rfl) (by kernel_rfl) (by kernel_rfl) (fun _ _ _ h => h) (Or.inl ⟨by rfl, ?_⟩) hs2 ?_
  rotate_left 1
  · (intro w' hw'; go_simp <;> with_reducible rfl)
  try simp only [Act.put, List.setIfInBounds_toArray, List.set_cons_zero, List.set_cons_succ]
  refine wpAnyH_take (i := 9) (oi := ({ dst := some 10, op := Op.assign (Operand.tmp 27), type := 3, pos := "geom.go:37", after := #[{ on := 7, ground := Ground.data }, { on := 8, ground := Ground.chain }, { on := 0, ground := Ground.phase }, { on := 1, ground := Ground.phase }, { on := 2, ground := Ground.phase }, { on := 3, ground := Ground.phase }, { on := 4, ground := Ground.phase }, { on := 5, ground := Ground.phase }, { on := 6, ground := Ground.phase }, { on := 7, ground := Ground.phase }, { on := 8, ground := Ground.phase }], guard := none } : Oper)) (v := ?_) rfl (by kernel_rfl) (by kernel_rfl) (by kernel_rfl) (fun _ _ _ h => h) (Or.inl ⟨by rfl, ?_⟩) hs2 ?_
  rotate_left 1
  · (intro w' hw'; go_simp <;> with_reducible rfl)
  try simp only [Act.put, List.setIfInBounds_toArray, List.set_cons_zero, List.set_cons_succ]
  refine wpAnyH_done (by kernel_rfl) ?_ _
  refine NoPanic.normal ?_
  clear x1 x2 x3 x4
  go_wp2_with fail
  refine wp_region_noPanic ?_
  refine wp_region_held_drew (S := fun w' => BX w' w.heap.size a1 a2 ∧ BX w' (w.heap.size + 1) b1 b2 ∧ BX w' (w.heap.size + 1 + 1) c1 c2 ∧ BX w' (w.heap.size + 1 + 1 + 1) d1 d2) (by kernel_rfl) ⟨hs2.1, hs2.2.1, hs2.2.2.1, hs2.2.2.2⟩ (fun ht => ?_)
  refine wpAnyH_take (i := 0) (oi := ({ dst := some 28, op := Op.load 23 (Operand.tmp 6), type := 23, pos := "geom.go:38", after := #[], guard := none } : Oper)) (v := ?_) rfl (by kernel_rfl) (by kernel_rfl) (by kernel_rfl) (fun _ _ _ h => h) (Or.inl ⟨by rfl, ?_⟩) ht ?_
  rotate_left 1
  · (intro w' hw'; obtain ⟨y1, y2, y3, y4⟩ := hw'; have q1 := y1.c0; have q2 := y1.c1; have q3 := y2.c0; have q4 := y2.c1; have q5 := y3.c0; have q6 := y3.c1; have q7 := y4.c0; have q8 := y4.c1; go_simp <;> with_reducible rfl)
  try simp only [Act.put, List.setIfInBounds_toArray, List.set_cons_zero, List.set_cons_succ]
  refine wpAnyH_take (i := 1) (oi := ({ dst := some 29, op := Op.load 23 (Operand.tmp 7), type := 23, pos := "geom.go:38", after := #[], guard := none } : Oper)) (v := ?_) rfl (by kernel_rfl) (by kernel_rfl) (by kernel_rfl) (fun _ _ _ h => h) (Or.inl ⟨by rfl, ?_⟩) ht ?_
  rotate_left 1
  · (intro w' hw'; obtain ⟨y1, y2, y3, y4⟩ := hw'; have q1 := y1.c0; have q2 := y1.c1; have q3 := y2.c0; have q4 := y2.c1; have q5 := y3.c0; have q6 := y3.c1; have q7 := y4.c0; have q8 := y4.c1; go_simp <;> with_reducible rfl)
  try simp only [Act.put, List.setIfInBounds_toArray, List.set_cons_zero, List.set_cons_succ]
  refine wpAnyH_take (i := 2) (oi := ({ dst := some 30, op := Op.load 23 (Operand.tmp 4), type := 23, pos := "geom.go:38", after := #[], guard := none } : Oper)) (v := ?_) rfl (by kernel_rfl) (by kernel_rfl) (by kernel_rfl) (fun _ _ _ h => h) (Or.inl ⟨by rfl, ?_⟩) ht ?_
  rotate_left 1
  · (intro w' hw'; obtain ⟨y1, y2, y3, y4⟩ := hw'; have q1 := y1.c0; have q2 := y1.c1; have q3 := y2.c0; have q4 := y2.c1; have q5 := y3.c0; have q6 := y3.c1; have q7 := y4.c0; have q8 := y4.c1; go_simp <;> with_reducible rfl)
  try simp only [Act.put, List.setIfInBounds_toArray, List.set_cons_zero, List.set_cons_succ]
  refine wpAnyH_take (i := 4) (oi := ({ dst := some 32, op := Op.load 23 (Operand.tmp 6), type := 23, pos := "geom.go:38", after := #[], guard := none } : Oper)) (v := ?_) rfl (by kernel_rfl) (by kernel_rfl) (by kernel_rfl) (fun _ _ _ h => h) (Or.inl ⟨by rfl, ?_⟩) ht ?_
  rotate_left 1
  · (intro w' hw'; obtain ⟨y1, y2, y3, y4⟩ := hw'; have q1 := y1.c0; have q2 := y1.c1; have q3 := y2.c0; have q4 := y2.c1; have q5 := y3.c0; have q6 := y3.c1; have q7 := y4.c0; have q8 := y4.c1; go_simp <;> with_reducible rfl)
  try simp only [Act.put, List.setIfInBounds_toArray, List.set_cons_zero, List.set_cons_succ]
  refine wpAnyH_take (i := 5) (oi := ({ dst := some 33, op := Op.load 23 (Operand.tmp 7), type := 23, pos := "geom.go:38", after := #[], guard := none } : Oper)) (v := ?_) rfl (by kernel_rfl) (by kernel_rfl) (by kernel_rfl) (fun _ _ _ h => h) (Or.inl ⟨by rfl, ?_⟩) ht ?_
  rotate_left 1
  · (intro w' hw'; obtain ⟨y1, y2, y3, y4⟩ := hw'; have q1 := y1.c0; have q2 := y1.c1; have q3 := y2.c0; have q4 := y2.c1; have q5 := y3.c0; have q6 := y3.c1; have q7 := y4.c0; have q8 := y4.c1; go_simp <;> with_reducible rfl)
  try simp only [Act.put, List.setIfInBounds_toArray, List.set_cons_zero, List.set_cons_succ]
  refine wpAnyH_take (i := 6) (oi := ({ dst := some 34, op := Op.load 23 (Operand.tmp 5), type := 23, pos := "geom.go:38", after := #[], guard := none } : Oper)) (v := ?_) rfl (by kernel_rfl) (by kernel_rfl) (by kernel_rfl) (fun _ _ _ h => h) (Or.inl ⟨by rfl, ?_⟩) ht ?_
  rotate_left 1
  · (intro w' hw'; obtain ⟨y1, y2, y3, y4⟩ := hw'; have q1 := y1.c0; have q2 := y1.c1; have q3 := y2.c0; have q4 := y2.c1; have q5 := y3.c0; have q6 := y3.c1; have q7 := y4.c0; have q8 := y4.c1; go_simp <;> with_reducible rfl)
  try simp only [Act.put, List.setIfInBounds_toArray, List.set_cons_zero, List.set_cons_succ]
  refine wpAnyH_ready (rs := [3]) (by kernel_rfl) (by simp) ?_
  refine AllReadyH.cons (o := ({ dst := some 31, op := Op.call { callee := Callee.value (Operand.func 13), args := #[Operand.tmp 28, Operand.tmp 29, Operand.tmp 30], argTypes := #[23, 23, 23] }, type := 3, pos := "geom.go:38", after := #[{ on := 0, ground := Ground.data }, { on := 1, ground := Ground.data }, { on := 2, ground := Ground.data }], guard := none } : Oper)) rfl (fun K hK => ?_) AllReadyH.nil
  go_simp
  go_at_call 13
  refine (S3.out _).mono ?_
  rintro e w4 ⟨rfl, hb1⟩
  have HBw4 := hid (Bl.trans (Bl.drew HBw3.out) hb1)
  refine hK.out _ _ (⟨ht.1.bl hb1, ht.2.1.bl hb1, ht.2.2.1.bl hb1, ht.2.2.2.bl hb1⟩) (fun ht1 => ?_)
  clear hK K
  try simp only [Act.put, List.setIfInBounds_toArray, List.set_cons_zero, List.set_cons_succ]
  refine wpAnyH_ready (rs := [7]) (by kernel_rfl) (by simp) ?_
  refine AllReadyH.cons (o := ({ dst := some 35, op := Op.call { callee := Callee.value (Operand.func 13), args := #[Operand.tmp 32, Operand.tmp 33, Operand.tmp 34], argTypes := #[23, 23, 23] }, type := 3, pos := "geom.go:38", after := #[{ on := 4, ground := Ground.data }, { on := 5, ground := Ground.data }, { on := 6, ground := Ground.data }, { on := 3, ground := Ground.chain }], guard := none } : Oper)) rfl (fun K hK => ?_) AllReadyH.nil
  go_simp
  go_at_call 13
  refine (S4.out _).mono ?_
  rintro e w5 ⟨rfl, hb2⟩
  have HBw5 := hid (Bl.trans HBw4.out hb2)
  refine hK.out _ _ (⟨ht1.1.bl hb2, ht1.2.1.bl hb2, ht1.2.2.1.bl hb2, ht1.2.2.2.bl hb2⟩) (fun ht2 => ?_)
  clear hK K
  try simp only [Act.put, List.setIfInBounds_toArray, List.set_cons_zero, List.set_cons_succ]
  refine wpAnyH_take (i := 8) (oi := ({ dst := some 11, op := Op.assign (Operand.tmp 31), type := 3, pos := "geom.go:38", after := #[{ on := 3, ground := Ground.data }, { on := 7, ground := Ground.chain }, { on := 0, ground := Ground.phase }, { on := 1, ground := Ground.phase }, { on := 2, ground := Ground.phase }, { on := 3, ground := Ground.phase }, { on := 4, ground := Ground.textOnly Departure.lateStores }, { on := 5, ground := Ground.textOnly Departure.lateStores }, { on := 6, ground := Ground.textOnly Departure.lateStores }, { on := 7, ground := Ground.textOnly Departure.lateStoresUnsure }], guard := none } : Oper)) (v := ?_) rfl (by kernel_rfl) (by kernel_rfl) (by kernel_rfl) (fun _ _ _ h => h) (Or.inl ⟨by rfl, ?_⟩) ht2 ?_
  rotate_left 1
  · (intro w' hw'; go_simp <;> with_reducible rfl)
  try simp only [Act.put, List.setIfInBounds_toArray, List.set_cons_zero, List.set_cons_succ]
  refine wpAnyH_take (i := 9) (oi := ({ dst := some 12, op := Op.assign (Operand.tmp 35), type := 3, pos := "geom.go:38", after := #[{ on := 7, ground := Ground.data }, { on := 8, ground := Ground.chain }, { on := 0, ground := Ground.phase }, { on := 1, ground := Ground.phase }, { on := 2, ground := Ground.phase }, { on := 3, ground := Ground.phase }, { on := 4, ground := Ground.phase }, { on := 5, ground := Ground.phase }, { on := 6, ground := Ground.phase }, { on := 7, ground := Ground.phase }, { on := 8, ground := Ground.phase }], guard := none } : Oper)) (v := ?_) rfl (by kernel_rfl) (by kernel_rfl) (by kernel_rfl) (fun _ _ _ h => h) (Or.inl ⟨by rfl, ?_⟩) ht2 ?_
  rotate_left 1
  · (intro w' hw'; go_simp <;> with_reducible rfl)
  try simp only [Act.put, List.setIfInBounds_toArray, List.set_cons_zero, List.set_cons_succ]
  refine wpAnyH_done (by kernel_rfl) ?_ _
  refine NoPanic.normal ?_
  obtain ⟨z1, z2, z3, z4⟩ := ht2
  have k1 := z1.c0
  have k2 := z1.c1
  have k3 := z2.c0
  have k4 := z2.c1
  have k5 := z3.c0
  have k6 := z3.c1
  have k7 := z4.c0
  have k8 := z4.c1
  clear z1 z2 z3 z4
  go_wp2_with fail
  go_ret
  exact ⟨rfl, HBw5.out⟩
set_option maxHeartbeats 8000000 in
theorem Meet_c (a1 a2 b1 b2 c1 c2 d1 d2 : Int) (w : World) (X s3 s4 : Int) (g3 : -1 ≤ s3 * s4) (g4 : s3 * s4 ≤ 1) (h2 : ¬ 0 < s3 * s4) (N1 : Hid (∀ (w' : World) (T : TypeId) (g : Nat), g = w'.heap.size → Calls Try.prog 32 #[.slice (some ⟨g, 0, none⟩) 4 4] (w'.alloc (.cells #[.int .i64 a1, .int .i64 a2, .int .i64 b1, .int .i64 b2, .int .i64 c1, .int .i64 c2, .int .i64 d1, .int .i64 d2] T)) fun e w'' => e = .returned (.bool true) ∧ Bl (w'.alloc (.cells #[.int .i64 a1, .int .i64 a2, .int .i64 b1, .int .i64 b2, .int .i64 c1, .int .i64 c2, .int .i64 d1, .int .i64 d2] T)) w''))(S1 : Hid (∀ w', Calls Try.prog 13 #[.agg #[.int .i64 a1, .int .i64 a2], .agg #[.int .i64 b1, .int .i64 b2], .agg #[.int .i64 c1, .int .i64 c2]] w' fun e w'' => e = .returned (.int .i64 0) ∧ Bl w' w'')) (S2 : Hid (∀ w', Calls Try.prog 13 #[.agg #[.int .i64 a1, .int .i64 a2], .agg #[.int .i64 b1, .int .i64 b2], .agg #[.int .i64 d1, .int .i64 d2]] w' fun e w'' => e = .returned (.int .i64 0) ∧ Bl w' w'')) (S3 : Hid (∀ w', Calls Try.prog 13 #[.agg #[.int .i64 c1, .int .i64 c2], .agg #[.int .i64 d1, .int .i64 d2], .agg #[.int .i64 a1, .int .i64 a2]] w' fun e w'' => e = .returned (.int .i64 s3) ∧ Bl w' w'')) (S4 : Hid (∀ w', Calls Try.prog 13 #[.agg #[.int .i64 c1, .int .i64 c2], .agg #[.int .i64 d1, .int .i64 d2], .agg #[.int .i64 b1, .int .i64 b2]] w' fun e w'' => e = .returned (.int .i64 s4) ∧ Bl w' w'')) (CE : Hid (∀ w', Calls Try.prog 40 #[.agg #[.int .i64 a1, .int .i64 a2], .agg #[.int .i64 b1, .int .i64 b2], .agg #[.int .i64 c1, .int .i64 c2], .agg #[.int .i64 d1, .int .i64 d2]] w' fun e w'' => e = .returned (.int .i64 X) ∧ Bl w' w'')) :
    Calls Try.prog 19 #[.agg #[.int .i64 a1, .int .i64 a2], .agg #[.int .i64 b1, .int .i64 b2], .agg #[.int .i64 c1, .int .i64 c2], .agg #[.int .i64 d1, .int .i64 d2]] w (fun e w' => e = .returned (.int .i64 X) ∧ Bl w w') := by
  have dz : decide (0 < s3 * s4) = false := decide_eq_false h2
  go_enter Try.func19, Try.ntmps19
  go_wp2_with fail
  obtain ⟨v, ev, x1, x2, x3, x4, hv⟩ := box4' w a1 a2 b1 b2 c1 c2 d1 d2
  refine (N1.out _ _ _ (by simp)).mono ?_
  rw [ev]
  rintro e w1 ⟨rfl, hb1⟩
  have hB1 := Bl.trans (Bl.alloc hv _) hb1
  have x1 := (BX.al x1 _).bl hb1
  have x2 := (BX.al x2 _).bl hb1
  have x3 := (BX.al x3 _).bl hb1
  have x4 := (BX.al x4 _).bl hb1
  clear ev hb1
  have k1 := x1.c0
  have k2 := x1.c1
  have k3 := x2.c0
  have k4 := x2.c1
  have k5 := x3.c0
  have k6 := x3.c1
  have k7 := x4.c0
  have k8 := x4.c1
  go_wp2_with fail
  clear k1 k2 k3 k4 k5 k6 k7 k8
  refine wp_region_noPanic ?_
  refine wp_region_held_drew (S := fun w' => BX w' w.heap.size a1 a2 ∧ BX w' (w.heap.size + 1) b1 b2 ∧ BX w' (w.heap.size + 1 + 1) c1 c2 ∧ BX w' (w.heap.size + 1 + 1 + 1) d1 d2) (by kernel_rfl) ⟨x1, x2, x3, x4⟩ (fun hs => ?_)
  refine wpAnyH_take (i := 0) (oi := ({ dst := some 20, op := Op.load 23 (Operand.tmp 4), type := 23, pos := "geom.go:37", after := #[], guard := none } : Oper)) (v := ?_) rfl (by kernel_rfl) (by kernel_rfl) (by kernel_rfl) (fun _ _ _ h => h) (Or.inl ⟨by rfl, ?_⟩) hs ?_
  rotate_left 1
  · (intro w' hw'; obtain ⟨y1, y2, y3, y4⟩ := hw'; have q1 := y1.c0; have q2 := y1.c1; have q3 := y2.c0; have q4 := y2.c1; have q5 := y3.c0; have q6 := y3.c1; have q7 := y4.c0; have q8 := y4.c1; go_simp <;> with_reducible rfl)
  try simp only [Act.put, List.setIfInBounds_toArray, List.set_cons_zero, List.set_cons_succ]
  refine wpAnyH_take (i := 1) (oi := ({ dst := some 21, op := Op.load 23 (Operand.tmp 5), type := 23, pos := "geom.go:37", after := #[], guard := none } : Oper)) (v := ?_) rfl (by kernel_rfl) (by kernel_rfl) (by kernel_rfl) (fun _ _ _ h => h) (Or.inl ⟨by rfl, ?_⟩) hs ?_
  rotate_left 1
  · (intro w' hw'; obtain ⟨y1, y2, y3, y4⟩ := hw'; have q1 := y1.c0; have q2 := y1.c1; have q3 := y2.c0; have q4 := y2.c1; have q5 := y3.c0; have q6 := y3.c1; have q7 := y4.c0; have q8 := y4.c1; go_simp <;> with_reducible rfl)
  try simp only [Act.put, List.setIfInBounds_toArray, List.set_cons_zero, List.set_cons_succ]
  refine wpAnyH_take (i := 2) (oi := ({ dst := some 22, op := Op.load 23 (Operand.tmp 6), type := 23, pos := "geom.go:37", after := #[], guard := none } : Oper)) (v := ?_) rfl (by kernel_rfl) (by kernel_rfl) (by kernel_rfl) (fun _ _ _ h => h) (Or.inl ⟨by rfl, ?_⟩) hs ?_
  rotate_left 1
  · (intro w' hw'; obtain ⟨y1, y2, y3, y4⟩ := hw'; have q1 := y1.c0; have q2 := y1.c1; have q3 := y2.c0; have q4 := y2.c1; have q5 := y3.c0; have q6 := y3.c1; have q7 := y4.c0; have q8 := y4.c1; go_simp <;> with_reducible rfl)
  try simp only [Act.put, List.setIfInBounds_toArray, List.set_cons_zero, List.set_cons_succ]
  refine wpAnyH_take (i := 4) (oi := ({ dst := some 24, op := Op.load 23 (Operand.tmp 4), type := 23, pos := "geom.go:37", after := #[], guard := none } : Oper)) (v := ?_) rfl (by kernel_rfl) (by kernel_rfl) (by kernel_rfl) (fun _ _ _ h => h) (Or.inl ⟨by rfl, ?_⟩) hs ?_
  rotate_left 1
  · (intro w' hw'; obtain ⟨y1, y2, y3, y4⟩ := hw'; have q1 := y1.c0; have q2 := y1.c1; have q3 := y2.c0; have q4 := y2.c1; have q5 := y3.c0; have q6 := y3.c1; have q7 := y4.c0; have q8 := y4.c1; go_simp <;> with_reducible rfl)
  try simp only [Act.put, List.setIfInBounds_toArray, List.set_cons_zero, List.set_cons_succ]
  refine wpAnyH_take (i := 5) (oi := ({ dst := some 25, op := Op.load 23 (Operand.tmp 5), type := 23, pos := "geom.go:37", after := #[], guard := none } : Oper)) (v := ?_) rfl (by kernel_rfl) (by kernel_rfl) (by kernel_rfl) (fun _ _ _ h => h) (Or.inl ⟨by rfl, ?_⟩) hs ?_
  rotate_left 1
  · (intro w' hw'; obtain ⟨y1, y2, y3, y4⟩ := hw'; have q1 := y1.c0; have q2 := y1.c1; have q3 := y2.c0; have q4 := y2.c1; have q5 := y3.c0; have q6 := y3.c1; have q7 := y4.c0; have q8 := y4.c1; go_simp <;> with_reducible rfl)
  try simp only [Act.put, List.setIfInBounds_toArray, List.set_cons_zero, List.set_cons_succ]
  refine wpAnyH_take (i := 6) (oi := ({ dst := some 26, op := Op.load 23 (Operand.tmp 7), type := 23, pos := "geom.go:37", after := #[], guard := none } : Oper)) (v := ?_) rfl (by kernel_rfl) (by kernel_rfl) (by kernel_rfl) (fun _ _ _ h => h) (Or.inl ⟨by rfl, ?_⟩) hs ?_
  rotate_left 1
  · (intro w' hw'; obtain ⟨y1, y2, y3, y4⟩ := hw'; have q1 := y1.c0; have q2 := y1.c1; have q3 := y2.c0; have q4 := y2.c1; have q5 := y3.c0; have q6 := y3.c1; have q7 := y4.c0; have q8 := y4.c1; go_simp <;> with_reducible rfl)
  try simp only [Act.put, List.setIfInBounds_toArray, List.set_cons_zero, List.set_cons_succ]
  refine wpAnyH_ready (rs := [3]) (by kernel_rfl) (by simp) ?_
  refine AllReadyH.cons (o := ({ dst := some 23, op := Op.call { callee := Callee.value (Operand.func 13), args := #[Operand.tmp 20, Operand.tmp 21, Operand.tmp 22], argTypes := #[23, 23, 23] }, type := 3, pos := "geom.go:37", after := #[{ on := 0, ground := Ground.data }, { on := 1, ground := Ground.data }, { on := 2, ground := Ground.data }], guard := none } : Oper)) rfl (fun K hK => ?_) AllReadyH.nil
  go_simp
  go_at_call 13
  refine (S1.out _).mono ?_
  rintro e w2 ⟨rfl, hb1⟩
  have HBw2 := hid (Bl.trans (Bl.drew hB1) hb1)
  refine hK.out _ _ (⟨hs.1.bl hb1, hs.2.1.bl hb1, hs.2.2.1.bl hb1, hs.2.2.2.bl hb1⟩) (fun hs1 => ?_)
  clear hK K
  try simp only [Act.put, List.setIfInBounds_toArray, List.set_cons_zero, List.set_cons_succ]
  refine wpAnyH_ready (rs := [7]) (by kernel_rfl) (by simp) ?_
  refine AllReadyH.cons (o := ({ dst := some 27, op := Op.call { callee := Callee.value (Operand.func 13), args := #[Operand.tmp 24, Operand.tmp 25, Operand.tmp 26], argTypes := #[23, 23, 23] }, type := 3, pos := "geom.go:37", after := #[{ on := 4, ground := Ground.data }, { on := 5, ground := Ground.data }, { on := 6, ground := Ground.data }, { on := 3, ground := Ground.chain }], guard := none } : Oper)) rfl (fun K hK => ?_) AllReadyH.nil
  go_simp
  go_at_call 13
  refine (S2.out _).mono ?_
  rintro e w3 ⟨rfl, hb2⟩
  have HBw3 := hid (Bl.trans HBw2.out hb2)
  refine hK.out _ _ (⟨hs1.1.bl hb2, hs1.2.1.bl hb2, hs1.2.2.1.bl hb2, hs1.2.2.2.bl hb2⟩) (fun hs2 => ?_)
  clear hK K
  try simp only [Act.put, List.setIfInBounds_toArray, List.set_cons_zero, List.set_cons_succ]
  refine wpAnyH_take (i := 8) (oi := ({ dst := some 9, op := Op.assign (Operand.tmp 23), type := 3, pos := "geom.go:37", after := #[{ on := 3, ground := Ground.data }, { on := 7, ground := Ground.chain }, { on := 0, ground := Ground.phase }, { on := 1, ground := Ground.phase }, { on := 2, ground := Ground.phase }, { on := 3, ground := Ground.phase }, { on := 4, ground := Ground.textOnly Departure.lateStores }, { on := 5, ground := Ground.textOnly Departure.lateStores }, { on := 6, ground := Ground.textOnly Departure.lateStores }, { on := 7, ground := Ground.textOnly Departure.lateStoresUnsure }], guard := none } : Oper)) (v := ?_) rfl (by kernel_rfl) (by kernel_rfl) (by kernel_rfl) (fun _ _ _ h => h) (Or.inl ⟨by rfl, ?_⟩) hs2 ?_
  rotate_left 1
  · (intro w' hw'; go_simp <;> with_reducible rfl)
  try simp only [Act.put, List.setIfInBounds_toArray, List.set_cons_zero, List.set_cons_succ]
  refine wpAnyH_take (i := 9) (oi := ({ dst := some 10, op := Op.assign (Operand.tmp 27), type := 3, pos := "geom.go:37", after := #[{ on := 7, ground := Ground.data }, { on := 8, ground := Ground.chain }, { on := 0, ground := Ground.phase }, { on := 1, ground := Ground.phase }, { on := 2, ground := Ground.phase }, { on := 3, ground := Ground.phase }, { on := 4, ground := Ground.phase }, { on := 5, ground := Ground.phase }, { on := 6, ground := Ground.phase }, { on := 7, ground := Ground.phase }, { on := 8, ground := Ground.phase }], guard := none } : Oper)) (v := ?_) rfl (by kernel_rfl) (by kernel_rfl) (by kernel_rfl) (fun _ _ _ h => h) (Or.inl ⟨by rfl, ?_⟩) hs2 ?_
  rotate_left 1
  · (intro w' hw'; go_simp <;> with_reducible rfl)
  try simp only [Act.put, List.setIfInBounds_toArray, List.set_cons_zero, List.set_cons_succ]
  refine wpAnyH_done (by kernel_rfl) ?_ _
  refine NoPanic.normal ?_
  clear x1 x2 x3 x4
  go_wp2_with fail
  refine wp_region_noPanic ?_
  refine wp_region_held_drew (S := fun w' => BX w' w.heap.size a1 a2 ∧ BX w' (w.heap.size + 1) b1 b2 ∧ BX w' (w.heap.size + 1 + 1) c1 c2 ∧ BX w' (w.heap.size + 1 + 1 + 1) d1 d2) (by kernel_rfl) ⟨hs2.1, hs2.2.1, hs2.2.2.1, hs2.2.2.2⟩ (fun ht => ?_)
  refine wpAnyH_take (i := 0) (oi := ({ dst := some 28, op := Op.load 23 (Operand.tmp 6), type := 23, pos := "geom.go:38", after := #[], guard := none } : Oper)) (v := ?_) rfl (by kernel_rfl) (by kernel_rfl) (by kernel_rfl) (fun _ _ _ h => h) (Or.inl ⟨by rfl, ?_⟩) ht ?_
  rotate_left 1
  · (intro w' hw'; obtain ⟨y1, y2, y3, y4⟩ := hw'; have q1 := y1.c0; have q2 := y1.c1; have q3 := y2.c0; have q4 := y2.c1; have q5 := y3.c0; have q6 := y3.c1; have q7 := y4.c0; have q8 := y4.c1; go_simp <;> with_reducible rfl)
  try simp only [Act.put, List.setIfInBounds_toArray, List.set_cons_zero, List.set_cons_succ]
  refine wpAnyH_take (i := 1) (oi := ({ dst := some 29, op := Op.load 23 (Operand.tmp 7), type := 23, pos := "geom.go:38", after := #[], guard := none } : Oper)) (v := ?_) rfl (by kernel_rfl) (by kernel_rfl) (by kernel_rfl) (fun _ _ _ h => h) (Or.inl ⟨by rfl, ?_⟩) ht ?_
  rotate_left 1
  · (intro w' hw'; obtain ⟨y1, y2, y3, y4⟩ := hw'; have q1 := y1.c0; have q2 := y1.c1; have q3 := y2.c0; have q4 := y2.c1; have q5 := y3.c0; have q6 := y3.c1; have q7 := y4.c0; have q8 := y4.c1; go_simp <;> with_reducible rfl)
  try simp only [Act.put, List.setIfInBounds_toArray, List.set_cons_zero, List.set_cons_succ]
  refine wpAnyH_take (i := 2) (oi := ({ dst := some 30, op := Op.load 23 (Operand.tmp 4), type := 23, pos := "geom.go:38", after := #[], guard := none } : Oper)) (v := ?_) rfl (by kernel_rfl) (by kernel_rfl) (by kernel_rfl) (fun _ _ _ h => h) (Or.inl ⟨by rfl, ?_⟩) ht ?_
  rotate_left 1
  · (intro w' hw'; obtain ⟨y1, y2, y3, y4⟩ := hw'; have q1 := y1.c0; have q2 := y1.c1; have q3 := y2.c0; have q4 := y2.c1; have q5 := y3.c0; have q6 := y3.c1; have q7 := y4.c0; have q8 := y4.c1; go_simp <;> with_reducible rfl)
  try simp only [Act.put, List.setIfInBounds_toArray, List.set_cons_zero, List.set_cons_succ]
  refine wpAnyH_take (i := 4) (oi := ({ dst := some 32, op := Op.load 23 (Operand.tmp 6), type := 23, pos := "geom.go:38", after := #[], guard := none } : Oper)) (v := ?_) rfl (by kernel_rfl) (by kernel_rfl) (by kernel_rfl) (fun _ _ _ h => h) (Or.inl ⟨by rfl, ?_⟩) ht ?_
  rotate_left 1
  · (intro w' hw'; obtain ⟨y1, y2, y3, y4⟩ := hw'; have q1 := y1.c0; have q2 := y1.c1; have q3 := y2.c0; have q4 := y2.c1; have q5 := y3.c0; have q6 := y3.c1; have q7 := y4.c0; have q8 := y4.c1; go_simp <;> with_reducible rfl)
  try simp only [Act.put, List.setIfInBounds_toArray, List.set_cons_zero, List.set_cons_succ]
  refine wpAnyH_take (i := 5) (oi := ({ dst := some 33, op := Op.load 23 (Operand.tmp 7), type := 23, pos := "geom.go:38", after := #[], guard := none } : Oper)) (v := ?_) rfl (by kernel_rfl) (by kernel_rfl) (by kernel_rfl) (fun _ _ _ h => h) (Or.inl ⟨by rfl, ?_⟩) ht ?_
  rotate_left 1
  · (intro w' hw'; obtain ⟨y1, y2, y3, y4⟩ := hw'; have q1 := y1.c0; have q2 := y1.c1; have q3 := y2.c0; have q4 := y2.c1; have q5 := y3.c0; have q6 := y3.c1; have q7 := y4.c0; have q8 := y4.c1; go_simp <;> with_reducible rfl)
  try simp only [Act.put, List.setIfInBounds_toArray, List.set_cons_zero, List.set_cons_succ]
  refine wpAnyH_take (i := 6) (oi := ({ dst := some 34, op := Op.load 23 (Operand.tmp 5), type := 23, pos := "geom.go:38", after := #[], guard := none } : Oper)) (v := ?_) rfl (by kernel_rfl) (by kernel_rfl) (by kernel_rfl) (fun _ _ _ h => h) (Or.inl ⟨by rfl, ?_⟩) ht ?_
  rotate_left 1
  · (intro w' hw'; obtain ⟨y1, y2, y3, y4⟩ := hw'; have q1 := y1.c0; have q2 := y1.c1; have q3 := y2.c0; have q4 := y2.c1; have q5 := y3.c0; have q6 := y3.c1; have q7 := y4.c0; have q8 := y4.c1; go_simp <;> with_reducible rfl)
  try simp only [Act.put, List.setIfInBounds_toArray, List.set_cons_zero, List.set_cons_succ]
  refine wpAnyH_ready (rs := [3]) (by kernel_rfl) (by simp) ?_
  refine AllReadyH.cons (o := ({ dst := some 31, op := Op.call { callee := Callee.value (Operand.func 13), args := #[Operand.tmp 28, Operand.tmp 29, Operand.tmp 30], argTypes := #[23, 23, 23] }, type := 3, pos := "geom.go:38", after := #[{ on := 0, ground := Ground.data }, { on := 1, ground := Ground.data }, { on := 2, ground := Ground.data }], guard := none } : Oper)) rfl (fun K hK => ?_) AllReadyH.nil
  go_simp
  go_at_call 13
  refine (S3.out _).mono ?_
  rintro e w4 ⟨rfl, hb1⟩
  have HBw4 := hid (Bl.trans (Bl.drew HBw3.out) hb1)
  refine hK.out _ _ (⟨ht.1.bl hb1, ht.2.1.bl hb1, ht.2.2.1.bl hb1, ht.2.2.2.bl hb1⟩) (fun ht1 => ?_)
  clear hK K
  try simp only [Act.put, List.setIfInBounds_toArray, List.set_cons_zero, List.set_cons_succ]
  refine wpAnyH_ready (rs := [7]) (by kernel_rfl) (by simp) ?_
  refine AllReadyH.cons (o := ({ dst := some 35, op := Op.call { callee := Callee.value (Operand.func 13), args := #[Operand.tmp 32, Operand.tmp 33, Operand.tmp 34], argTypes := #[23, 23, 23] }, type := 3, pos := "geom.go:38", after := #[{ on := 4, ground := Ground.data }, { on := 5, ground := Ground.data }, { on := 6, ground := Ground.data }, { on := 3, ground := Ground.chain }], guard := none } : Oper)) rfl (fun K hK => ?_) AllReadyH.nil
  go_simp
  go_at_call 13
  refine (S4.out _).mono ?_
  rintro e w5 ⟨rfl, hb2⟩
  have HBw5 := hid (Bl.trans HBw4.out hb2)
  refine hK.out _ _ (⟨ht1.1.bl hb2, ht1.2.1.bl hb2, ht1.2.2.1.bl hb2, ht1.2.2.2.bl hb2⟩) (fun ht2 => ?_)
  clear hK K
  try simp only [Act.put, List.setIfInBounds_toArray, List.set_cons_zero, List.set_cons_succ]
  refine wpAnyH_take (i := 8) (oi := ({ dst := some 11, op := Op.assign (Operand.tmp 31), type := 3, pos := "geom.go:38", after := #[{ on := 3, ground := Ground.data }, { on := 7, ground := Ground.chain }, { on := 0, ground := Ground.phase }, { on := 1, ground := Ground.phase }, { on := 2, ground := Ground.phase }, { on := 3, ground := Ground.phase }, { on := 4, ground := Ground.textOnly Departure.lateStores }, { on := 5, ground := Ground.textOnly Departure.lateStores }, { on := 6, ground := Ground.textOnly Departure.lateStores }, { on := 7, ground := Ground.textOnly Departure.lateStoresUnsure }], guard := none } : Oper)) (v := ?_) rfl (by kernel_rfl) (by kernel_rfl) (by kernel_rfl) (fun _ _ _ h => h) (Or.inl ⟨by rfl, ?_⟩) ht2 ?_
  rotate_left 1
  · (intro w' hw'; go_simp <;> with_reducible rfl)
  try simp only [Act.put, List.setIfInBounds_toArray, List.set_cons_zero, List.set_cons_succ]
  refine wpAnyH_take (i := 9) (oi := ({ dst := some 12, op := Op.assign (Operand.tmp 35), type := 3, pos := "geom.go:38", after := #[{ on := 7, ground := Ground.data }, { on := 8, ground := Ground.chain }, { on := 0, ground := Ground.phase }, { on := 1, ground := Ground.phase }, { on := 2, ground := Ground.phase }, { on := 3, ground := Ground.phase }, { on := 4, ground := Ground.phase }, { on := 5, ground := Ground.phase }, { on := 6, ground := Ground.phase }, { on := 7, ground := Ground.phase }, { on := 8, ground := Ground.phase }], guard := none } : Oper)) (v := ?_) rfl (by kernel_rfl) (by kernel_rfl) (by kernel_rfl) (fun _ _ _ h => h) (Or.inl ⟨by rfl, ?_⟩) ht2 ?_
  rotate_left 1
  · (intro w' hw'; go_simp <;> with_reducible rfl)
  try simp only [Act.put, List.setIfInBounds_toArray, List.set_cons_zero, List.set_cons_succ]
  refine wpAnyH_done (by kernel_rfl) ?_ _
  refine NoPanic.normal ?_
  obtain ⟨z1, z2, z3, z4⟩ := ht2
  have k1 := z1.c0
  have k2 := z1.c1
  have k3 := z2.c0
  have k4 := z2.c1
  have k5 := z3.c0
  have k6 := z3.c1
  have k7 := z4.c0
  have k8 := z4.c1
  clear z1 z2 z3 z4
  go_wp2_with fail
  refine (CE.out _).mono ?_
  rintro e w6 ⟨rfl, hb6⟩
  go_wp2_with fail
  go_ret
  exact ⟨rfl, Bl.trans HBw5.out hb6⟩
theorem Meet_any (a b c d : P) (w : World) :
    Calls Try.prog 19 #[.agg #[.int .i64 a.1, .int .i64 a.2], .agg #[.int .i64 b.1, .int .i64 b.2], .agg #[.int .i64 c.1, .int .i64 c.2], .agg #[.int .i64 d.1, .int .i64 d.2]] w (fun e w' => e = .returned (.int .i64 (mt a b c d)) ∧ Bl w w') := by
  have n1 := fun w' T g hg => Near4 a b c d w' T g hg
  by_cases hn : Nrs [a, b, c, d]
  · rw [decide_eq_true hn] at n1
    have S1 := fun w' => Side_any a b c w'
    have S2 := fun w' => Side_any a b d w'
    have S3 := fun w' => Side_any c d a w'
    have S4 := fun w' => Side_any c d b w'
    have CE := fun w' => Common_in a b c d w'
    have b1 : sd a b c = -1 ∨ sd a b c = 0 ∨ sd a b c = 1 := sgn_bd _
    have b2 : sd a b d = -1 ∨ sd a b d = 0 ∨ sd a b d = 1 := sgn_bd _
    have b3 : sd c d a = -1 ∨ sd c d a = 0 ∨ sd c d a = 1 := sgn_bd _
    have b4 : sd c d b = -1 ∨ sd c d b = 0 ∨ sd c d b = 1 := sgn_bd _
    rw [mt_land hn]
    generalize sd a b c = s1 at *
    generalize sd a b d = s2 at *
    generalize sd c d a = s3 at *
    generalize sd c d b = s4 at *
    have g12 : -1 ≤ s1 * s2 ∧ s1 * s2 ≤ 1 := by rcases b1 with rfl | rfl | rfl <;> rcases b2 with rfl | rfl | rfl <;> decide
    have g34 : -1 ≤ s3 * s4 ∧ s3 * s4 ≤ 1 := by rcases b3 with rfl | rfl | rfl <;> rcases b4 with rfl | rfl | rfl <;> decide
    clear b1 b2 b3 b4
    by_cases h1 : 0 < s1 * s2
    · rw [if_pos (.inl h1)]
      exact Meet_a _ _ _ _ _ _ _ _ w s1 s2 s3 s4 g12.1 g12.2 g34.1 g34.2 h1 (hid n1) (hid S1) (hid S2) (hid S3) (hid S4)
    · by_cases h2 : 0 < s3 * s4
      · rw [if_pos (.inr h2)]
        exact Meet_b _ _ _ _ _ _ _ _ w s1 s2 s3 s4 g12.1 g12.2 g34.1 g34.2 h1 h2 (hid n1) (hid S1) (hid S2) (hid S3) (hid S4)
      · rw [if_neg (fun h => h.elim h1 h2)]
        by_cases h3 : s1 = 0
        · subst h3
          by_cases h4 : s2 = 0
          · subst h4
            rw [if_pos ⟨rfl, rfl⟩]
            exact Meet_c _ _ _ _ _ _ _ _ w _ s3 s4 g34.1 g34.2 h2 (hid n1) (hid S1) (hid S2) (hid S3) (hid S4) (hid CE)
          · rw [if_neg (fun h => h4 h.2)]
            exact Meet_d2 _ _ _ _ _ _ _ _ w s2 s3 s4 g34.1 g34.2 h2 (beq_eq_false_iff_ne.2 h4) (hid n1) (hid S1) (hid S2) (hid S3) (hid S4)
        · rw [if_neg (fun h => h3 h.1)]
          exact Meet_d1 _ _ _ _ _ _ _ _ w s1 s2 s3 s4 g12.1 g12.2 g34.1 g34.2 h1 h2 (beq_eq_false_iff_ne.2 h3) (hid n1) (hid S1) (hid S2) (hid S3) (hid S4)
  · rw [decide_eq_false hn] at n1
    rw [mt_far hn]
    exact Meet_far _ _ _ _ _ _ _ _ w (hid n1)
end Go.Proofs.Ytjdkgndecnhokaa.Geom
