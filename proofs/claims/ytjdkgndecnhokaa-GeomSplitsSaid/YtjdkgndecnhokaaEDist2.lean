/- Contract of the reference of geom: Dist. -/
import Derived.Test.YtjdkgndecnhokaaEDist
namespace Go.Proofs.Ytjdkgndecnhokaa.Geom
open Go.RowKit
open Go.Proofs.Ytjdkgndecnhokaa.Wire
set_option linter.unusedVariables false

/-- block g holds the fraction (x, y) -/
def BY (w : World) (g : Nat) (x y : Int) : Prop := w.heap[g]? = some (.cells #[.int .i64 x, .int .i64 y] 32 (0, 0))
theorem BY.c0 {w : World} {g : Nat} {x y : Int} (h : BY w g x y) : w.cell? ⟨g, 0, none⟩ = some (.int .i64 x) := by rw [cell_of_row _ _ _ _ _ _ h]; rfl
theorem BY.c1 {w : World} {g : Nat} {x y : Int} (h : BY w g x y) : w.cell? ⟨g, 1, none⟩ = some (.int .i64 y) := by rw [cell_of_row _ _ _ _ _ _ h]; rfl
theorem BY.lt {w : World} {g : Nat} {x y : Int} (h : BY w g x y) : g < w.heap.size := lt_of_block h
theorem BY.bl {w w' : World} {g : Nat} {x y : Int} (h : BY w g x y) (hb : Bl w w') : BY w' g x y := (hb.block g h.lt).trans h
theorem BY.al {w : World} {g : Nat} {x y : Int} (h : BY w g x y) (o : Obj) : BY (w.alloc o) g x y := h.bl ((Bl.refl w).alloc o)
theorem BY.new {w : World} {g : Nat} {x y : Int} (hg : g = w.heap.size) : BY (w.alloc (.cells #[.int .i64 x, .int .i64 y] 32)) g x y := by subst hg; exact heap_alloc_new w _
theorem BY.fr {w : World} {g : Nat} {x y : Int} (h : BY w g x y) (j : Nat) : w.frozen? ⟨g, j, none⟩ = false := by simp [World.frozen?, show w.heap[g]? = _ from h]
theorem box31 {w w' : World} {a1 a2 b1 b2 c1 c2 x y : Int} (hb : Bl ((((w.alloc (.cells #[.int .i64 a1, .int .i64 a2] 23)).alloc (.cells #[.int .i64 b1, .int .i64 b2] 23)).alloc (.cells #[.int .i64 c1, .int .i64 c2] 23)).alloc (.cells #[.int .i64 x, .int .i64 y] 32)) w') :
    BX w' w.heap.size a1 a2 ∧ BX w' (w.heap.size + 1) b1 b2 ∧ BX w' (w.heap.size + 1 + 1) c1 c2 ∧ BY w' (w.heap.size + 1 + 1 + 1) x y :=
  ⟨((((BX.new rfl).al _).al _).al _).bl hb, (((BX.new (by simp)).al _).al _).bl hb, ((BX.new (by simp)).al _).bl hb, (BY.new (by simp)).bl hb⟩

def DisOut (w : World) (d : Int × Int) (e : Ending) (w' : World) : Prop := e = .returned (.agg #[.int .i64 d.1, .int .i64 d.2]) ∧ Bl w w'
theorem DisOut.mk' {w w' : World} {d : Int × Int} {x y : Int} (h : d = (x, y)) (hb : Bl w w') : DisOut w d (.returned (.agg #[.int .i64 x, .int .i64 y])) w' := ⟨by rw [h], hb⟩
theorem BY.set {w : World} {g : Nat} {x y : Int} (x' y' : Int) (h : BY w g x y) : BY ((w.setCell ⟨g, 0, none⟩ (.int .i64 x')).setCell ⟨g, 1, none⟩ (.int .i64 y')) g x' y' := by
  have h' : w.heap[g]? = some (.cells #[.int .i64 x, .int .i64 y] 32 (0, 0)) := h
  show ((w.setCell ⟨g, 0, none⟩ (.int .i64 x')).setCell ⟨g, 1, none⟩ (.int .i64 y')).heap[g]? = _
  rw [heap_setCell_same _ _ _ _ _ _ (heap_setCell_same _ _ _ _ _ _ h')]
  rfl
-- DIST
set_option maxHeartbeats 4000000 in
theorem dist_far (a b p : P) (w : World) (hn : ¬ Nrs [a, b, p]) :
    Calls Try.prog 25 #[.agg #[.int .i64 a.1, .int .i64 a.2], .agg #[.int .i64 b.1, .int .i64 b.2], .agg #[.int .i64 p.1, .int .i64 p.2]] w (DisOut w (dis a b p)) := by
  have n1 := fun w' T g hg => RNear3 a b p w' T g hg
  rw [decide_eq_false hn] at n1
  have N1 := hid n1
  have FIN := hid (fun w' => DisOut.mk' (w := w) (w' := w') (dis_far hn))
  clear n1 hn
  generalize dis a b p = D at *
  obtain ⟨a1, a2⟩ := a
  obtain ⟨b1, b2⟩ := b
  obtain ⟨p1, p2⟩ := p
  simp only at N1
  have hg3 : w.heap.size ≤ w.heap.size + 1 + 1 + 1 := by omega
  go_enter Try.func25, Try.ntmps25
  go_wp2_with fail
  refine (N1.out _ _ _ (by simp)).mono ?_
  rintro e w1 ⟨rfl, hw⟩
  have B : Bl w w1 := by rw [← hw]; exact (((((Bl.refl w).alloc _).alloc _).alloc _).alloc _).alloc _
  obtain ⟨X0, X1, X2, X3⟩ := box31 (show Bl _ w1 by rw [← hw]; exact (Bl.refl _).alloc _)
  clear hw
  have k00 := X0.c0
  have k01 := X0.c1
  have k10 := X1.c0
  have k11 := X1.c1
  have k20 := X2.c0
  have k21 := X2.c1
  have k30 := X3.c0
  have k31 := X3.c1
  have fr := X3.fr
  go_wp2_with fail
  have Yf := BY.set (0) (0) X3
  (try simp only [Exit.inBlock, Exit.then])
  refine bodyPost_ret (results_cell_row rfl _ _ _ _ _ _ _ rfl Yf Try.underlying32 rfl (by kernel_rfl)) rfl ?_
  exact FIN.out _ (Below.trans B (((Below.refl _ _).setCell hg3 _).setCell hg3 _))

set_option maxHeartbeats 8000000 in
theorem dist_before (w : World) (D : Int × Int) (N t : Int) (a1 a2 b1 b2 p1 p2 : Int)
    (N1 : Hid (∀ (w' : World) (T' : TypeId) (g : Nat), g = w'.heap.size → Calls Try.prog 22 #[.slice (some ⟨g, 0, none⟩) 3 3] (w'.alloc (.cells #[.int .i64 a1, .int .i64 a2, .int .i64 b1, .int .i64 b2, .int .i64 p1, .int .i64 p2] T')) fun e w'' => e = .returned (.bool true) ∧ (w'.alloc (.cells #[.int .i64 a1, .int .i64 a2, .int .i64 b1, .int .i64 b2, .int .i64 p1, .int .i64 p2] T')) = w''))
    (C1 : Hid (∀ w', Calls Try.prog 37 #[.agg #[.int .i64 a1, .int .i64 a2], .agg #[.int .i64 b1, .int .i64 b2], .agg #[.int .i64 a1, .int .i64 a2], .agg #[.int .i64 b1, .int .i64 b2]] w' fun e w'' => e = .returned (.int .i64 N) ∧ Bl w' w''))
    (C2 : Hid (∀ w', Calls Try.prog 37 #[.agg #[.int .i64 a1, .int .i64 a2], .agg #[.int .i64 b1, .int .i64 b2], .agg #[.int .i64 a1, .int .i64 a2], .agg #[.int .i64 p1, .int .i64 p2]] w' fun e w'' => e = .returned (.int .i64 t) ∧ Bl w' w''))
    (V : Int) (h : t ≤ 0)
    (C3 : Hid (∀ w', Calls Try.prog 37 #[.agg #[.int .i64 a1, .int .i64 a2], .agg #[.int .i64 p1, .int .i64 p2], .agg #[.int .i64 a1, .int .i64 a2], .agg #[.int .i64 p1, .int .i64 p2]] w' fun e w'' => e = .returned (.int .i64 V) ∧ Bl w' w''))
    (FIN : Hid (∀ w', Bl w w' → DisOut w D (.returned (.agg #[.int .i64 (V), .int .i64 (1)])) w')) :
    Calls Try.prog 25 #[.agg #[.int .i64 a1, .int .i64 a2], .agg #[.int .i64 b1, .int .i64 b2], .agg #[.int .i64 p1, .int .i64 p2]] w (DisOut w D) := by
  have hg3 : w.heap.size ≤ w.heap.size + 1 + 1 + 1 := by omega
  go_enter Try.func25, Try.ntmps25
  go_wp2_with fail
  refine (N1.out _ _ _ (by simp)).mono ?_
  rintro e w1 ⟨rfl, hw⟩
  have B : Bl w w1 := by rw [← hw]; exact (((((Bl.refl w).alloc _).alloc _).alloc _).alloc _).alloc _
  obtain ⟨X0, X1, X2, X3⟩ := box31 (show Bl _ w1 by rw [← hw]; exact (Bl.refl _).alloc _)
  clear hw
  have k00 := X0.c0
  have k01 := X0.c1
  have k10 := X1.c0
  have k11 := X1.c1
  have k20 := X2.c0
  have k21 := X2.c1
  have k30 := X3.c0
  have k31 := X3.c1
  have fr := X3.fr
  have hzz : w.heap.size + 1 + 1 + 1 < w1.heap.size := X3.lt
  have H0 := hid X0
  have H1 := hid X1
  have H2 := hid X2
  have H3 := hid X3
  have HB := hid B
  clear X0 X1 X2 X3 B k30 k31 fr
  go_wp2_with fail
  go_region_held3 (fun w' => w'.cell? ⟨w.heap.size, 0, none⟩ = some (.int .i64 a1) ∧ w'.cell? ⟨w.heap.size, 1, none⟩ = some (.int .i64 a2) ∧ w'.cell? ⟨w.heap.size + 1, 0, none⟩ = some (.int .i64 b1) ∧ w'.cell? ⟨w.heap.size + 1, 1, none⟩ = some (.int .i64 b2) ∧ w'.cell? ⟨w.heap.size + 1 + 1, 0, none⟩ = some (.int .i64 p1) ∧ w'.cell? ⟨w.heap.size + 1 + 1, 1, none⟩ = some (.int .i64 p2))
    (first | exact ⟨k00, k01, k10, k11, k20, k21⟩ | go_keep | (go_split_ands; exact ⟨(hbx.cell (p := ⟨w.heap.size, 0, none⟩) (by first | (show w.heap.size < w1.heap.size; omega) | (show w.heap.size < _; omega))).trans (by assumption), (hbx.cell (p := ⟨w.heap.size, 1, none⟩) (by first | (show w.heap.size < w1.heap.size; omega) | (show w.heap.size < _; omega))).trans (by assumption), (hbx.cell (p := ⟨w.heap.size + 1, 0, none⟩) (by first | (show w.heap.size + 1 < w1.heap.size; omega) | (show w.heap.size + 1 < _; omega))).trans (by assumption), (hbx.cell (p := ⟨w.heap.size + 1, 1, none⟩) (by first | (show w.heap.size + 1 < w1.heap.size; omega) | (show w.heap.size + 1 < _; omega))).trans (by assumption), (hbx.cell (p := ⟨w.heap.size + 1 + 1, 0, none⟩) (by first | (show w.heap.size + 1 + 1 < w1.heap.size; omega) | (show w.heap.size + 1 + 1 < _; omega))).trans (by assumption), (hbx.cell (p := ⟨w.heap.size + 1 + 1, 1, none⟩) (by first | (show w.heap.size + 1 + 1 < w1.heap.size; omega) | (show w.heap.size + 1 + 1 < _; omega))).trans (by assumption)⟩))
    (first | (go_at_call 37; (with_reducible refine (C1.out _).mono ?_); rintro e wx ⟨rfl, hbx⟩; have hzw : w.heap.size + 1 + 1 + 1 < wx.heap.size := (by have hz0 := hbx.size; first | omega | (change w1.heap.size ≤ _ at hz0; omega)); have hB1 : Bl w1 wx := Bl.trans (by first | assumption | exact (Bl.refl w1).drew) hbx) | (go_at_call 37; (with_reducible refine (C2.out _).mono ?_); rintro e wx ⟨rfl, hbx⟩; have hzw : w.heap.size + 1 + 1 + 1 < wx.heap.size := (by have hz0 := hbx.size; first | omega | (change w1.heap.size ≤ _ at hz0; omega)); have hB1 : Bl w1 wx := Bl.trans (by first | assumption | exact (Bl.refl w1).drew) hbx))
  all_goals
    have hB0 : Bl w1 wx := by assumption
    have X0 := BX.bl H0.out hB0
    have X1 := BX.bl H1.out hB0
    have X2 := BX.bl H2.out hB0
    have X3 := BY.bl H3.out hB0
    have B := Bl.trans HB.out hB0
    have k00 := X0.c0
    have k01 := X0.c1
    have k10 := X1.c0
    have k11 := X1.c1
    have k20 := X2.c0
    have k21 := X2.c1
    have k30 := X3.c0
    have k31 := X3.c1
    have fr := X3.fr
    go_wp2_with fail
    refine ((C3).out _).mono ?_
    rintro e w2 ⟨rfl, hb⟩
    clear k00 k01 k10 k11 k20 k21 k30 k31 fr
    have Y0 := BX.bl X0 hb
    have Y1 := BX.bl X1 hb
    have Y2 := BX.bl X2 hb
    have Y3 := BY.bl X3 hb
    have B2 := Bl.trans B hb
    clear X0 X1 X2 X3 B hb
    have X0 := Y0
    have X1 := Y1
    have X2 := Y2
    have X3 := Y3
    have B := B2
    clear Y0 Y1 Y2 Y3 B2
    have k00 := X0.c0
    have k01 := X0.c1
    have k10 := X1.c0
    have k11 := X1.c1
    have k20 := X2.c0
    have k21 := X2.c1
    have k30 := X3.c0
    have k31 := X3.c1
    have fr := X3.fr
    go_wp2_with fail
    have Yf := BY.set (V) (1) X3
    (try simp only [Exit.inBlock, Exit.then])
    refine bodyPost_ret (results_cell_row rfl _ _ _ _ _ _ _ rfl Yf Try.underlying32 rfl (by kernel_rfl)) rfl ?_
    exact FIN.out _ (Below.trans B (((Below.refl _ _).setCell hg3 _).setCell hg3 _))

set_option maxHeartbeats 8000000 in
theorem dist_behind (w : World) (D : Int × Int) (N t : Int) (a1 a2 b1 b2 p1 p2 : Int)
    (N1 : Hid (∀ (w' : World) (T' : TypeId) (g : Nat), g = w'.heap.size → Calls Try.prog 22 #[.slice (some ⟨g, 0, none⟩) 3 3] (w'.alloc (.cells #[.int .i64 a1, .int .i64 a2, .int .i64 b1, .int .i64 b2, .int .i64 p1, .int .i64 p2] T')) fun e w'' => e = .returned (.bool true) ∧ (w'.alloc (.cells #[.int .i64 a1, .int .i64 a2, .int .i64 b1, .int .i64 b2, .int .i64 p1, .int .i64 p2] T')) = w''))
    (C1 : Hid (∀ w', Calls Try.prog 37 #[.agg #[.int .i64 a1, .int .i64 a2], .agg #[.int .i64 b1, .int .i64 b2], .agg #[.int .i64 a1, .int .i64 a2], .agg #[.int .i64 b1, .int .i64 b2]] w' fun e w'' => e = .returned (.int .i64 N) ∧ Bl w' w''))
    (C2 : Hid (∀ w', Calls Try.prog 37 #[.agg #[.int .i64 a1, .int .i64 a2], .agg #[.int .i64 b1, .int .i64 b2], .agg #[.int .i64 a1, .int .i64 a2], .agg #[.int .i64 p1, .int .i64 p2]] w' fun e w'' => e = .returned (.int .i64 t) ∧ Bl w' w''))
    (V : Int) (h : 0 < t) (h2 : N ≤ t)
    (C3 : Hid (∀ w', Calls Try.prog 37 #[.agg #[.int .i64 b1, .int .i64 b2], .agg #[.int .i64 p1, .int .i64 p2], .agg #[.int .i64 b1, .int .i64 b2], .agg #[.int .i64 p1, .int .i64 p2]] w' fun e w'' => e = .returned (.int .i64 V) ∧ Bl w' w''))
    (FIN : Hid (∀ w', Bl w w' → DisOut w D (.returned (.agg #[.int .i64 (V), .int .i64 (1)])) w')) :
    Calls Try.prog 25 #[.agg #[.int .i64 a1, .int .i64 a2], .agg #[.int .i64 b1, .int .i64 b2], .agg #[.int .i64 p1, .int .i64 p2]] w (DisOut w D) := by
  have hg3 : w.heap.size ≤ w.heap.size + 1 + 1 + 1 := by omega
  go_enter Try.func25, Try.ntmps25
  go_wp2_with fail
  refine (N1.out _ _ _ (by simp)).mono ?_
  rintro e w1 ⟨rfl, hw⟩
  have B : Bl w w1 := by rw [← hw]; exact (((((Bl.refl w).alloc _).alloc _).alloc _).alloc _).alloc _
  obtain ⟨X0, X1, X2, X3⟩ := box31 (show Bl _ w1 by rw [← hw]; exact (Bl.refl _).alloc _)
  clear hw
  have k00 := X0.c0
  have k01 := X0.c1
  have k10 := X1.c0
  have k11 := X1.c1
  have k20 := X2.c0
  have k21 := X2.c1
  have k30 := X3.c0
  have k31 := X3.c1
  have fr := X3.fr
  have hzz : w.heap.size + 1 + 1 + 1 < w1.heap.size := X3.lt
  have H0 := hid X0
  have H1 := hid X1
  have H2 := hid X2
  have H3 := hid X3
  have HB := hid B
  clear X0 X1 X2 X3 B k30 k31 fr
  go_wp2_with fail
  go_region_held3 (fun w' => w'.cell? ⟨w.heap.size, 0, none⟩ = some (.int .i64 a1) ∧ w'.cell? ⟨w.heap.size, 1, none⟩ = some (.int .i64 a2) ∧ w'.cell? ⟨w.heap.size + 1, 0, none⟩ = some (.int .i64 b1) ∧ w'.cell? ⟨w.heap.size + 1, 1, none⟩ = some (.int .i64 b2) ∧ w'.cell? ⟨w.heap.size + 1 + 1, 0, none⟩ = some (.int .i64 p1) ∧ w'.cell? ⟨w.heap.size + 1 + 1, 1, none⟩ = some (.int .i64 p2))
    (first | exact ⟨k00, k01, k10, k11, k20, k21⟩ | go_keep | (go_split_ands; exact ⟨(hbx.cell (p := ⟨w.heap.size, 0, none⟩) (by first | (show w.heap.size < w1.heap.size; omega) | (show w.heap.size < _; omega))).trans (by assumption), (hbx.cell (p := ⟨w.heap.size, 1, none⟩) (by first | (show w.heap.size < w1.heap.size; omega) | (show w.heap.size < _; omega))).trans (by assumption), (hbx.cell (p := ⟨w.heap.size + 1, 0, none⟩) (by first | (show w.heap.size + 1 < w1.heap.size; omega) | (show w.heap.size + 1 < _; omega))).trans (by assumption), (hbx.cell (p := ⟨w.heap.size + 1, 1, none⟩) (by first | (show w.heap.size + 1 < w1.heap.size; omega) | (show w.heap.size + 1 < _; omega))).trans (by assumption), (hbx.cell (p := ⟨w.heap.size + 1 + 1, 0, none⟩) (by first | (show w.heap.size + 1 + 1 < w1.heap.size; omega) | (show w.heap.size + 1 + 1 < _; omega))).trans (by assumption), (hbx.cell (p := ⟨w.heap.size + 1 + 1, 1, none⟩) (by first | (show w.heap.size + 1 + 1 < w1.heap.size; omega) | (show w.heap.size + 1 + 1 < _; omega))).trans (by assumption)⟩))
    (first | (go_at_call 37; (with_reducible refine (C1.out _).mono ?_); rintro e wx ⟨rfl, hbx⟩; have hzw : w.heap.size + 1 + 1 + 1 < wx.heap.size := (by have hz0 := hbx.size; first | omega | (change w1.heap.size ≤ _ at hz0; omega)); have hB1 : Bl w1 wx := Bl.trans (by first | assumption | exact (Bl.refl w1).drew) hbx) | (go_at_call 37; (with_reducible refine (C2.out _).mono ?_); rintro e wx ⟨rfl, hbx⟩; have hzw : w.heap.size + 1 + 1 + 1 < wx.heap.size := (by have hz0 := hbx.size; first | omega | (change w1.heap.size ≤ _ at hz0; omega)); have hB1 : Bl w1 wx := Bl.trans (by first | assumption | exact (Bl.refl w1).drew) hbx))
  all_goals
    have hB0 : Bl w1 wx := by assumption
    have X0 := BX.bl H0.out hB0
    have X1 := BX.bl H1.out hB0
    have X2 := BX.bl H2.out hB0
    have X3 := BY.bl H3.out hB0
    have B := Bl.trans HB.out hB0
    have k00 := X0.c0
    have k01 := X0.c1
    have k10 := X1.c0
    have k11 := X1.c1
    have k20 := X2.c0
    have k21 := X2.c1
    have k30 := X3.c0
    have k31 := X3.c1
    have fr := X3.fr
    go_wp2_with fail
    refine ((C3).out _).mono ?_
    rintro e w2 ⟨rfl, hb⟩
    clear k00 k01 k10 k11 k20 k21 k30 k31 fr
    have Y0 := BX.bl X0 hb
    have Y1 := BX.bl X1 hb
    have Y2 := BX.bl X2 hb
    have Y3 := BY.bl X3 hb
    have B2 := Bl.trans B hb
    clear X0 X1 X2 X3 B hb
    have X0 := Y0
    have X1 := Y1
    have X2 := Y2
    have X3 := Y3
    have B := B2
    clear Y0 Y1 Y2 Y3 B2
    have k00 := X0.c0
    have k01 := X0.c1
    have k10 := X1.c0
    have k11 := X1.c1
    have k20 := X2.c0
    have k21 := X2.c1
    have k30 := X3.c0
    have k31 := X3.c1
    have fr := X3.fr
    go_wp2_with fail
    have Yf := BY.set (V) (1) X3
    (try simp only [Exit.inBlock, Exit.then])
    refine bodyPost_ret (results_cell_row rfl _ _ _ _ _ _ _ rfl Yf Try.underlying32 rfl (by kernel_rfl)) rfl ?_
    exact FIN.out _ (Below.trans B (((Below.refl _ _).setCell hg3 _).setCell hg3 _))

set_option maxHeartbeats 8000000 in
theorem dist_line (w : World) (D : Int × Int) (N t : Int) (a1 a2 b1 b2 p1 p2 : Int)
    (N1 : Hid (∀ (w' : World) (T' : TypeId) (g : Nat), g = w'.heap.size → Calls Try.prog 22 #[.slice (some ⟨g, 0, none⟩) 3 3] (w'.alloc (.cells #[.int .i64 a1, .int .i64 a2, .int .i64 b1, .int .i64 b2, .int .i64 p1, .int .i64 p2] T')) fun e w'' => e = .returned (.bool true) ∧ (w'.alloc (.cells #[.int .i64 a1, .int .i64 a2, .int .i64 b1, .int .i64 b2, .int .i64 p1, .int .i64 p2] T')) = w''))
    (C1 : Hid (∀ w', Calls Try.prog 37 #[.agg #[.int .i64 a1, .int .i64 a2], .agg #[.int .i64 b1, .int .i64 b2], .agg #[.int .i64 a1, .int .i64 a2], .agg #[.int .i64 b1, .int .i64 b2]] w' fun e w'' => e = .returned (.int .i64 N) ∧ Bl w' w''))
    (C2 : Hid (∀ w', Calls Try.prog 37 #[.agg #[.int .i64 a1, .int .i64 a2], .agg #[.int .i64 b1, .int .i64 b2], .agg #[.int .i64 a1, .int .i64 a2], .agg #[.int .i64 p1, .int .i64 p2]] w' fun e w'' => e = .returned (.int .i64 t) ∧ Bl w' w''))
    (h : 0 < t) (h2 : t < N)
    (C3 : Hid (∀ w', Calls Try.prog 34 #[.agg #[.int .i64 a1, .int .i64 a2], .agg #[.int .i64 b1, .int .i64 b2], .agg #[.int .i64 a1, .int .i64 a2], .agg #[.int .i64 p1, .int .i64 p2]] w' fun e w'' => e = .returned (.int .i64 0) ∧ Bl w' w''))
    (FIN : Hid (∀ w', Bl w w' → DisOut w D (.returned (.agg #[.int .i64 (0), .int .i64 (1)])) w')) :
    Calls Try.prog 25 #[.agg #[.int .i64 a1, .int .i64 a2], .agg #[.int .i64 b1, .int .i64 b2], .agg #[.int .i64 p1, .int .i64 p2]] w (DisOut w D) := by
  have hg3 : w.heap.size ≤ w.heap.size + 1 + 1 + 1 := by omega
  go_enter Try.func25, Try.ntmps25
  go_wp2_with fail
  refine (N1.out _ _ _ (by simp)).mono ?_
  rintro e w1 ⟨rfl, hw⟩
  have B : Bl w w1 := by rw [← hw]; exact (((((Bl.refl w).alloc _).alloc _).alloc _).alloc _).alloc _
  obtain ⟨X0, X1, X2, X3⟩ := box31 (show Bl _ w1 by rw [← hw]; exact (Bl.refl _).alloc _)
  clear hw
  have k00 := X0.c0
  have k01 := X0.c1
  have k10 := X1.c0
  have k11 := X1.c1
  have k20 := X2.c0
  have k21 := X2.c1
  have k30 := X3.c0
  have k31 := X3.c1
  have fr := X3.fr
  have hzz : w.heap.size + 1 + 1 + 1 < w1.heap.size := X3.lt
  have H0 := hid X0
  have H1 := hid X1
  have H2 := hid X2
  have H3 := hid X3
  have HB := hid B
  clear X0 X1 X2 X3 B k30 k31 fr
  go_wp2_with fail
  go_region_held3 (fun w' => w'.cell? ⟨w.heap.size, 0, none⟩ = some (.int .i64 a1) ∧ w'.cell? ⟨w.heap.size, 1, none⟩ = some (.int .i64 a2) ∧ w'.cell? ⟨w.heap.size + 1, 0, none⟩ = some (.int .i64 b1) ∧ w'.cell? ⟨w.heap.size + 1, 1, none⟩ = some (.int .i64 b2) ∧ w'.cell? ⟨w.heap.size + 1 + 1, 0, none⟩ = some (.int .i64 p1) ∧ w'.cell? ⟨w.heap.size + 1 + 1, 1, none⟩ = some (.int .i64 p2))
    (first | exact ⟨k00, k01, k10, k11, k20, k21⟩ | go_keep | (go_split_ands; exact ⟨(hbx.cell (p := ⟨w.heap.size, 0, none⟩) (by first | (show w.heap.size < w1.heap.size; omega) | (show w.heap.size < _; omega))).trans (by assumption), (hbx.cell (p := ⟨w.heap.size, 1, none⟩) (by first | (show w.heap.size < w1.heap.size; omega) | (show w.heap.size < _; omega))).trans (by assumption), (hbx.cell (p := ⟨w.heap.size + 1, 0, none⟩) (by first | (show w.heap.size + 1 < w1.heap.size; omega) | (show w.heap.size + 1 < _; omega))).trans (by assumption), (hbx.cell (p := ⟨w.heap.size + 1, 1, none⟩) (by first | (show w.heap.size + 1 < w1.heap.size; omega) | (show w.heap.size + 1 < _; omega))).trans (by assumption), (hbx.cell (p := ⟨w.heap.size + 1 + 1, 0, none⟩) (by first | (show w.heap.size + 1 + 1 < w1.heap.size; omega) | (show w.heap.size + 1 + 1 < _; omega))).trans (by assumption), (hbx.cell (p := ⟨w.heap.size + 1 + 1, 1, none⟩) (by first | (show w.heap.size + 1 + 1 < w1.heap.size; omega) | (show w.heap.size + 1 + 1 < _; omega))).trans (by assumption)⟩))
    (first | (go_at_call 37; (with_reducible refine (C1.out _).mono ?_); rintro e wx ⟨rfl, hbx⟩; have hzw : w.heap.size + 1 + 1 + 1 < wx.heap.size := (by have hz0 := hbx.size; first | omega | (change w1.heap.size ≤ _ at hz0; omega)); have hB1 : Bl w1 wx := Bl.trans (by first | assumption | exact (Bl.refl w1).drew) hbx) | (go_at_call 37; (with_reducible refine (C2.out _).mono ?_); rintro e wx ⟨rfl, hbx⟩; have hzw : w.heap.size + 1 + 1 + 1 < wx.heap.size := (by have hz0 := hbx.size; first | omega | (change w1.heap.size ≤ _ at hz0; omega)); have hB1 : Bl w1 wx := Bl.trans (by first | assumption | exact (Bl.refl w1).drew) hbx))
  all_goals
    have hB0 : Bl w1 wx := by assumption
    have X0 := BX.bl H0.out hB0
    have X1 := BX.bl H1.out hB0
    have X2 := BX.bl H2.out hB0
    have X3 := BY.bl H3.out hB0
    have B := Bl.trans HB.out hB0
    have k00 := X0.c0
    have k01 := X0.c1
    have k10 := X1.c0
    have k11 := X1.c1
    have k20 := X2.c0
    have k21 := X2.c1
    have k30 := X3.c0
    have k31 := X3.c1
    have fr := X3.fr
    go_wp2_with fail
    refine ((C3).out _).mono ?_
    rintro e w2 ⟨rfl, hb⟩
    clear k00 k01 k10 k11 k20 k21 k30 k31 fr
    have Y0 := BX.bl X0 hb
    have Y1 := BX.bl X1 hb
    have Y2 := BX.bl X2 hb
    have Y3 := BY.bl X3 hb
    have B2 := Bl.trans B hb
    clear X0 X1 X2 X3 B hb
    have X0 := Y0
    have X1 := Y1
    have X2 := Y2
    have X3 := Y3
    have B := B2
    clear Y0 Y1 Y2 Y3 B2
    have k00 := X0.c0
    have k01 := X0.c1
    have k10 := X1.c0
    have k11 := X1.c1
    have k20 := X2.c0
    have k21 := X2.c1
    have k30 := X3.c0
    have k31 := X3.c1
    have fr := X3.fr
    go_wp2_with fail
    have Yf := BY.set (0) (1) X3
    (try simp only [Exit.inBlock, Exit.then])
    refine bodyPost_ret (results_cell_row rfl _ _ _ _ _ _ _ rfl Yf Try.underlying32 rfl (by kernel_rfl)) rfl ?_
    exact FIN.out _ (Below.trans B (((Below.refl _ _).setCell hg3 _).setCell hg3 _))

set_option maxHeartbeats 8000000 in
theorem dist_midp0 (w : World) (D : Int × Int) (N t : Int) (a1 a2 b1 b2 p1 p2 : Int)
    (N1 : Hid (∀ (w' : World) (T' : TypeId) (g : Nat), g = w'.heap.size → Calls Try.prog 22 #[.slice (some ⟨g, 0, none⟩) 3 3] (w'.alloc (.cells #[.int .i64 a1, .int .i64 a2, .int .i64 b1, .int .i64 b2, .int .i64 p1, .int .i64 p2] T')) fun e w'' => e = .returned (.bool true) ∧ (w'.alloc (.cells #[.int .i64 a1, .int .i64 a2, .int .i64 b1, .int .i64 b2, .int .i64 p1, .int .i64 p2] T')) = w''))
    (C1 : Hid (∀ w', Calls Try.prog 37 #[.agg #[.int .i64 a1, .int .i64 a2], .agg #[.int .i64 b1, .int .i64 b2], .agg #[.int .i64 a1, .int .i64 a2], .agg #[.int .i64 b1, .int .i64 b2]] w' fun e w'' => e = .returned (.int .i64 N) ∧ Bl w' w''))
    (C2 : Hid (∀ w', Calls Try.prog 37 #[.agg #[.int .i64 a1, .int .i64 a2], .agg #[.int .i64 b1, .int .i64 b2], .agg #[.int .i64 a1, .int .i64 a2], .agg #[.int .i64 p1, .int .i64 p2]] w' fun e w'' => e = .returned (.int .i64 t) ∧ Bl w' w''))
    (n c g h x y m den R : Nat) (hN : N = (n : Int)) (h1 : 0 < t) (h2 : t < N) (c0 : 0 < c) (c1 : c ≤ 35184372088832) (n1 : n ≤ 35184372088832) (g0 : 0 < g) (hh0 : 0 < h) (x1 : x ≤ 35184372088832) (y0 : 0 < y) (y1 : y ≤ 35184372088832) (m1 : m ≤ 35184372088832) (de1 : den ≤ 35184372088832)
    (ex : (c : Int) / (g : Int) = (x : Int)) (ey : (c : Int) / (h : Int) = (y : Int)) (em : (n : Int) / (g : Int) = (m : Int)) (ed : (m : Int) / (h : Int) = (den : Int)) (MQ : Int) (eM : (9223372036854775807 : Int) / (y : Int) = MQ)
    (C3 : Hid (∀ w', Calls Try.prog 34 #[.agg #[.int .i64 a1, .int .i64 a2], .agg #[.int .i64 b1, .int .i64 b2], .agg #[.int .i64 a1, .int .i64 a2], .agg #[.int .i64 p1, .int .i64 p2]] w' fun e w'' => e = .returned (.int .i64 (c : Int)) ∧ Bl w' w''))
    (G1 : Hid (∀ w', Calls Try.prog 45 #[.int .i64 (c : Nat), .int .i64 (n : Nat)] w' fun e w'' => e = .returned (.int .i64 (g : Nat)) ∧ Q w' w''))
    (G2 : Hid (∀ w', Calls Try.prog 45 #[.int .i64 (c : Nat), .int .i64 (m : Nat)] w' fun e w'' => e = .returned (.int .i64 (h : Nat)) ∧ Q w' w''))
    (SQ : Hid (∀ w', Calls Try.prog 46 #[.int .i64 (c : Nat), .int .i64 (n : Nat)] w' fun e w'' => e = .returned (.int .i64 (R : Nat)) ∧ Q w' w''))
    (hov : (x : Int) ≤ MQ) (pb : (x : Int) * (y : Int) ≤ 9223372036854775807) (pb0 : 0 ≤ (x : Int) * (y : Int))
    (FIN : Hid (∀ w', Bl w w' → DisOut w D (.returned (.agg #[.int .i64 ((x : Int) * (y : Int)), .int .i64 ((den : Int))])) w')) :
    Calls Try.prog 25 #[.agg #[.int .i64 a1, .int .i64 a2], .agg #[.int .i64 b1, .int .i64 b2], .agg #[.int .i64 p1, .int .i64 p2]] w (DisOut w D) := by
  subst hN
  have q1 : ((c : Int) == 0) = false := beq_eq_false_iff_ne.2 (by omega)
  have q1' : ¬ (c : Int) = 0 := by omega
  have q2 : ((g : Int) == 0) = false := beq_eq_false_iff_ne.2 (by omega)
  have q3 : ((h : Int) == 0) = false := beq_eq_false_iff_ne.2 (by omega)
  have q4 : ((y : Int) == 0) = false := beq_eq_false_iff_ne.2 (by omega)
  have q5 : ¬ (g : Int) = 0 := by omega
  have q6 : ¬ (h : Int) = 0 := by omega
  have q7 : ¬ (y : Int) = 0 := by omega
  have hg3 : w.heap.size ≤ w.heap.size + 1 + 1 + 1 := by omega
  go_enter Try.func25, Try.ntmps25
  go_wp2_with fail
  refine (N1.out _ _ _ (by simp)).mono ?_
  rintro e w1 ⟨rfl, hw⟩
  have B : Bl w w1 := by rw [← hw]; exact (((((Bl.refl w).alloc _).alloc _).alloc _).alloc _).alloc _
  obtain ⟨X0, X1, X2, X3⟩ := box31 (show Bl _ w1 by rw [← hw]; exact (Bl.refl _).alloc _)
  clear hw
  have k00 := X0.c0
  have k01 := X0.c1
  have k10 := X1.c0
  have k11 := X1.c1
  have k20 := X2.c0
  have k21 := X2.c1
  have k30 := X3.c0
  have k31 := X3.c1
  have fr := X3.fr
  have hzz : w.heap.size + 1 + 1 + 1 < w1.heap.size := X3.lt
  have H0 := hid X0
  have H1 := hid X1
  have H2 := hid X2
  have H3 := hid X3
  have HB := hid B
  clear X0 X1 X2 X3 B k30 k31 fr
  go_wp2_with fail
  go_region_held3 (fun w' => w'.cell? ⟨w.heap.size, 0, none⟩ = some (.int .i64 a1) ∧ w'.cell? ⟨w.heap.size, 1, none⟩ = some (.int .i64 a2) ∧ w'.cell? ⟨w.heap.size + 1, 0, none⟩ = some (.int .i64 b1) ∧ w'.cell? ⟨w.heap.size + 1, 1, none⟩ = some (.int .i64 b2) ∧ w'.cell? ⟨w.heap.size + 1 + 1, 0, none⟩ = some (.int .i64 p1) ∧ w'.cell? ⟨w.heap.size + 1 + 1, 1, none⟩ = some (.int .i64 p2))
    (first | exact ⟨k00, k01, k10, k11, k20, k21⟩ | go_keep | (go_split_ands; exact ⟨(hbx.cell (p := ⟨w.heap.size, 0, none⟩) (by first | (show w.heap.size < w1.heap.size; omega) | (show w.heap.size < _; omega))).trans (by assumption), (hbx.cell (p := ⟨w.heap.size, 1, none⟩) (by first | (show w.heap.size < w1.heap.size; omega) | (show w.heap.size < _; omega))).trans (by assumption), (hbx.cell (p := ⟨w.heap.size + 1, 0, none⟩) (by first | (show w.heap.size + 1 < w1.heap.size; omega) | (show w.heap.size + 1 < _; omega))).trans (by assumption), (hbx.cell (p := ⟨w.heap.size + 1, 1, none⟩) (by first | (show w.heap.size + 1 < w1.heap.size; omega) | (show w.heap.size + 1 < _; omega))).trans (by assumption), (hbx.cell (p := ⟨w.heap.size + 1 + 1, 0, none⟩) (by first | (show w.heap.size + 1 + 1 < w1.heap.size; omega) | (show w.heap.size + 1 + 1 < _; omega))).trans (by assumption), (hbx.cell (p := ⟨w.heap.size + 1 + 1, 1, none⟩) (by first | (show w.heap.size + 1 + 1 < w1.heap.size; omega) | (show w.heap.size + 1 + 1 < _; omega))).trans (by assumption)⟩))
    (first | (go_at_call 37; (with_reducible refine (C1.out _).mono ?_); rintro e wx ⟨rfl, hbx⟩; have hzw : w.heap.size + 1 + 1 + 1 < wx.heap.size := (by have hz0 := hbx.size; first | omega | (change w1.heap.size ≤ _ at hz0; omega)); have hB1 : Bl w1 wx := Bl.trans (by first | assumption | exact (Bl.refl w1).drew) hbx) | (go_at_call 37; (with_reducible refine (C2.out _).mono ?_); rintro e wx ⟨rfl, hbx⟩; have hzw : w.heap.size + 1 + 1 + 1 < wx.heap.size := (by have hz0 := hbx.size; first | omega | (change w1.heap.size ≤ _ at hz0; omega)); have hB1 : Bl w1 wx := Bl.trans (by first | assumption | exact (Bl.refl w1).drew) hbx))
  all_goals
    have hB0 : Bl w1 wx := by assumption
    have X0 := BX.bl H0.out hB0
    have X1 := BX.bl H1.out hB0
    have X2 := BX.bl H2.out hB0
    have X3 := BY.bl H3.out hB0
    have B := Bl.trans HB.out hB0
    have k00 := X0.c0
    have k01 := X0.c1
    have k10 := X1.c0
    have k11 := X1.c1
    have k20 := X2.c0
    have k21 := X2.c1
    have k30 := X3.c0
    have k31 := X3.c1
    have fr := X3.fr
    go_wp2_with fail
    refine ((C3).out _).mono ?_
    rintro e w2 ⟨rfl, hb⟩
    clear k00 k01 k10 k11 k20 k21 k30 k31 fr
    have Y0 := BX.bl X0 hb
    have Y1 := BX.bl X1 hb
    have Y2 := BX.bl X2 hb
    have Y3 := BY.bl X3 hb
    have B2 := Bl.trans B hb
    clear X0 X1 X2 X3 B hb
    have X0 := Y0
    have X1 := Y1
    have X2 := Y2
    have X3 := Y3
    have B := B2
    clear Y0 Y1 Y2 Y3 B2
    have k00 := X0.c0
    have k01 := X0.c1
    have k10 := X1.c0
    have k11 := X1.c1
    have k20 := X2.c0
    have k21 := X2.c1
    have k30 := X3.c0
    have k31 := X3.c1
    have fr := X3.fr
    go_wp2_with fail
    refine ((G1).out _).mono ?_
    rintro e w2 ⟨rfl, hq⟩
    have hb := hq.bl
    clear k00 k01 k10 k11 k20 k21 k30 k31 fr
    have Y0 := BX.bl X0 hb
    have Y1 := BX.bl X1 hb
    have Y2 := BX.bl X2 hb
    have Y3 := BY.bl X3 hb
    have B2 := Bl.trans B hb
    clear X0 X1 X2 X3 B hb
    have X0 := Y0
    have X1 := Y1
    have X2 := Y2
    have X3 := Y3
    have B := B2
    clear Y0 Y1 Y2 Y3 B2
    clear hq
    have k00 := X0.c0
    have k01 := X0.c1
    have k10 := X1.c0
    have k11 := X1.c1
    have k20 := X2.c0
    have k21 := X2.c1
    have k30 := X3.c0
    have k31 := X3.c1
    have fr := X3.fr
    go_wp2_with fail
    refine ((G2).out _).mono ?_
    rintro e w2 ⟨rfl, hq⟩
    have hb := hq.bl
    clear k00 k01 k10 k11 k20 k21 k30 k31 fr
    have Y0 := BX.bl X0 hb
    have Y1 := BX.bl X1 hb
    have Y2 := BX.bl X2 hb
    have Y3 := BY.bl X3 hb
    have B2 := Bl.trans B hb
    clear X0 X1 X2 X3 B hb
    have X0 := Y0
    have X1 := Y1
    have X2 := Y2
    have X3 := Y3
    have B := B2
    clear Y0 Y1 Y2 Y3 B2
    clear hq
    have k00 := X0.c0
    have k01 := X0.c1
    have k10 := X1.c0
    have k11 := X1.c1
    have k20 := X2.c0
    have k21 := X2.c1
    have k30 := X3.c0
    have k31 := X3.c1
    have fr := X3.fr
    go_wp2_with fail
    go_quiet (fail)
    clear k00 k01 k10 k11 k20 k21 k30 k31 fr
    have X0 := BX.drewN X0 nq
    have X1 := BX.drewN X1 nq
    have X2 := BX.drewN X2 nq
    have X3 : BY (w2.drewN nq) (w.heap.size + 1 + 1 + 1) 0 0 := X3
    have B := Bl.drewN B nq
    have k00 := X0.c0
    have k01 := X0.c1
    have k10 := X1.c0
    have k11 := X1.c1
    have k20 := X2.c0
    have k21 := X2.c1
    have k30 := X3.c0
    have k31 := X3.c1
    have fr := X3.fr
    go_wp2_with fail
    have Yf := BY.set ((x : Int) * (y : Int)) ((den : Int)) X3
    (try simp only [Exit.inBlock, Exit.then])
    refine bodyPost_ret (results_cell_row rfl _ _ _ _ _ _ _ rfl Yf Try.underlying32 rfl (by kernel_rfl)) rfl ?_
    exact FIN.out _ (Below.trans B (((Below.refl _ _).setCell hg3 _).setCell hg3 _))

set_option maxHeartbeats 8000000 in
theorem dist_midp1 (w : World) (D : Int × Int) (N t : Int) (a1 a2 b1 b2 p1 p2 : Int)
    (N1 : Hid (∀ (w' : World) (T' : TypeId) (g : Nat), g = w'.heap.size → Calls Try.prog 22 #[.slice (some ⟨g, 0, none⟩) 3 3] (w'.alloc (.cells #[.int .i64 a1, .int .i64 a2, .int .i64 b1, .int .i64 b2, .int .i64 p1, .int .i64 p2] T')) fun e w'' => e = .returned (.bool true) ∧ (w'.alloc (.cells #[.int .i64 a1, .int .i64 a2, .int .i64 b1, .int .i64 b2, .int .i64 p1, .int .i64 p2] T')) = w''))
    (C1 : Hid (∀ w', Calls Try.prog 37 #[.agg #[.int .i64 a1, .int .i64 a2], .agg #[.int .i64 b1, .int .i64 b2], .agg #[.int .i64 a1, .int .i64 a2], .agg #[.int .i64 b1, .int .i64 b2]] w' fun e w'' => e = .returned (.int .i64 N) ∧ Bl w' w''))
    (C2 : Hid (∀ w', Calls Try.prog 37 #[.agg #[.int .i64 a1, .int .i64 a2], .agg #[.int .i64 b1, .int .i64 b2], .agg #[.int .i64 a1, .int .i64 a2], .agg #[.int .i64 p1, .int .i64 p2]] w' fun e w'' => e = .returned (.int .i64 t) ∧ Bl w' w''))
    (n c g h x y m den R : Nat) (hN : N = (n : Int)) (h1 : 0 < t) (h2 : t < N) (c0 : 0 < c) (c1 : c ≤ 35184372088832) (n1 : n ≤ 35184372088832) (g0 : 0 < g) (hh0 : 0 < h) (x1 : x ≤ 35184372088832) (y0 : 0 < y) (y1 : y ≤ 35184372088832) (m1 : m ≤ 35184372088832) (de1 : den ≤ 35184372088832)
    (ex : (c : Int) / (g : Int) = (x : Int)) (ey : (c : Int) / (h : Int) = (y : Int)) (em : (n : Int) / (g : Int) = (m : Int)) (ed : (m : Int) / (h : Int) = (den : Int)) (MQ : Int) (eM : (9223372036854775807 : Int) / (y : Int) = MQ)
    (C3 : Hid (∀ w', Calls Try.prog 34 #[.agg #[.int .i64 a1, .int .i64 a2], .agg #[.int .i64 b1, .int .i64 b2], .agg #[.int .i64 a1, .int .i64 a2], .agg #[.int .i64 p1, .int .i64 p2]] w' fun e w'' => e = .returned (.int .i64 (c : Int)) ∧ Bl w' w''))
    (G1 : Hid (∀ w', Calls Try.prog 45 #[.int .i64 (c : Nat), .int .i64 (n : Nat)] w' fun e w'' => e = .returned (.int .i64 (g : Nat)) ∧ Q w' w''))
    (G2 : Hid (∀ w', Calls Try.prog 45 #[.int .i64 (c : Nat), .int .i64 (m : Nat)] w' fun e w'' => e = .returned (.int .i64 (h : Nat)) ∧ Q w' w''))
    (SQ : Hid (∀ w', Calls Try.prog 46 #[.int .i64 (c : Nat), .int .i64 (n : Nat)] w' fun e w'' => e = .returned (.int .i64 (R : Nat)) ∧ Q w' w''))
    (hov : MQ < (x : Int))
    (FIN : Hid (∀ w', Bl w w' → DisOut w D (.returned (.agg #[.int .i64 ((R : Int)), .int .i64 (1)])) w')) :
    Calls Try.prog 25 #[.agg #[.int .i64 a1, .int .i64 a2], .agg #[.int .i64 b1, .int .i64 b2], .agg #[.int .i64 p1, .int .i64 p2]] w (DisOut w D) := by
  subst hN
  have q1 : ((c : Int) == 0) = false := beq_eq_false_iff_ne.2 (by omega)
  have q1' : ¬ (c : Int) = 0 := by omega
  have q2 : ((g : Int) == 0) = false := beq_eq_false_iff_ne.2 (by omega)
  have q3 : ((h : Int) == 0) = false := beq_eq_false_iff_ne.2 (by omega)
  have q4 : ((y : Int) == 0) = false := beq_eq_false_iff_ne.2 (by omega)
  have q5 : ¬ (g : Int) = 0 := by omega
  have q6 : ¬ (h : Int) = 0 := by omega
  have q7 : ¬ (y : Int) = 0 := by omega
  have hg3 : w.heap.size ≤ w.heap.size + 1 + 1 + 1 := by omega
  go_enter Try.func25, Try.ntmps25
  go_wp2_with fail
  refine (N1.out _ _ _ (by simp)).mono ?_
  rintro e w1 ⟨rfl, hw⟩
  have B : Bl w w1 := by rw [← hw]; exact (((((Bl.refl w).alloc _).alloc _).alloc _).alloc _).alloc _
  obtain ⟨X0, X1, X2, X3⟩ := box31 (show Bl _ w1 by rw [← hw]; exact (Bl.refl _).alloc _)
  clear hw
  have k00 := X0.c0
  have k01 := X0.c1
  have k10 := X1.c0
  have k11 := X1.c1
  have k20 := X2.c0
  have k21 := X2.c1
  have k30 := X3.c0
  have k31 := X3.c1
  have fr := X3.fr
  have hzz : w.heap.size + 1 + 1 + 1 < w1.heap.size := X3.lt
  have H0 := hid X0
  have H1 := hid X1
  have H2 := hid X2
  have H3 := hid X3
  have HB := hid B
  clear X0 X1 X2 X3 B k30 k31 fr
  go_wp2_with fail
  go_region_held3 (fun w' => w'.cell? ⟨w.heap.size, 0, none⟩ = some (.int .i64 a1) ∧ w'.cell? ⟨w.heap.size, 1, none⟩ = some (.int .i64 a2) ∧ w'.cell? ⟨w.heap.size + 1, 0, none⟩ = some (.int .i64 b1) ∧ w'.cell? ⟨w.heap.size + 1, 1, none⟩ = some (.int .i64 b2) ∧ w'.cell? ⟨w.heap.size + 1 + 1, 0, none⟩ = some (.int .i64 p1) ∧ w'.cell? ⟨w.heap.size + 1 + 1, 1, none⟩ = some (.int .i64 p2))
    (first | exact ⟨k00, k01, k10, k11, k20, k21⟩ | go_keep | (go_split_ands; exact ⟨(hbx.cell (p := ⟨w.heap.size, 0, none⟩) (by first | (show w.heap.size < w1.heap.size; omega) | (show w.heap.size < _; omega))).trans (by assumption), (hbx.cell (p := ⟨w.heap.size, 1, none⟩) (by first | (show w.heap.size < w1.heap.size; omega) | (show w.heap.size < _; omega))).trans (by assumption), (hbx.cell (p := ⟨w.heap.size + 1, 0, none⟩) (by first | (show w.heap.size + 1 < w1.heap.size; omega) | (show w.heap.size + 1 < _; omega))).trans (by assumption), (hbx.cell (p := ⟨w.heap.size + 1, 1, none⟩) (by first | (show w.heap.size + 1 < w1.heap.size; omega) | (show w.heap.size + 1 < _; omega))).trans (by assumption), (hbx.cell (p := ⟨w.heap.size + 1 + 1, 0, none⟩) (by first | (show w.heap.size + 1 + 1 < w1.heap.size; omega) | (show w.heap.size + 1 + 1 < _; omega))).trans (by assumption), (hbx.cell (p := ⟨w.heap.size + 1 + 1, 1, none⟩) (by first | (show w.heap.size + 1 + 1 < w1.heap.size; omega) | (show w.heap.size + 1 + 1 < _; omega))).trans (by assumption)⟩))
    (first | (go_at_call 37; (with_reducible refine (C1.out _).mono ?_); rintro e wx ⟨rfl, hbx⟩; have hzw : w.heap.size + 1 + 1 + 1 < wx.heap.size := (by have hz0 := hbx.size; first | omega | (change w1.heap.size ≤ _ at hz0; omega)); have hB1 : Bl w1 wx := Bl.trans (by first | assumption | exact (Bl.refl w1).drew) hbx) | (go_at_call 37; (with_reducible refine (C2.out _).mono ?_); rintro e wx ⟨rfl, hbx⟩; have hzw : w.heap.size + 1 + 1 + 1 < wx.heap.size := (by have hz0 := hbx.size; first | omega | (change w1.heap.size ≤ _ at hz0; omega)); have hB1 : Bl w1 wx := Bl.trans (by first | assumption | exact (Bl.refl w1).drew) hbx))
  all_goals
    have hB0 : Bl w1 wx := by assumption
    have X0 := BX.bl H0.out hB0
    have X1 := BX.bl H1.out hB0
    have X2 := BX.bl H2.out hB0
    have X3 := BY.bl H3.out hB0
    have B := Bl.trans HB.out hB0
    have k00 := X0.c0
    have k01 := X0.c1
    have k10 := X1.c0
    have k11 := X1.c1
    have k20 := X2.c0
    have k21 := X2.c1
    have k30 := X3.c0
    have k31 := X3.c1
    have fr := X3.fr
    go_wp2_with fail
    refine ((C3).out _).mono ?_
    rintro e w2 ⟨rfl, hb⟩
    clear k00 k01 k10 k11 k20 k21 k30 k31 fr
    have Y0 := BX.bl X0 hb
    have Y1 := BX.bl X1 hb
    have Y2 := BX.bl X2 hb
    have Y3 := BY.bl X3 hb
    have B2 := Bl.trans B hb
    clear X0 X1 X2 X3 B hb
    have X0 := Y0
    have X1 := Y1
    have X2 := Y2
    have X3 := Y3
    have B := B2
    clear Y0 Y1 Y2 Y3 B2
    have k00 := X0.c0
    have k01 := X0.c1
    have k10 := X1.c0
    have k11 := X1.c1
    have k20 := X2.c0
    have k21 := X2.c1
    have k30 := X3.c0
    have k31 := X3.c1
    have fr := X3.fr
    go_wp2_with fail
    refine ((G1).out _).mono ?_
    rintro e w2 ⟨rfl, hq⟩
    have hb := hq.bl
    clear k00 k01 k10 k11 k20 k21 k30 k31 fr
    have Y0 := BX.bl X0 hb
    have Y1 := BX.bl X1 hb
    have Y2 := BX.bl X2 hb
    have Y3 := BY.bl X3 hb
    have B2 := Bl.trans B hb
    clear X0 X1 X2 X3 B hb
    have X0 := Y0
    have X1 := Y1
    have X2 := Y2
    have X3 := Y3
    have B := B2
    clear Y0 Y1 Y2 Y3 B2
    clear hq
    have k00 := X0.c0
    have k01 := X0.c1
    have k10 := X1.c0
    have k11 := X1.c1
    have k20 := X2.c0
    have k21 := X2.c1
    have k30 := X3.c0
    have k31 := X3.c1
    have fr := X3.fr
    go_wp2_with fail
    refine ((G2).out _).mono ?_
    rintro e w2 ⟨rfl, hq⟩
    have hb := hq.bl
    clear k00 k01 k10 k11 k20 k21 k30 k31 fr
    have Y0 := BX.bl X0 hb
    have Y1 := BX.bl X1 hb
    have Y2 := BX.bl X2 hb
    have Y3 := BY.bl X3 hb
    have B2 := Bl.trans B hb
    clear X0 X1 X2 X3 B hb
    have X0 := Y0
    have X1 := Y1
    have X2 := Y2
    have X3 := Y3
    have B := B2
    clear Y0 Y1 Y2 Y3 B2
    clear hq
    have k00 := X0.c0
    have k01 := X0.c1
    have k10 := X1.c0
    have k11 := X1.c1
    have k20 := X2.c0
    have k21 := X2.c1
    have k30 := X3.c0
    have k31 := X3.c1
    have fr := X3.fr
    go_wp2_with fail
    go_quiet (fail)
    clear k00 k01 k10 k11 k20 k21 k30 k31 fr
    have X0 := BX.drewN X0 nq
    have X1 := BX.drewN X1 nq
    have X2 := BX.drewN X2 nq
    have X3 : BY (w2.drewN nq) (w.heap.size + 1 + 1 + 1) 0 0 := X3
    have B := Bl.drewN B nq
    have k00 := X0.c0
    have k01 := X0.c1
    have k10 := X1.c0
    have k11 := X1.c1
    have k20 := X2.c0
    have k21 := X2.c1
    have k30 := X3.c0
    have k31 := X3.c1
    have fr := X3.fr
    go_wp2_with fail
    refine ((SQ).out _).mono ?_
    rintro e w2 ⟨rfl, hq⟩
    have hb := hq.bl
    clear k00 k01 k10 k11 k20 k21 k30 k31 fr
    have Y0 := BX.bl X0 hb
    have Y1 := BX.bl X1 hb
    have Y2 := BX.bl X2 hb
    have Y3 := BY.bl X3 hb
    have B2 := Bl.trans B hb
    clear X0 X1 X2 X3 B hb
    have X0 := Y0
    have X1 := Y1
    have X2 := Y2
    have X3 := Y3
    have B := B2
    clear Y0 Y1 Y2 Y3 B2
    clear hq
    have k00 := X0.c0
    have k01 := X0.c1
    have k10 := X1.c0
    have k11 := X1.c1
    have k20 := X2.c0
    have k21 := X2.c1
    have k30 := X3.c0
    have k31 := X3.c1
    have fr := X3.fr
    go_wp2_with fail
    have Yf := BY.set ((R : Int)) (1) X3
    (try simp only [Exit.inBlock, Exit.then])
    refine bodyPost_ret (results_cell_row rfl _ _ _ _ _ _ _ rfl Yf Try.underlying32 rfl (by kernel_rfl)) rfl ?_
    exact FIN.out _ (Below.trans B (((Below.refl _ _).setCell hg3 _).setCell hg3 _))

set_option maxHeartbeats 8000000 in
theorem dist_midn0 (w : World) (D : Int × Int) (N t : Int) (a1 a2 b1 b2 p1 p2 : Int)
    (N1 : Hid (∀ (w' : World) (T' : TypeId) (g : Nat), g = w'.heap.size → Calls Try.prog 22 #[.slice (some ⟨g, 0, none⟩) 3 3] (w'.alloc (.cells #[.int .i64 a1, .int .i64 a2, .int .i64 b1, .int .i64 b2, .int .i64 p1, .int .i64 p2] T')) fun e w'' => e = .returned (.bool true) ∧ (w'.alloc (.cells #[.int .i64 a1, .int .i64 a2, .int .i64 b1, .int .i64 b2, .int .i64 p1, .int .i64 p2] T')) = w''))
    (C1 : Hid (∀ w', Calls Try.prog 37 #[.agg #[.int .i64 a1, .int .i64 a2], .agg #[.int .i64 b1, .int .i64 b2], .agg #[.int .i64 a1, .int .i64 a2], .agg #[.int .i64 b1, .int .i64 b2]] w' fun e w'' => e = .returned (.int .i64 N) ∧ Bl w' w''))
    (C2 : Hid (∀ w', Calls Try.prog 37 #[.agg #[.int .i64 a1, .int .i64 a2], .agg #[.int .i64 b1, .int .i64 b2], .agg #[.int .i64 a1, .int .i64 a2], .agg #[.int .i64 p1, .int .i64 p2]] w' fun e w'' => e = .returned (.int .i64 t) ∧ Bl w' w''))
    (n c g h x y m den R : Nat) (hN : N = (n : Int)) (h1 : 0 < t) (h2 : t < N) (c0 : 0 < c) (c1 : c ≤ 35184372088832) (n1 : n ≤ 35184372088832) (g0 : 0 < g) (hh0 : 0 < h) (x1 : x ≤ 35184372088832) (y0 : 0 < y) (y1 : y ≤ 35184372088832) (m1 : m ≤ 35184372088832) (de1 : den ≤ 35184372088832)
    (ex : (c : Int) / (g : Int) = (x : Int)) (ey : (c : Int) / (h : Int) = (y : Int)) (em : (n : Int) / (g : Int) = (m : Int)) (ed : (m : Int) / (h : Int) = (den : Int)) (MQ : Int) (eM : (9223372036854775807 : Int) / (y : Int) = MQ)
    (C3 : Hid (∀ w', Calls Try.prog 34 #[.agg #[.int .i64 a1, .int .i64 a2], .agg #[.int .i64 b1, .int .i64 b2], .agg #[.int .i64 a1, .int .i64 a2], .agg #[.int .i64 p1, .int .i64 p2]] w' fun e w'' => e = .returned (.int .i64 (-(c : Int))) ∧ Bl w' w''))
    (G1 : Hid (∀ w', Calls Try.prog 45 #[.int .i64 (c : Nat), .int .i64 (n : Nat)] w' fun e w'' => e = .returned (.int .i64 (g : Nat)) ∧ Q w' w''))
    (G2 : Hid (∀ w', Calls Try.prog 45 #[.int .i64 (c : Nat), .int .i64 (m : Nat)] w' fun e w'' => e = .returned (.int .i64 (h : Nat)) ∧ Q w' w''))
    (SQ : Hid (∀ w', Calls Try.prog 46 #[.int .i64 (c : Nat), .int .i64 (n : Nat)] w' fun e w'' => e = .returned (.int .i64 (R : Nat)) ∧ Q w' w''))
    (hov : (x : Int) ≤ MQ) (pb : (x : Int) * (y : Int) ≤ 9223372036854775807) (pb0 : 0 ≤ (x : Int) * (y : Int))
    (FIN : Hid (∀ w', Bl w w' → DisOut w D (.returned (.agg #[.int .i64 ((x : Int) * (y : Int)), .int .i64 ((den : Int))])) w')) :
    Calls Try.prog 25 #[.agg #[.int .i64 a1, .int .i64 a2], .agg #[.int .i64 b1, .int .i64 b2], .agg #[.int .i64 p1, .int .i64 p2]] w (DisOut w D) := by
  subst hN
  have q1 : ((c : Int) == 0) = false := beq_eq_false_iff_ne.2 (by omega)
  have q1' : ¬ (c : Int) = 0 := by omega
  have q2 : ((g : Int) == 0) = false := beq_eq_false_iff_ne.2 (by omega)
  have q3 : ((h : Int) == 0) = false := beq_eq_false_iff_ne.2 (by omega)
  have q4 : ((y : Int) == 0) = false := beq_eq_false_iff_ne.2 (by omega)
  have q5 : ¬ (g : Int) = 0 := by omega
  have q6 : ¬ (h : Int) = 0 := by omega
  have q7 : ¬ (y : Int) = 0 := by omega
  have hg3 : w.heap.size ≤ w.heap.size + 1 + 1 + 1 := by omega
  go_enter Try.func25, Try.ntmps25
  go_wp2_with fail
  refine (N1.out _ _ _ (by simp)).mono ?_
  rintro e w1 ⟨rfl, hw⟩
  have B : Bl w w1 := by rw [← hw]; exact (((((Bl.refl w).alloc _).alloc _).alloc _).alloc _).alloc _
  obtain ⟨X0, X1, X2, X3⟩ := box31 (show Bl _ w1 by rw [← hw]; exact (Bl.refl _).alloc _)
  clear hw
  have k00 := X0.c0
  have k01 := X0.c1
  have k10 := X1.c0
  have k11 := X1.c1
  have k20 := X2.c0
  have k21 := X2.c1
  have k30 := X3.c0
  have k31 := X3.c1
  have fr := X3.fr
  have hzz : w.heap.size + 1 + 1 + 1 < w1.heap.size := X3.lt
  have H0 := hid X0
  have H1 := hid X1
  have H2 := hid X2
  have H3 := hid X3
  have HB := hid B
  clear X0 X1 X2 X3 B k30 k31 fr
  go_wp2_with fail
  go_region_held3 (fun w' => w'.cell? ⟨w.heap.size, 0, none⟩ = some (.int .i64 a1) ∧ w'.cell? ⟨w.heap.size, 1, none⟩ = some (.int .i64 a2) ∧ w'.cell? ⟨w.heap.size + 1, 0, none⟩ = some (.int .i64 b1) ∧ w'.cell? ⟨w.heap.size + 1, 1, none⟩ = some (.int .i64 b2) ∧ w'.cell? ⟨w.heap.size + 1 + 1, 0, none⟩ = some (.int .i64 p1) ∧ w'.cell? ⟨w.heap.size + 1 + 1, 1, none⟩ = some (.int .i64 p2))
    (first | exact ⟨k00, k01, k10, k11, k20, k21⟩ | go_keep | (go_split_ands; exact ⟨(hbx.cell (p := ⟨w.heap.size, 0, none⟩) (by first | (show w.heap.size < w1.heap.size; omega) | (show w.heap.size < _; omega))).trans (by assumption), (hbx.cell (p := ⟨w.heap.size, 1, none⟩) (by first | (show w.heap.size < w1.heap.size; omega) | (show w.heap.size < _; omega))).trans (by assumption), (hbx.cell (p := ⟨w.heap.size + 1, 0, none⟩) (by first | (show w.heap.size + 1 < w1.heap.size; omega) | (show w.heap.size + 1 < _; omega))).trans (by assumption), (hbx.cell (p := ⟨w.heap.size + 1, 1, none⟩) (by first | (show w.heap.size + 1 < w1.heap.size; omega) | (show w.heap.size + 1 < _; omega))).trans (by assumption), (hbx.cell (p := ⟨w.heap.size + 1 + 1, 0, none⟩) (by first | (show w.heap.size + 1 + 1 < w1.heap.size; omega) | (show w.heap.size + 1 + 1 < _; omega))).trans (by assumption), (hbx.cell (p := ⟨w.heap.size + 1 + 1, 1, none⟩) (by first | (show w.heap.size + 1 + 1 < w1.heap.size; omega) | (show w.heap.size + 1 + 1 < _; omega))).trans (by assumption)⟩))
    (first | (go_at_call 37; (with_reducible refine (C1.out _).mono ?_); rintro e wx ⟨rfl, hbx⟩; have hzw : w.heap.size + 1 + 1 + 1 < wx.heap.size := (by have hz0 := hbx.size; first | omega | (change w1.heap.size ≤ _ at hz0; omega)); have hB1 : Bl w1 wx := Bl.trans (by first | assumption | exact (Bl.refl w1).drew) hbx) | (go_at_call 37; (with_reducible refine (C2.out _).mono ?_); rintro e wx ⟨rfl, hbx⟩; have hzw : w.heap.size + 1 + 1 + 1 < wx.heap.size := (by have hz0 := hbx.size; first | omega | (change w1.heap.size ≤ _ at hz0; omega)); have hB1 : Bl w1 wx := Bl.trans (by first | assumption | exact (Bl.refl w1).drew) hbx))
  all_goals
    have hB0 : Bl w1 wx := by assumption
    have X0 := BX.bl H0.out hB0
    have X1 := BX.bl H1.out hB0
    have X2 := BX.bl H2.out hB0
    have X3 := BY.bl H3.out hB0
    have B := Bl.trans HB.out hB0
    have k00 := X0.c0
    have k01 := X0.c1
    have k10 := X1.c0
    have k11 := X1.c1
    have k20 := X2.c0
    have k21 := X2.c1
    have k30 := X3.c0
    have k31 := X3.c1
    have fr := X3.fr
    go_wp2_with fail
    refine ((C3).out _).mono ?_
    rintro e w2 ⟨rfl, hb⟩
    clear k00 k01 k10 k11 k20 k21 k30 k31 fr
    have Y0 := BX.bl X0 hb
    have Y1 := BX.bl X1 hb
    have Y2 := BX.bl X2 hb
    have Y3 := BY.bl X3 hb
    have B2 := Bl.trans B hb
    clear X0 X1 X2 X3 B hb
    have X0 := Y0
    have X1 := Y1
    have X2 := Y2
    have X3 := Y3
    have B := B2
    clear Y0 Y1 Y2 Y3 B2
    have k00 := X0.c0
    have k01 := X0.c1
    have k10 := X1.c0
    have k11 := X1.c1
    have k20 := X2.c0
    have k21 := X2.c1
    have k30 := X3.c0
    have k31 := X3.c1
    have fr := X3.fr
    go_wp2_with fail
    refine ((G1).out _).mono ?_
    rintro e w2 ⟨rfl, hq⟩
    have hb := hq.bl
    clear k00 k01 k10 k11 k20 k21 k30 k31 fr
    have Y0 := BX.bl X0 hb
    have Y1 := BX.bl X1 hb
    have Y2 := BX.bl X2 hb
    have Y3 := BY.bl X3 hb
    have B2 := Bl.trans B hb
    clear X0 X1 X2 X3 B hb
    have X0 := Y0
    have X1 := Y1
    have X2 := Y2
    have X3 := Y3
    have B := B2
    clear Y0 Y1 Y2 Y3 B2
    clear hq
    have k00 := X0.c0
    have k01 := X0.c1
    have k10 := X1.c0
    have k11 := X1.c1
    have k20 := X2.c0
    have k21 := X2.c1
    have k30 := X3.c0
    have k31 := X3.c1
    have fr := X3.fr
    go_wp2_with fail
    refine ((G2).out _).mono ?_
    rintro e w2 ⟨rfl, hq⟩
    have hb := hq.bl
    clear k00 k01 k10 k11 k20 k21 k30 k31 fr
    have Y0 := BX.bl X0 hb
    have Y1 := BX.bl X1 hb
    have Y2 := BX.bl X2 hb
    have Y3 := BY.bl X3 hb
    have B2 := Bl.trans B hb
    clear X0 X1 X2 X3 B hb
    have X0 := Y0
    have X1 := Y1
    have X2 := Y2
    have X3 := Y3
    have B := B2
    clear Y0 Y1 Y2 Y3 B2
    clear hq
    have k00 := X0.c0
    have k01 := X0.c1
    have k10 := X1.c0
    have k11 := X1.c1
    have k20 := X2.c0
    have k21 := X2.c1
    have k30 := X3.c0
    have k31 := X3.c1
    have fr := X3.fr
    go_wp2_with fail
    go_quiet (fail)
    clear k00 k01 k10 k11 k20 k21 k30 k31 fr
    have X0 := BX.drewN X0 nq
    have X1 := BX.drewN X1 nq
    have X2 := BX.drewN X2 nq
    have X3 : BY (w2.drewN nq) (w.heap.size + 1 + 1 + 1) 0 0 := X3
    have B := Bl.drewN B nq
    have k00 := X0.c0
    have k01 := X0.c1
    have k10 := X1.c0
    have k11 := X1.c1
    have k20 := X2.c0
    have k21 := X2.c1
    have k30 := X3.c0
    have k31 := X3.c1
    have fr := X3.fr
    go_wp2_with fail
    have Yf := BY.set ((x : Int) * (y : Int)) ((den : Int)) X3
    (try simp only [Exit.inBlock, Exit.then])
    refine bodyPost_ret (results_cell_row rfl _ _ _ _ _ _ _ rfl Yf Try.underlying32 rfl (by kernel_rfl)) rfl ?_
    exact FIN.out _ (Below.trans B (((Below.refl _ _).setCell hg3 _).setCell hg3 _))

set_option maxHeartbeats 8000000 in
theorem dist_midn1 (w : World) (D : Int × Int) (N t : Int) (a1 a2 b1 b2 p1 p2 : Int)
    (N1 : Hid (∀ (w' : World) (T' : TypeId) (g : Nat), g = w'.heap.size → Calls Try.prog 22 #[.slice (some ⟨g, 0, none⟩) 3 3] (w'.alloc (.cells #[.int .i64 a1, .int .i64 a2, .int .i64 b1, .int .i64 b2, .int .i64 p1, .int .i64 p2] T')) fun e w'' => e = .returned (.bool true) ∧ (w'.alloc (.cells #[.int .i64 a1, .int .i64 a2, .int .i64 b1, .int .i64 b2, .int .i64 p1, .int .i64 p2] T')) = w''))
    (C1 : Hid (∀ w', Calls Try.prog 37 #[.agg #[.int .i64 a1, .int .i64 a2], .agg #[.int .i64 b1, .int .i64 b2], .agg #[.int .i64 a1, .int .i64 a2], .agg #[.int .i64 b1, .int .i64 b2]] w' fun e w'' => e = .returned (.int .i64 N) ∧ Bl w' w''))
    (C2 : Hid (∀ w', Calls Try.prog 37 #[.agg #[.int .i64 a1, .int .i64 a2], .agg #[.int .i64 b1, .int .i64 b2], .agg #[.int .i64 a1, .int .i64 a2], .agg #[.int .i64 p1, .int .i64 p2]] w' fun e w'' => e = .returned (.int .i64 t) ∧ Bl w' w''))
    (n c g h x y m den R : Nat) (hN : N = (n : Int)) (h1 : 0 < t) (h2 : t < N) (c0 : 0 < c) (c1 : c ≤ 35184372088832) (n1 : n ≤ 35184372088832) (g0 : 0 < g) (hh0 : 0 < h) (x1 : x ≤ 35184372088832) (y0 : 0 < y) (y1 : y ≤ 35184372088832) (m1 : m ≤ 35184372088832) (de1 : den ≤ 35184372088832)
    (ex : (c : Int) / (g : Int) = (x : Int)) (ey : (c : Int) / (h : Int) = (y : Int)) (em : (n : Int) / (g : Int) = (m : Int)) (ed : (m : Int) / (h : Int) = (den : Int)) (MQ : Int) (eM : (9223372036854775807 : Int) / (y : Int) = MQ)
    (C3 : Hid (∀ w', Calls Try.prog 34 #[.agg #[.int .i64 a1, .int .i64 a2], .agg #[.int .i64 b1, .int .i64 b2], .agg #[.int .i64 a1, .int .i64 a2], .agg #[.int .i64 p1, .int .i64 p2]] w' fun e w'' => e = .returned (.int .i64 (-(c : Int))) ∧ Bl w' w''))
    (G1 : Hid (∀ w', Calls Try.prog 45 #[.int .i64 (c : Nat), .int .i64 (n : Nat)] w' fun e w'' => e = .returned (.int .i64 (g : Nat)) ∧ Q w' w''))
    (G2 : Hid (∀ w', Calls Try.prog 45 #[.int .i64 (c : Nat), .int .i64 (m : Nat)] w' fun e w'' => e = .returned (.int .i64 (h : Nat)) ∧ Q w' w''))
    (SQ : Hid (∀ w', Calls Try.prog 46 #[.int .i64 (c : Nat), .int .i64 (n : Nat)] w' fun e w'' => e = .returned (.int .i64 (R : Nat)) ∧ Q w' w''))
    (hov : MQ < (x : Int))
    (FIN : Hid (∀ w', Bl w w' → DisOut w D (.returned (.agg #[.int .i64 ((R : Int)), .int .i64 (1)])) w')) :
    Calls Try.prog 25 #[.agg #[.int .i64 a1, .int .i64 a2], .agg #[.int .i64 b1, .int .i64 b2], .agg #[.int .i64 p1, .int .i64 p2]] w (DisOut w D) := by
  subst hN
  have q1 : ((c : Int) == 0) = false := beq_eq_false_iff_ne.2 (by omega)
  have q1' : ¬ (c : Int) = 0 := by omega
  have q2 : ((g : Int) == 0) = false := beq_eq_false_iff_ne.2 (by omega)
  have q3 : ((h : Int) == 0) = false := beq_eq_false_iff_ne.2 (by omega)
  have q4 : ((y : Int) == 0) = false := beq_eq_false_iff_ne.2 (by omega)
  have q5 : ¬ (g : Int) = 0 := by omega
  have q6 : ¬ (h : Int) = 0 := by omega
  have q7 : ¬ (y : Int) = 0 := by omega
  have hg3 : w.heap.size ≤ w.heap.size + 1 + 1 + 1 := by omega
  go_enter Try.func25, Try.ntmps25
  go_wp2_with fail
  refine (N1.out _ _ _ (by simp)).mono ?_
  rintro e w1 ⟨rfl, hw⟩
  have B : Bl w w1 := by rw [← hw]; exact (((((Bl.refl w).alloc _).alloc _).alloc _).alloc _).alloc _
  obtain ⟨X0, X1, X2, X3⟩ := box31 (show Bl _ w1 by rw [← hw]; exact (Bl.refl _).alloc _)
  clear hw
  have k00 := X0.c0
  have k01 := X0.c1
  have k10 := X1.c0
  have k11 := X1.c1
  have k20 := X2.c0
  have k21 := X2.c1
  have k30 := X3.c0
  have k31 := X3.c1
  have fr := X3.fr
  have hzz : w.heap.size + 1 + 1 + 1 < w1.heap.size := X3.lt
  have H0 := hid X0
  have H1 := hid X1
  have H2 := hid X2
  have H3 := hid X3
  have HB := hid B
  clear X0 X1 X2 X3 B k30 k31 fr
  go_wp2_with fail
  go_region_held3 (fun w' => w'.cell? ⟨w.heap.size, 0, none⟩ = some (.int .i64 a1) ∧ w'.cell? ⟨w.heap.size, 1, none⟩ = some (.int .i64 a2) ∧ w'.cell? ⟨w.heap.size + 1, 0, none⟩ = some (.int .i64 b1) ∧ w'.cell? ⟨w.heap.size + 1, 1, none⟩ = some (.int .i64 b2) ∧ w'.cell? ⟨w.heap.size + 1 + 1, 0, none⟩ = some (.int .i64 p1) ∧ w'.cell? ⟨w.heap.size + 1 + 1, 1, none⟩ = some (.int .i64 p2))
    (first | exact ⟨k00, k01, k10, k11, k20, k21⟩ | go_keep | (go_split_ands; exact ⟨(hbx.cell (p := ⟨w.heap.size, 0, none⟩) (by first | (show w.heap.size < w1.heap.size; omega) | (show w.heap.size < _; omega))).trans (by assumption), (hbx.cell (p := ⟨w.heap.size, 1, none⟩) (by first | (show w.heap.size < w1.heap.size; omega) | (show w.heap.size < _; omega))).trans (by assumption), (hbx.cell (p := ⟨w.heap.size + 1, 0, none⟩) (by first | (show w.heap.size + 1 < w1.heap.size; omega) | (show w.heap.size + 1 < _; omega))).trans (by assumption), (hbx.cell (p := ⟨w.heap.size + 1, 1, none⟩) (by first | (show w.heap.size + 1 < w1.heap.size; omega) | (show w.heap.size + 1 < _; omega))).trans (by assumption), (hbx.cell (p := ⟨w.heap.size + 1 + 1, 0, none⟩) (by first | (show w.heap.size + 1 + 1 < w1.heap.size; omega) | (show w.heap.size + 1 + 1 < _; omega))).trans (by assumption), (hbx.cell (p := ⟨w.heap.size + 1 + 1, 1, none⟩) (by first | (show w.heap.size + 1 + 1 < w1.heap.size; omega) | (show w.heap.size + 1 + 1 < _; omega))).trans (by assumption)⟩))
    (first | (go_at_call 37; (with_reducible refine (C1.out _).mono ?_); rintro e wx ⟨rfl, hbx⟩; have hzw : w.heap.size + 1 + 1 + 1 < wx.heap.size := (by have hz0 := hbx.size; first | omega | (change w1.heap.size ≤ _ at hz0; omega)); have hB1 : Bl w1 wx := Bl.trans (by first | assumption | exact (Bl.refl w1).drew) hbx) | (go_at_call 37; (with_reducible refine (C2.out _).mono ?_); rintro e wx ⟨rfl, hbx⟩; have hzw : w.heap.size + 1 + 1 + 1 < wx.heap.size := (by have hz0 := hbx.size; first | omega | (change w1.heap.size ≤ _ at hz0; omega)); have hB1 : Bl w1 wx := Bl.trans (by first | assumption | exact (Bl.refl w1).drew) hbx))
  all_goals
    have hB0 : Bl w1 wx := by assumption
    have X0 := BX.bl H0.out hB0
    have X1 := BX.bl H1.out hB0
    have X2 := BX.bl H2.out hB0
    have X3 := BY.bl H3.out hB0
    have B := Bl.trans HB.out hB0
    have k00 := X0.c0
    have k01 := X0.c1
    have k10 := X1.c0
    have k11 := X1.c1
    have k20 := X2.c0
    have k21 := X2.c1
    have k30 := X3.c0
    have k31 := X3.c1
    have fr := X3.fr
    go_wp2_with fail
    refine ((C3).out _).mono ?_
    rintro e w2 ⟨rfl, hb⟩
    clear k00 k01 k10 k11 k20 k21 k30 k31 fr
    have Y0 := BX.bl X0 hb
    have Y1 := BX.bl X1 hb
    have Y2 := BX.bl X2 hb
    have Y3 := BY.bl X3 hb
    have B2 := Bl.trans B hb
    clear X0 X1 X2 X3 B hb
    have X0 := Y0
    have X1 := Y1
    have X2 := Y2
    have X3 := Y3
    have B := B2
    clear Y0 Y1 Y2 Y3 B2
    have k00 := X0.c0
    have k01 := X0.c1
    have k10 := X1.c0
    have k11 := X1.c1
    have k20 := X2.c0
    have k21 := X2.c1
    have k30 := X3.c0
    have k31 := X3.c1
    have fr := X3.fr
    go_wp2_with fail
    refine ((G1).out _).mono ?_
    rintro e w2 ⟨rfl, hq⟩
    have hb := hq.bl
    clear k00 k01 k10 k11 k20 k21 k30 k31 fr
    have Y0 := BX.bl X0 hb
    have Y1 := BX.bl X1 hb
    have Y2 := BX.bl X2 hb
    have Y3 := BY.bl X3 hb
    have B2 := Bl.trans B hb
    clear X0 X1 X2 X3 B hb
    have X0 := Y0
    have X1 := Y1
    have X2 := Y2
    have X3 := Y3
    have B := B2
    clear Y0 Y1 Y2 Y3 B2
    clear hq
    have k00 := X0.c0
    have k01 := X0.c1
    have k10 := X1.c0
    have k11 := X1.c1
    have k20 := X2.c0
    have k21 := X2.c1
    have k30 := X3.c0
    have k31 := X3.c1
    have fr := X3.fr
    go_wp2_with fail
    refine ((G2).out _).mono ?_
    rintro e w2 ⟨rfl, hq⟩
    have hb := hq.bl
    clear k00 k01 k10 k11 k20 k21 k30 k31 fr
    have Y0 := BX.bl X0 hb
    have Y1 := BX.bl X1 hb
    have Y2 := BX.bl X2 hb
    have Y3 := BY.bl X3 hb
    have B2 := Bl.trans B hb
    clear X0 X1 X2 X3 B hb
    have X0 := Y0
    have X1 := Y1
    have X2 := Y2
    have X3 := Y3
    have B := B2
    clear Y0 Y1 Y2 Y3 B2
    clear hq
    have k00 := X0.c0
    have k01 := X0.c1
    have k10 := X1.c0
    have k11 := X1.c1
    have k20 := X2.c0
    have k21 := X2.c1
    have k30 := X3.c0
    have k31 := X3.c1
    have fr := X3.fr
    go_wp2_with fail
    go_quiet (fail)
    clear k00 k01 k10 k11 k20 k21 k30 k31 fr
    have X0 := BX.drewN X0 nq
    have X1 := BX.drewN X1 nq
    have X2 := BX.drewN X2 nq
    have X3 : BY (w2.drewN nq) (w.heap.size + 1 + 1 + 1) 0 0 := X3
    have B := Bl.drewN B nq
    have k00 := X0.c0
    have k01 := X0.c1
    have k10 := X1.c0
    have k11 := X1.c1
    have k20 := X2.c0
    have k21 := X2.c1
    have k30 := X3.c0
    have k31 := X3.c1
    have fr := X3.fr
    go_wp2_with fail
    refine ((SQ).out _).mono ?_
    rintro e w2 ⟨rfl, hq⟩
    have hb := hq.bl
    clear k00 k01 k10 k11 k20 k21 k30 k31 fr
    have Y0 := BX.bl X0 hb
    have Y1 := BX.bl X1 hb
    have Y2 := BX.bl X2 hb
    have Y3 := BY.bl X3 hb
    have B2 := Bl.trans B hb
    clear X0 X1 X2 X3 B hb
    have X0 := Y0
    have X1 := Y1
    have X2 := Y2
    have X3 := Y3
    have B := B2
    clear Y0 Y1 Y2 Y3 B2
    clear hq
    have k00 := X0.c0
    have k01 := X0.c1
    have k10 := X1.c0
    have k11 := X1.c1
    have k20 := X2.c0
    have k21 := X2.c1
    have k30 := X3.c0
    have k31 := X3.c1
    have fr := X3.fr
    go_wp2_with fail
    have Yf := BY.set ((R : Int)) (1) X3
    (try simp only [Exit.inBlock, Exit.then])
    refine bodyPost_ret (results_cell_row rfl _ _ _ _ _ _ _ rfl Yf Try.underlying32 rfl (by kernel_rfl)) rfl ?_
    exact FIN.out _ (Below.trans B (((Below.refl _ _).setCell hg3 _).setCell hg3 _))

end Go.Proofs.Ytjdkgndecnhokaa.Geom
