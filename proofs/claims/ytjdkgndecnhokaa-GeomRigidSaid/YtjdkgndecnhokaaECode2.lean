/- Contracts of around and near of geom as it landed. -/
import Derived.Test.YtjdkgndecnhokaaECode
namespace Go.Proofs.Ytjdkgndecnhokaa.Geom
open Go.RowKit
open Go.Proofs.Ytjdkgndecnhokaa.Wire
set_option linter.unusedVariables false

/-! a box of four ints of the call -/
def BQ (w : World) (g : Nat) (a b c d : Int) : Prop := w.heap[g]? = some (.cells #[.int .i64 a, .int .i64 b, .int .i64 c, .int .i64 d] 35 (0, 0))
theorem BQ.new {w : World} {g : Nat} {a b c d : Int} (hg : g = w.heap.size) : BQ (w.alloc (.cells #[.int .i64 a, .int .i64 b, .int .i64 c, .int .i64 d] 35)) g a b c d := by subst hg; exact heap_alloc_new w _
theorem BQ.set {w : World} {g : Nat} {a b c d : Int} (a' b' c' d' : Int) (h : BQ w g a b c d) :
    BQ ((((w.setCell ⟨g, 0, none⟩ (.int .i64 a')).setCell ⟨g, 1, none⟩ (.int .i64 b')).setCell ⟨g, 2, none⟩ (.int .i64 c')).setCell ⟨g, 3, none⟩ (.int .i64 d')) g a' b' c' d' := by
  have h' : w.heap[g]? = some (.cells #[.int .i64 a, .int .i64 b, .int .i64 c, .int .i64 d] 35 (0, 0)) := h
  show ((((w.setCell ⟨g, 0, none⟩ (.int .i64 a')).setCell ⟨g, 1, none⟩ (.int .i64 b')).setCell ⟨g, 2, none⟩ (.int .i64 c')).setCell ⟨g, 3, none⟩ (.int .i64 d')).heap[g]? = _
  rw [heap_setCell_same _ _ _ _ _ _ (heap_setCell_same _ _ _ _ _ _ (heap_setCell_same _ _ _ _ _ _ (heap_setCell_same _ _ _ _ _ _ h')))]
  rfl
def lo (x y : Int) : Int := if x ≤ y then x else y
def hi (x y : Int) : Int := if x ≤ y then y else x
theorem lo_le {x y : Int} (h : x ≤ y) : lo x y = x := if_pos h
theorem lo_gt {x y : Int} (h : ¬ x ≤ y) : lo x y = y := if_neg h
theorem hi_le {x y : Int} (h : x ≤ y) : hi x y = y := if_pos h
theorem hi_gt {x y : Int} (h : ¬ x ≤ y) : hi x y = x := if_neg h
def AroOut (w : World) (a b : P) (e : Ending) (w' : World) : Prop := e = .returned (.agg #[.int .i64 (lo a.1 b.1), .int .i64 (lo a.2 b.2), .int .i64 (hi a.1 b.1), .int .i64 (hi a.2 b.2)]) ∧ Bl w w'

set_option maxHeartbeats 2000000 in
theorem Around_in (a b : P) (w : World) :
    Calls Try.prog 36 #[.agg #[.int .i64 a.1, .int .i64 a.2], .agg #[.int .i64 b.1, .int .i64 b.2]] w (AroOut w a b) := by
  obtain ⟨a1, a2⟩ := a
  obtain ⟨b1, b2⟩ := b
  have hg2 : w.heap.size ≤ w.heap.size + 1 + 1 := by omega
  rcases Int.lt_trichotomy a1 b1 with h1 | h1 | h1 <;> rcases Int.lt_trichotomy a2 b2 with h2 | h2 | h2
  · have nh1 : ¬ b1 ≤ a1 := by omega
    have mh1 : a1 ≤ b1 := by omega
    have ch1 : lo a1 b1 = a1 := lo_le mh1
    have dh1 : hi a1 b1 = b1 := hi_le mh1
    have nh2 : ¬ b2 ≤ a2 := by omega
    have mh2 : a2 ≤ b2 := by omega
    have ch2 : lo a2 b2 = a2 := lo_le mh2
    have dh2 : hi a2 b2 = b2 := hi_le mh2
    have FIN := hid (show ∀ w', Bl w w' → AroOut w (a1, a2) (b1, b2) (.returned (.agg #[.int .i64 a1, .int .i64 a2, .int .i64 b1, .int .i64 b2])) w' by intro w' hb; unfold AroOut; simp only [ch1, dh1, ch2, dh2]; exact ⟨trivial, hb⟩)
    clear ch1 dh1 ch2 dh2
    simp only
    go_enter Try.func36, Try.ntmps36
    go_wp2_with fail
    (try simp only [Exit.inBlock, Exit.then])
    refine bodyPost_ret (results_cell_row rfl _ _ _ _ _ _ _ rfl (BQ.new (by simp)) Try.underlying35 rfl (by kernel_rfl)) rfl ?_
    exact FIN.out _ ((((Bl.refl w).alloc _).alloc _).alloc _)
  · have nh1 : ¬ b1 ≤ a1 := by omega
    have mh1 : a1 ≤ b1 := by omega
    have ch1 : lo a1 b1 = a1 := lo_le mh1
    have dh1 : hi a1 b1 = b1 := hi_le mh1
    subst h2
    have ch2 : lo a2 a2 = a2 := lo_le (Int.le_refl _)
    have dh2 : hi a2 a2 = a2 := hi_le (Int.le_refl _)
    have FIN := hid (show ∀ w', Bl w w' → AroOut w (a1, a2) (b1, a2) (.returned (.agg #[.int .i64 a1, .int .i64 a2, .int .i64 b1, .int .i64 a2])) w' by intro w' hb; unfold AroOut; simp only [ch1, dh1, ch2, dh2]; exact ⟨trivial, hb⟩)
    clear ch1 dh1 ch2 dh2
    simp only
    go_enter Try.func36, Try.ntmps36
    go_wp2_with fail
    (try simp only [Exit.inBlock, Exit.then])
    refine bodyPost_ret (results_cell_row rfl _ _ _ _ _ _ _ rfl (BQ.new (by simp)) Try.underlying35 rfl (by kernel_rfl)) rfl ?_
    exact FIN.out _ ((((Bl.refl w).alloc _).alloc _).alloc _)
  · have nh1 : ¬ b1 ≤ a1 := by omega
    have mh1 : a1 ≤ b1 := by omega
    have ch1 : lo a1 b1 = a1 := lo_le mh1
    have dh1 : hi a1 b1 = b1 := hi_le mh1
    have nh2 : ¬ a2 ≤ b2 := by omega
    have mh2 : b2 ≤ a2 := by omega
    have ch2 : lo a2 b2 = b2 := lo_gt nh2
    have dh2 : hi a2 b2 = a2 := hi_gt nh2
    have FIN := hid (show ∀ w', Bl w w' → AroOut w (a1, a2) (b1, b2) (.returned (.agg #[.int .i64 a1, .int .i64 b2, .int .i64 b1, .int .i64 a2])) w' by intro w' hb; unfold AroOut; simp only [ch1, dh1, ch2, dh2]; exact ⟨trivial, hb⟩)
    clear ch1 dh1 ch2 dh2
    simp only
    go_enter Try.func36, Try.ntmps36
    go_wp2_with fail
    (try simp only [Exit.inBlock, Exit.then])
    refine bodyPost_ret (results_cell_row rfl _ _ _ _ _ _ _ rfl (BQ.new (by simp)) Try.underlying35 rfl (by kernel_rfl)) rfl ?_
    exact FIN.out _ ((((Bl.refl w).alloc _).alloc _).alloc _)
  · subst h1
    have ch1 : lo a1 a1 = a1 := lo_le (Int.le_refl _)
    have dh1 : hi a1 a1 = a1 := hi_le (Int.le_refl _)
    have nh2 : ¬ b2 ≤ a2 := by omega
    have mh2 : a2 ≤ b2 := by omega
    have ch2 : lo a2 b2 = a2 := lo_le mh2
    have dh2 : hi a2 b2 = b2 := hi_le mh2
    have FIN := hid (show ∀ w', Bl w w' → AroOut w (a1, a2) (a1, b2) (.returned (.agg #[.int .i64 a1, .int .i64 a2, .int .i64 a1, .int .i64 b2])) w' by intro w' hb; unfold AroOut; simp only [ch1, dh1, ch2, dh2]; exact ⟨trivial, hb⟩)
    clear ch1 dh1 ch2 dh2
    simp only
    go_enter Try.func36, Try.ntmps36
    go_wp2_with fail
    (try simp only [Exit.inBlock, Exit.then])
    refine bodyPost_ret (results_cell_row rfl _ _ _ _ _ _ _ rfl (BQ.new (by simp)) Try.underlying35 rfl (by kernel_rfl)) rfl ?_
    exact FIN.out _ ((((Bl.refl w).alloc _).alloc _).alloc _)
  · subst h1
    have ch1 : lo a1 a1 = a1 := lo_le (Int.le_refl _)
    have dh1 : hi a1 a1 = a1 := hi_le (Int.le_refl _)
    subst h2
    have ch2 : lo a2 a2 = a2 := lo_le (Int.le_refl _)
    have dh2 : hi a2 a2 = a2 := hi_le (Int.le_refl _)
    have FIN := hid (show ∀ w', Bl w w' → AroOut w (a1, a2) (a1, a2) (.returned (.agg #[.int .i64 a1, .int .i64 a2, .int .i64 a1, .int .i64 a2])) w' by intro w' hb; unfold AroOut; simp only [ch1, dh1, ch2, dh2]; exact ⟨trivial, hb⟩)
    clear ch1 dh1 ch2 dh2
    simp only
    go_enter Try.func36, Try.ntmps36
    go_wp2_with fail
    (try simp only [Exit.inBlock, Exit.then])
    refine bodyPost_ret (results_cell_row rfl _ _ _ _ _ _ _ rfl (BQ.new (by simp)) Try.underlying35 rfl (by kernel_rfl)) rfl ?_
    exact FIN.out _ ((((Bl.refl w).alloc _).alloc _).alloc _)
  · subst h1
    have ch1 : lo a1 a1 = a1 := lo_le (Int.le_refl _)
    have dh1 : hi a1 a1 = a1 := hi_le (Int.le_refl _)
    have nh2 : ¬ a2 ≤ b2 := by omega
    have mh2 : b2 ≤ a2 := by omega
    have ch2 : lo a2 b2 = b2 := lo_gt nh2
    have dh2 : hi a2 b2 = a2 := hi_gt nh2
    have FIN := hid (show ∀ w', Bl w w' → AroOut w (a1, a2) (a1, b2) (.returned (.agg #[.int .i64 a1, .int .i64 b2, .int .i64 a1, .int .i64 a2])) w' by intro w' hb; unfold AroOut; simp only [ch1, dh1, ch2, dh2]; exact ⟨trivial, hb⟩)
    clear ch1 dh1 ch2 dh2
    simp only
    go_enter Try.func36, Try.ntmps36
    go_wp2_with fail
    (try simp only [Exit.inBlock, Exit.then])
    refine bodyPost_ret (results_cell_row rfl _ _ _ _ _ _ _ rfl (BQ.new (by simp)) Try.underlying35 rfl (by kernel_rfl)) rfl ?_
    exact FIN.out _ ((((Bl.refl w).alloc _).alloc _).alloc _)
  · have nh1 : ¬ a1 ≤ b1 := by omega
    have mh1 : b1 ≤ a1 := by omega
    have ch1 : lo a1 b1 = b1 := lo_gt nh1
    have dh1 : hi a1 b1 = a1 := hi_gt nh1
    have nh2 : ¬ b2 ≤ a2 := by omega
    have mh2 : a2 ≤ b2 := by omega
    have ch2 : lo a2 b2 = a2 := lo_le mh2
    have dh2 : hi a2 b2 = b2 := hi_le mh2
    have FIN := hid (show ∀ w', Bl w w' → AroOut w (a1, a2) (b1, b2) (.returned (.agg #[.int .i64 b1, .int .i64 a2, .int .i64 a1, .int .i64 b2])) w' by intro w' hb; unfold AroOut; simp only [ch1, dh1, ch2, dh2]; exact ⟨trivial, hb⟩)
    clear ch1 dh1 ch2 dh2
    simp only
    go_enter Try.func36, Try.ntmps36
    go_wp2_with fail
    (try simp only [Exit.inBlock, Exit.then])
    refine bodyPost_ret (results_cell_row rfl _ _ _ _ _ _ _ rfl (BQ.new (by simp)) Try.underlying35 rfl (by kernel_rfl)) rfl ?_
    exact FIN.out _ ((((Bl.refl w).alloc _).alloc _).alloc _)
  · have nh1 : ¬ a1 ≤ b1 := by omega
    have mh1 : b1 ≤ a1 := by omega
    have ch1 : lo a1 b1 = b1 := lo_gt nh1
    have dh1 : hi a1 b1 = a1 := hi_gt nh1
    subst h2
    have ch2 : lo a2 a2 = a2 := lo_le (Int.le_refl _)
    have dh2 : hi a2 a2 = a2 := hi_le (Int.le_refl _)
    have FIN := hid (show ∀ w', Bl w w' → AroOut w (a1, a2) (b1, a2) (.returned (.agg #[.int .i64 b1, .int .i64 a2, .int .i64 a1, .int .i64 a2])) w' by intro w' hb; unfold AroOut; simp only [ch1, dh1, ch2, dh2]; exact ⟨trivial, hb⟩)
    clear ch1 dh1 ch2 dh2
    simp only
    go_enter Try.func36, Try.ntmps36
    go_wp2_with fail
    (try simp only [Exit.inBlock, Exit.then])
    refine bodyPost_ret (results_cell_row rfl _ _ _ _ _ _ _ rfl (BQ.new (by simp)) Try.underlying35 rfl (by kernel_rfl)) rfl ?_
    exact FIN.out _ ((((Bl.refl w).alloc _).alloc _).alloc _)
  · have nh1 : ¬ a1 ≤ b1 := by omega
    have mh1 : b1 ≤ a1 := by omega
    have ch1 : lo a1 b1 = b1 := lo_gt nh1
    have dh1 : hi a1 b1 = a1 := hi_gt nh1
    have nh2 : ¬ a2 ≤ b2 := by omega
    have mh2 : b2 ≤ a2 := by omega
    have ch2 : lo a2 b2 = b2 := lo_gt nh2
    have dh2 : hi a2 b2 = a2 := hi_gt nh2
    have FIN := hid (show ∀ w', Bl w w' → AroOut w (a1, a2) (b1, b2) (.returned (.agg #[.int .i64 b1, .int .i64 b2, .int .i64 a1, .int .i64 a2])) w' by intro w' hb; unfold AroOut; simp only [ch1, dh1, ch2, dh2]; exact ⟨trivial, hb⟩)
    clear ch1 dh1 ch2 dh2
    simp only
    go_enter Try.func36, Try.ntmps36
    go_wp2_with fail
    (try simp only [Exit.inBlock, Exit.then])
    refine bodyPost_ret (results_cell_row rfl _ _ _ _ _ _ _ rfl (BQ.new (by simp)) Try.underlying35 rfl (by kernel_rfl)) rfl ?_
    exact FIN.out _ ((((Bl.refl w).alloc _).alloc _).alloc _)
end Go.Proofs.Ytjdkgndecnhokaa.Geom
