/- Contract of the reference of geom: Meet, of any points. -/
import Derived.Test.YtjdkgndecnhokaaEMeet
namespace Go.Proofs.Ytjdkgndecnhokaa.Geom
open Go.RowKit
open Go.Proofs.Ytjdkgndecnhokaa.Wire
set_option linter.unusedVariables false

theorem crs_bound {a b c d : P} (ha : Nr a) (hb : Nr b) (hc : Nr c) (hd : Nr d) : -35184372088832 ≤ crs a b c d ∧ crs a b c d ≤ 35184372088832 := by
  unfold Nr at *
  have p1 := prod_bound (u := b.1 - a.1) (v := d.2 - c.2) (by omega) (by omega) (by omega) (by omega)
  have p2 := prod_bound (u := b.2 - a.2) (v := d.1 - c.1) (by omega) (by omega) (by omega) (by omega)
  unfold crs
  omega
theorem mt_go {a b c d : P} (hn : Nrs [a, b, c, d]) (hg : ¬ (a = b ∧ c = d ∧ a ≠ c)) : mt a b c d = if crs a b c d = 0 then (if crs a b a c = 0 ∧ crs a b a d = 0 ∧ crs c d c a = 0 ∧ crs c d c b = 0 then shr (K a) (K b) (K c) (K d) else 0)
    else if in01 (crs a b c d) (crs a c c d) ∧ in01 (crs a b c d) (crs a c a b) then 1 else 0 := by rw [mt_near hn, if_neg hg]
set_option maxHeartbeats 4000000 in
theorem RMeet_any (a b c d : P) (w : World) :
    Calls Try.prog 18 #[.agg #[.int .i64 a.1, .int .i64 a.2], .agg #[.int .i64 b.1, .int .i64 b.2], .agg #[.int .i64 c.1, .int .i64 c.2], .agg #[.int .i64 d.1, .int .i64 d.2]] w fun e w' => e = .returned (.int .i64 (mt a b c d)) ∧ Bl w w' := by
  have n1 := fun w' T g hg => RNear4 a b c d w' T g hg
  by_cases hn : Nrs [a, b, c, d]
  · rw [decide_eq_true hn] at n1
    obtain ⟨ha, hb, hc, hd⟩ := nrs4.1 hn
    by_cases hdeg : a = b ∧ c = d ∧ a ≠ c
    · have fin := hid (show mt a b c d = 0 by rw [mt_near hn, if_pos hdeg])
      obtain ⟨e1, e2, hac⟩ := hdeg
      subst e1 e2
      have N1 := hid n1
      clear n1 hn ha hb hc hd
      generalize mt a a c c = X at *
      obtain ⟨a1, a2⟩ := a
      obtain ⟨c1, c2⟩ := c
      simp only at N1
      have qac := neq_yes hac
      clear hac
      go_enter Try.func18, Try.ntmps18
      go_wp2_with fail
      refine (N1.out _ _ _ (by simp)).mono ?_
      rintro e w1 ⟨rfl, rfl⟩
      go_wp2_with fail
      go_ret
      exact ⟨ret1 fin.out.symm, (((((Bl.refl w).alloc _).alloc _).alloc _).alloc _).alloc _⟩
    · have MT := hid (mt_go hn hdeg)
      have C0 := hid (fun w' => RCross_any a b c d w' ha hb hc hd)
      have C1 := hid (fun w' => RCross_any a b a c w' ha hb ha hc)
      have C2 := hid (fun w' => RCross_any a b a d w' ha hb ha hd)
      have C3 := hid (fun w' => RCross_any c d c a w' hc hd hc ha)
      have C4 := hid (fun w' => RCross_any c d c b w' hc hd hc hb)
      have CS := hid (fun w' => RShared_any a b c d w' ha hb hc hd)
      have N1 := hid n1
      by_cases hab : a = b
      · subst hab
        by_cases hcd : c = d
        · subst hcd
          have hac : a = c := Classical.byContradiction fun h => hdeg ⟨rfl, rfl, h⟩
          subst hac
          exact meet3z w _ _ _ _ _ _ 0 0 _ a.1 a.2 N1 C0 C1 C2 C3 C4 CS (by have := MT.out; rw [if_pos (crs_aa _ _ _)] at this; exact hid (by rw [if_pos (crs_aa _ _ _)]; exact this)) (crs_aa _ _ _)
        · have q := eql_no (x1 := c.1) (x2 := c.2) (y1 := d.1) (y2 := d.2) hcd
          exact meet2z w _ _ _ _ _ _ 0 0 _ a.1 a.2 c.1 c.2 d.1 d.2 q N1 C0 C1 C2 C3 C4 CS (by have := MT.out; rw [if_pos (crs_aa _ _ _)] at this; exact hid (by rw [if_pos (crs_aa _ _ _)]; exact this)) (crs_aa _ _ _)
      · have q := eql_no (x1 := a.1) (x2 := a.2) (y1 := b.1) (y2 := b.2) hab
        by_cases hz : crs a b c d = 0
        · exact meet1z w _ _ _ _ _ _ (crs a c c d) (crs a c a b) _ a.1 a.2 b.1 b.2 c.1 c.2 d.1 d.2 q N1 C0 C1 C2 C3 C4 CS MT hz
        · have b0 := crs_bound ha hb hc hd
          have b1 := crs_bound ha hc hc hd
          have b2 := crs_bound ha hc ha hb
          exact meet1x w _ _ _ _ _ _ (crs a c c d) (crs a c a b) _ a.1 a.2 b.1 b.2 c.1 c.2 d.1 d.2 q N1 C0 C1 C2 C3 C4 CS MT hz b0.1 b0.2 b1.1 b1.2 b2.1 b2.2 (hid (fun w' => RCross_any a c c d w' ha hc hc hd)) (hid (fun w' => RCross_any a c a b w' ha hc ha hb))
  · have fin := hid (mt_far hn)
    rw [decide_eq_false hn] at n1
    have N1 := hid n1
    clear n1 hn
    generalize mt a b c d = X at *
    obtain ⟨a1, a2⟩ := a
    obtain ⟨b1, b2⟩ := b
    obtain ⟨c1, c2⟩ := c
    obtain ⟨d1, d2⟩ := d
    simp only at N1
    go_enter Try.func18, Try.ntmps18
    go_wp2_with fail
    refine (N1.out _ _ _ (by simp)).mono ?_
    rintro e w1 ⟨rfl, rfl⟩
    go_wp2_with fail
    go_ret
    exact ⟨ret1 fin.out.symm, (((((Bl.refl w).alloc _).alloc _).alloc _).alloc _).alloc _⟩
end Go.Proofs.Ytjdkgndecnhokaa.Geom
