/- The contract of Cmp of layer 1 (num). -/
import Derived.Test.YtjnlbgmfhomepaaCmp
namespace Go.Proofs.Ytjnlbgmfhomepaa.Num
open Go.RowKit
set_option linter.unusedVariables false

/-- what Cmp returns -/
def cs (a b c d : Int) : Int := if vd a b = true ∧ vd c d = true then sn (a * d) (c * b) else 0

/-- a block of two integers -/
def Two (w : World) (k : Nat) (a b : Int) : Prop := k < w.heap.size ∧ w.cell? ⟨k, 0, none⟩ = some (.int .i64 a) ∧ w.cell? ⟨k, 1, none⟩ = some (.int .i64 b) ∧ w.frozen? ⟨k, 0, none⟩ = false ∧ w.frozen? ⟨k, 1, none⟩ = false
theorem two_new (w : World) (a b : Int) : Two (w.alloc (.cells #[.int .i64 a, .int .i64 b] 34)) w.heap.size a b := by
  refine ⟨by simp, ?_, ?_, ?_, ?_⟩ <;> simp
theorem Two.bl {w w1 : World} {k : Nat} {a b : Int} (h : Two w k a b) (hb : Bl w w1) : Two w1 k a b := by
  obtain ⟨h0, h1, h2, h3, h4⟩ := h
  exact ⟨Nat.lt_of_lt_of_le h0 hb.size, (Below.cell hb (p := ⟨k, 0, none⟩) h0).trans h1, (Below.cell hb (p := ⟨k, 1, none⟩) h0).trans h2, (Below.frozen hb (p := ⟨k, 0, none⟩) h0).trans h3, (Below.frozen hb (p := ⟨k, 1, none⟩) h0).trans h4⟩
theorem Two.alloc {w : World} {k : Nat} {a b : Int} (h : Two w k a b) (o : Obj) : Two (w.alloc o) k a b := h.bl (Bl.alloc (Bl.refl _) o)

theorem sn_neg (x y : Int) : sn (-x) (-y) = -sn x y := by
  unfold sn
  by_cases h : x < y
  · rw [if_pos h, if_neg (by omega), if_pos (by omega)]; rfl
  · by_cases g : y < x
    · rw [if_neg h, if_pos g, if_pos (by omega)]
    · rw [if_neg h, if_neg g, if_neg (by omega), if_neg (by omega)]; rfl
/-- of different signs: the numerators decide -/
theorem cs_signs (a b c d : Int) (hb : 0 < b) (hd : 0 < d) (h : ¬ (a < 0 ↔ c < 0)) : sn a c = sn (a * d) (c * b) := by
  by_cases h1 : a < 0
  · have h2 : 0 ≤ c := by omega
    have g1 := Int.mul_neg_of_neg_of_pos h1 hd
    have g2 := Int.mul_nonneg h2 (Int.le_of_lt hb)
    rw [sn_lt (by omega), sn_lt (by omega)]
  · have h2 : c < 0 := by omega
    have g1 := Int.mul_nonneg (show 0 ≤ a by omega) (Int.le_of_lt hd)
    have g2 := Int.mul_neg_of_neg_of_pos h2 hb
    rw [sn_gt (by omega), sn_gt (by omega)]
theorem cs_pos (a b c d : Int) (hb : 0 < b) (hd : 0 < d) (ha : 0 ≤ a) (hc : 0 ≤ c) : sn ((a.natAbs : Int) * (d.natAbs : Int)) ((c.natAbs : Int) * (b.natAbs : Int)) = sn (a * d) (c * b) := by
  rw [show (a.natAbs : Int) = a by omega, show (b.natAbs : Int) = b by omega, show (c.natAbs : Int) = c by omega, show (d.natAbs : Int) = d by omega]
theorem cs_neg (a b c d : Int) (hb : 0 < b) (hd : 0 < d) (ha : a < 0) (hc : c < 0) : -sn ((a.natAbs : Int) * (d.natAbs : Int)) ((c.natAbs : Int) * (b.natAbs : Int)) = sn (a * d) (c * b) := by
  rw [show (a.natAbs : Int) = -a by omega, show (b.natAbs : Int) = b by omega, show (c.natAbs : Int) = -c by omega, show (d.natAbs : Int) = d by omega, Int.neg_mul, Int.neg_mul, sn_neg]
  unfold sn
  by_cases h : a * d < c * b
  · rw [if_pos h]; rfl
  · by_cases g : c * b < a * d
    · rw [if_neg h, if_pos g]; rfl
    · rw [if_neg h, if_neg g]; rfl
theorem sn_bd (x y : Int) : -1 ≤ sn x y ∧ sn x y ≤ 1 := by
  unfold sn
  by_cases h : x < y
  · rw [if_pos h]; omega
  · by_cases g : y < x
    · rw [if_neg h, if_pos g]; omega
    · rw [if_neg h, if_neg g]; omega

set_option maxRecDepth 100000 in
set_option maxHeartbeats 2000000 in
theorem cmp_any (a b c d : Int) (w : World) (ha : okI a) (hb : okI b) (hc : okI c) (hd : okI d) :
    Calls Try.prog 26 #[.agg #[.int .i64 a, .int .i64 b], .agg #[.int .i64 c, .int .i64 d]] w fun e w' => e = .returned (.int .i64 (cs a b c d)) ∧ Bl w w' := by
  have c1 := hid (fun w => valid_any a b w ha hb)
  have c2 := hid (fun w => valid_any c d w hc hd)
  cases h1 : vd a b
  · rw [h1] at c1
    have hv := hid (show cs a b c d = 0 by unfold cs; rw [if_neg (by rw [h1]; simp)])
    go_enter Try.func26, Try.ntmps26
    go_wp2_with fail
    refine (c1.out _).mono ?_
    rintro e w1 ⟨rfl, hb1⟩
    have hz := hb1.size
    go_wp2_with fail
    go_ret
    exact ⟨ret1 hv.out.symm, Bl.trans (Bl.alloc (Bl.alloc (Bl.refl _) _) _) hb1⟩
  rw [h1] at c1
  cases h2 : vd c d
  · rw [h2] at c2
    have hv := hid (show cs a b c d = 0 by unfold cs; rw [if_neg (by rw [h2]; simp)])
    clear h1 h2
    go_enter Try.func26, Try.ntmps26
    go_wp2_with fail
    refine (c1.out _).mono ?_
    rintro e w1 ⟨rfl, hb1⟩
    have tA := ((two_new w a b).alloc (.cells #[.int .i64 c, .int .i64 d] 34)).bl hb1
    have tB := (two_new (w.alloc (.cells #[.int .i64 a, .int .i64 b] 34)) c d).bl hb1
    have hall := hid (Bl.trans (Bl.alloc (Bl.alloc (Bl.refl w) (.cells #[.int .i64 a, .int .i64 b] 34)) (.cells #[.int .i64 c, .int .i64 d] 34)) hb1)
    clear hb1
    simp only [World.size_alloc] at tB
    generalize w.heap.size = k at *
    obtain ⟨_, a0, a1, _⟩ := tA
    obtain ⟨_, b0, b1, _⟩ := tB
    go_wp2_with fail
    refine (c2.out _).mono ?_
    rintro e w2 ⟨rfl, hb2⟩
    have hall2 := hid (Bl.trans hall.out hb2)
    clear hb2 a0 a1 b0 b1
    go_wp2_with fail
    go_ret
    exact ⟨ret1 hv.out.symm, hall2.out⟩
  rw [h2] at c2
  have hbp := ((vd_iff a b).1 h1).1
  have hdp := ((vd_iff c d).1 h2).1
  have hv := hid (show cs a b c d = sn (a * d) (c * b) by unfold cs; rw [if_pos ⟨h1, h2⟩])
  clear h1 h2
  go_enter Try.func26, Try.ntmps26
  go_wp2_with fail
  refine (c1.out _).mono ?_
  rintro e w1 ⟨rfl, hb1⟩
  have tA := ((two_new w a b).alloc (.cells #[.int .i64 c, .int .i64 d] 34)).bl hb1
  have tB := (two_new (w.alloc (.cells #[.int .i64 a, .int .i64 b] 34)) c d).bl hb1
  have hall := hid (Bl.trans (Bl.alloc (Bl.alloc (Bl.refl w) (.cells #[.int .i64 a, .int .i64 b] 34)) (.cells #[.int .i64 c, .int .i64 d] 34)) hb1)
  clear hb1
  simp only [World.size_alloc] at tB
  generalize w.heap.size = k at *
  have hA := hid tA
  have hB := hid tB
  obtain ⟨_, a0, a1, _⟩ := tA
  obtain ⟨_, b0, b1, _⟩ := tB
  go_wp2_with fail
  refine (c2.out _).mono ?_
  rintro e w2 ⟨rfl, hb2⟩
  have hall2 := hid (Bl.trans hall.out hb2)
  clear a0 a1 b0 b1
  obtain ⟨_, a0, a1, _⟩ := hA.out.bl hb2
  obtain ⟨_, b0, b1, _⟩ := hB.out.bl hb2
  clear hb2
  by_cases hs : a < 0 ↔ c < 0
  · have g1 : (!(decide (a < 0) == decide (c < 0))) = false := by rw [Bool.not_eq_false', beq_iff_eq, decide_eq_decide]; exact hs
    unfold okI at ha hb hc hd
    by_cases hn : a < 0
    · have hf := hid (cs_neg a b c d hbp hdp hn (hs.1 hn))
      have hcn : c < 0 := hs.1 hn
      have hbd := sn_bd ((a.natAbs : Int) * (d.natAbs : Int)) ((c.natAbs : Int) * (b.natAbs : Int))
      clear hs
      go_wp2_with fail
      go_quiet ((first | (go_at_call 29; exact quiet_same ⟨_, rfl⟩ (magnitude_any _ _ (by omega) (by omega))) | (go_at_call 41; exact quiet_q ⟨_, rfl⟩ (products_any _ _ _ _ _ (by omega) (by omega) (by omega) (by omega) (by omega) (by omega) (by omega) (by omega)))))
      go_wp2_with fail
      go_ret
      exact ⟨ret1 (by rw [hv.out, ← hf.out]), hall2.out.drewN _⟩
    · have hcn : ¬ c < 0 := fun h => hn (hs.2 h)
      have hf := hid (cs_pos a b c d hbp hdp (by omega) (by omega))
      clear hs
      go_wp2_with fail
      go_quiet ((first | (go_at_call 29; exact quiet_same ⟨_, rfl⟩ (magnitude_any _ _ (by omega) (by omega))) | (go_at_call 41; exact quiet_q ⟨_, rfl⟩ (products_any _ _ _ _ _ (by omega) (by omega) (by omega) (by omega) (by omega) (by omega) (by omega) (by omega)))))
      go_wp2_with fail
      go_ret
      exact ⟨ret1 (by rw [hv.out, ← hf.out]), hall2.out.drewN _⟩
  · have g1 : (!(decide (a < 0) == decide (c < 0))) = true := by rw [Bool.not_eq_true', beq_eq_false_iff_ne, ne_eq, decide_eq_decide]; exact hs
    have hf := hid (cs_signs a b c d hbp hdp hs)
    clear hs
    go_wp2_with fail
    refine (compare_i64 _ _ _).mono ?_
    rintro e w' ⟨rfl, n, rfl⟩
    go_wp2_with fail
    go_ret
    exact ⟨ret1 (by rw [hv.out, ← hf.out]), hall2.out.drewN _⟩
end Go.Proofs.Ytjnlbgmfhomepaa.Num
