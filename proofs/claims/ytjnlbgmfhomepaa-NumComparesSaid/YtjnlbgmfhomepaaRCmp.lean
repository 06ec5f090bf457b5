/- The contract of the reference's Cmp: continued fractions. -/
import Derived.Test.YtjnlbgmfhomepaaCmp2
import Derived.Test.YtjnlbgmfhomepaaRefs
namespace Go.Proofs.Ytjnlbgmfhomepaa.Num
open Go.RowKit
set_option linter.unusedVariables false

theorem sn_sub {x y x' y' : Int} (h : x - y = x' - y') : sn x y = sn x' y' := by
  unfold sn
  by_cases h1 : x < y
  · rw [if_pos h1, if_pos (by omega)]
  · by_cases h2 : y < x
    · rw [if_neg h1, if_pos h2, if_neg (by omega), if_pos (by omega)]
    · rw [if_neg h1, if_neg h2, if_neg (by omega), if_neg (by omega)]
/-- the integer parts decide -/
theorem rc_parts (A B C D p q r s : Int) (hB : 0 < B) (hD : 0 < D) (hr : A = B * p + r) (hs : C = D * q + s) (r0 : 0 ≤ r) (r1 : r < B) (s0 : 0 ≤ s) (s1 : s < D) (h : p ≠ q) : sn p q = sn (A * D) (C * B) := by
  have e1 : A * D = B * D * p + r * D := by rw [hr, Int.add_mul, Int.mul_right_comm]
  have e2 : C * B = B * D * q + s * B := by rw [hs, Int.add_mul, Int.mul_right_comm, Int.mul_comm D B]
  have f1 : 0 ≤ r * D := Int.mul_nonneg r0 (Int.le_of_lt hD)
  have f2 : 0 ≤ s * B := Int.mul_nonneg s0 (Int.le_of_lt hB)
  have f3 : r * D < B * D := Int.mul_lt_mul_of_pos_right r1 hD
  have f4 : s * B < B * D := by rw [Int.mul_comm B D]; exact Int.mul_lt_mul_of_pos_right s1 hB
  have hp : 0 < B * D := Int.mul_pos hB hD
  by_cases g : p < q
  · have : B * D * (p + 1) ≤ B * D * q := Int.mul_le_mul_of_nonneg_left (by omega) (by omega)
    rw [Int.mul_add, Int.mul_one] at this
    rw [sn_lt g, sn_lt (by omega)]
  · have : B * D * (q + 1) ≤ B * D * p := Int.mul_le_mul_of_nonneg_left (by omega) (by omega)
    rw [Int.mul_add, Int.mul_one] at this
    rw [sn_gt (by omega), sn_gt (by omega)]
/-- the rests decide, if the integer parts are equal -/
theorem rc_rests (A B C D p r s : Int) (hr : A = B * p + r) (hs : C = D * p + s) : sn (A * D) (C * B) = sn (r * D) (s * B) := by
  apply sn_sub
  have e1 : A * D = B * D * p + r * D := by rw [hr, Int.add_mul, Int.mul_right_comm]
  have e2 : C * B = B * D * p + s * B := by rw [hs, Int.add_mul, Int.mul_right_comm, Int.mul_comm D B]
  omega
theorem rc_zero (r s B D : Int) (hB : 0 < B) (hD : 0 < D) (r0 : 0 ≤ r) (s0 : 0 ≤ s) (h : r = 0 ∨ s = 0) : sn r s = sn (r * D) (s * B) := by
  rcases h with h | h
  · subst h
    rw [Int.zero_mul]
    by_cases g : s = 0
    · subst g; rw [Int.zero_mul]
    · have := Int.mul_pos (show 0 < s by omega) hB
      rw [sn_lt (by omega), sn_lt (by omega)]
  · subst h
    rw [Int.zero_mul]
    by_cases g : r = 0
    · subst g; rw [Int.zero_mul]
    · have := Int.mul_pos (show 0 < r by omega) hD
      rw [sn_gt (by omega), sn_gt (by omega)]
theorem rc_turn (r s B D : Int) : sn (D * r) (B * s) = sn (r * D) (s * B) := by rw [Int.mul_comm D, Int.mul_comm B]

/-- integer part and rest of a fraction -/
theorem fl_pos (A B : Int) (hB : 0 < B) (ha : okI A) : okI (fl A B) ∧ A = B * fl A B + (A - fl A B * B) ∧ 0 ≤ A - fl A B * B ∧ A - fl A B * B < B := by
  obtain ⟨r, h1, h2, _⟩ := fl_rest A B (by omega)
  have := h2 hB
  have hm := Int.mul_comm B (fl A B)
  exact ⟨fl_ok A B ha (by omega) (by omega), by omega, by omega, by omega⟩

/-- what holds at the head of the loop -/
def RC (w : World) (k : Nat) (t : Int) (wr : World) : Prop := ∃ A B C D : Int, Two wr k A B ∧ Two wr (k + 1) C D ∧ 0 < B ∧ 0 < D ∧ okI A ∧ okI B ∧ okI C ∧ okI D ∧ sn (A * D) (C * B) = t ∧ Bl w wr ∧ w.heap.size ≤ k
def rcSize (wr : World) (k : Nat) : Nat := (intOf ((wr.cell? ⟨k, 1, none⟩).getD undef)).toNat + (intOf ((wr.cell? ⟨k + 1, 1, none⟩).getD undef)).toNat

theorem rc_store {wr : World} {k : Nat} {A B C D : Int} (n : Nat) (h1 : Two wr k A B) (h2 : Two wr (k + 1) C D) (r s : Int) :
    Two (((((wr.drewN n).setCell ⟨k, 0, none⟩ (.int .i64 D)).setCell ⟨k, 1, none⟩ (.int .i64 s)).setCell ⟨k + 1, 0, none⟩ (.int .i64 B)).setCell ⟨k + 1, 1, none⟩ (.int .i64 r)) k D s ∧
    Two (((((wr.drewN n).setCell ⟨k, 0, none⟩ (.int .i64 D)).setCell ⟨k, 1, none⟩ (.int .i64 s)).setCell ⟨k + 1, 0, none⟩ (.int .i64 B)).setCell ⟨k + 1, 1, none⟩ (.int .i64 r)) (k + 1) B r ∧
    (∀ w : World, Bl w wr → w.heap.size ≤ k → Bl w (((((wr.drewN n).setCell ⟨k, 0, none⟩ (.int .i64 D)).setCell ⟨k, 1, none⟩ (.int .i64 s)).setCell ⟨k + 1, 0, none⟩ (.int .i64 B)).setCell ⟨k + 1, 1, none⟩ (.int .i64 r))) ∧
    (0 ≤ r → r < B → 0 ≤ s → s < D → rcSize (((((wr.drewN n).setCell ⟨k, 0, none⟩ (.int .i64 D)).setCell ⟨k, 1, none⟩ (.int .i64 s)).setCell ⟨k + 1, 0, none⟩ (.int .i64 B)).setCell ⟨k + 1, 1, none⟩ (.int .i64 r)) k < rcSize wr k) := by
  obtain ⟨z0, a0, a1, f0, f1⟩ := h1
  obtain ⟨z1, b0, b1, g0, g1⟩ := h2
  have e1 : Two (((((wr.drewN n).setCell ⟨k, 0, none⟩ (.int .i64 D)).setCell ⟨k, 1, none⟩ (.int .i64 s)).setCell ⟨k + 1, 0, none⟩ (.int .i64 B)).setCell ⟨k + 1, 1, none⟩ (.int .i64 r)) k D s := by
    refine ⟨by simpa using z0, ?_, ?_, ?_, ?_⟩ <;> simp [go_sem, a0, a1, f0, f1]
  have e2 : Two (((((wr.drewN n).setCell ⟨k, 0, none⟩ (.int .i64 D)).setCell ⟨k, 1, none⟩ (.int .i64 s)).setCell ⟨k + 1, 0, none⟩ (.int .i64 B)).setCell ⟨k + 1, 1, none⟩ (.int .i64 r)) (k + 1) B r := by
    refine ⟨by simpa using z1, ?_, ?_, ?_, ?_⟩ <;> simp [go_sem, b0, b1, g0, g1]
  refine ⟨e1, e2, fun w h hk => ?_, fun h3 h4 h5 h6 => ?_⟩
  · exact ((((h.drewN n).setCell (p := ⟨k, 0, none⟩) hk _).setCell (p := ⟨k, 1, none⟩) hk _).setCell (p := ⟨k + 1, 0, none⟩) (Nat.le_succ_of_le hk) _).setCell (p := ⟨k + 1, 1, none⟩) (Nat.le_succ_of_le hk) _
  · obtain ⟨_, _, x1, _⟩ := e1
    obtain ⟨_, _, x2, _⟩ := e2
    unfold rcSize
    rw [x1, x2, a1, b1]
    simp [intOf]
    omega

set_option maxRecDepth 100000 in
set_option maxHeartbeats 2000000 in
theorem rcmp_any (a b c d : Int) (w : World) (ha : okI a) (hb : okI b) (hc : okI c) (hd : okI d) :
    Calls Try.prog 27 #[.agg #[.int .i64 a, .int .i64 b], .agg #[.int .i64 c, .int .i64 d]] w fun e w' => e = .returned (.int .i64 (cs a b c d)) ∧ Bl w w' := by
  have c1 := hid (fun w => rvalid_any a b w ha hb)
  have c2 := hid (fun w => rvalid_any c d w hc hd)
  cases h1 : vd a b
  · rw [h1] at c1
    have hv := hid (show cs a b c d = 0 by unfold cs; rw [if_neg (by rw [h1]; simp)])
    go_enter Try.func27, Try.ntmps27
    go_wp2_with fail
    refine (c1.out _).mono ?_
    rintro e w1 ⟨rfl, hb1⟩
    have hz := hb1.size
    go_wp2_with fail
    go_ret
    exact ⟨ret1 hv.out.symm, Bl.trans (Bl.alloc (Bl.alloc (Bl.refl _) _) _) hb1⟩
  rw [h1] at c1
  cases h2 : vd c d
  · rw [h2] at c2
    have hv := hid (show cs a b c d = 0 by unfold cs; rw [if_neg (by rw [h2]; simp)])
    clear h1 h2
    go_enter Try.func27, Try.ntmps27
    go_wp2_with fail
    refine (c1.out _).mono ?_
    rintro e w1 ⟨rfl, hb1⟩
    have tA := ((two_new w a b).alloc (.cells #[.int .i64 c, .int .i64 d] 34)).bl hb1
    have tB := (two_new (w.alloc (.cells #[.int .i64 a, .int .i64 b] 34)) c d).bl hb1
    have hall := hid (Bl.trans (Bl.alloc (Bl.alloc (Bl.refl w) (.cells #[.int .i64 a, .int .i64 b] 34)) (.cells #[.int .i64 c, .int .i64 d] 34)) hb1)
    clear hb1
    simp only [World.size_alloc] at tB
    generalize w.heap.size = k at *
    obtain ⟨_, a0, a1, _⟩ := tA
    obtain ⟨_, b0, b1, _⟩ := tB
    go_wp2_with fail
    refine (c2.out _).mono ?_
    rintro e w2 ⟨rfl, hb2⟩
    have hall2 := hid (Bl.trans hall.out hb2)
    clear hb2 a0 a1 b0 b1
    go_wp2_with fail
    go_ret
    exact ⟨ret1 hv.out.symm, hall2.out⟩
  rw [h2] at c2
  have hbp := ((vd_iff a b).1 h1).1
  have hdp := ((vd_iff c d).1 h2).1
  have hv := hid (show cs a b c d = sn (a * d) (c * b) by unfold cs; rw [if_pos ⟨h1, h2⟩])
  clear h1 h2
  go_enter Try.func27, Try.ntmps27
  go_wp2_with fail
  refine (c1.out _).mono ?_
  rintro e w1 ⟨rfl, hb1⟩
  have tA := ((two_new w a b).alloc (.cells #[.int .i64 c, .int .i64 d] 34)).bl hb1
  have tB := (two_new (w.alloc (.cells #[.int .i64 a, .int .i64 b] 34)) c d).bl hb1
  have hall := hid (Bl.trans (Bl.alloc (Bl.alloc (Bl.refl w) (.cells #[.int .i64 a, .int .i64 b] 34)) (.cells #[.int .i64 c, .int .i64 d] 34)) hb1)
  clear hb1
  simp only [World.size_alloc] at tB
  obtain ⟨k, hk⟩ : ∃ k, k = w.heap.size := ⟨_, rfl⟩
  rw [← hk] at tA tB ⊢
  have hkl := hid (Nat.le_of_eq hk.symm)
  clear hk
  have hA := hid tA
  have hB := hid tB
  obtain ⟨_, a0, a1, _⟩ := tA
  obtain ⟨_, b0, b1, _⟩ := tB
  go_wp2_with fail
  refine (c2.out _).mono ?_
  rintro e w2 ⟨rfl, hb2⟩
  have hrc := hid (show RC w k (cs a b c d) w2 from ⟨a, b, c, d, hA.out.bl hb2, hB.out.bl hb2, hbp, hdp, ha, hb, hc, hd, hv.out.symm, Bl.trans hall.out hb2, hkl.out⟩)
  clear a0 a1 b0 b1 hb2
  go_wp2_with fail
  go_loopw [5, 6] (fun _ _ wr => RC w k (cs a b c d) wr) (fun _ _ wr => rcSize wr k)
  case atStart => exact hrc.out
  case round =>
    obtain ⟨A, B, C, D, tA, tB, B0, D0, oA, oB, oC, oD, hs, hw, hk⟩ := hrel
    have hA' := hid tA
    have hB' := hid tB
    have hs' := hid hs
    have hw' := hid hw
    have hk' := hid hk
    clear hs hw hk
    obtain ⟨z0, a0, a1, fa0, fa1⟩ := tA
    obtain ⟨z1, b0, b1, fb0, fb1⟩ := tB
    obtain ⟨op, ep, r0, r1⟩ := fl_pos A B B0 oA
    obtain ⟨oq, eq, s0, s1⟩ := fl_pos C D D0 oC
    have cA := hid (fun w => rfloor_any A B w oA oB)
    have cB := hid (fun w => rfloor_any C D w oC oD)
    rw [qv_ok (by omega) op, qe_ok (by omega) op] at cA
    rw [qv_ok (by omega) oq, qe_ok (by omega) oq] at cB
    generalize fl A B = p at *
    generalize fl C D = q at *
    obtain ⟨r, hr⟩ : ∃ r, r = A - p * B := ⟨_, rfl⟩
    obtain ⟨s, hs⟩ : ∃ s, s = C - q * D := ⟨_, rfl⟩
    rw [← hr] at ep r0 r1
    rw [← hs] at eq s0 s1
    have e1 : wrap64 (A - wrap64 (p * B)) = r := by
      unfold okI at oA oB; unfold wrap64; omega
    have e2 : wrap64 (C - wrap64 (q * D)) = s := by
      unfold okI at oC oD; unfold wrap64; omega
    have k1 := hid (rc_parts A B C D p q r s B0 D0 ep eq r0 r1 s0 s1)
    have k2 := hid (fun h : p = q => rc_rests A B C D p r s ep (by rw [h]; exact eq))
    have k3 := hid (rc_zero r s B D B0 D0 r0 s0)
    clear ep eq hr hs hrc hA hB hall c1 c2 hkl
    by_cases hpq : p = q
    · have g1 : (p != q) = false := by rw [bne_eq_false_iff_eq]; exact hpq
      have hp := hid ((k2.out hpq).symm)
      clear hpq k1 k2
      by_cases hr : r = 0
      · have hf := hid ((k3.out (.inl hr)).trans hp.out)
        have g2 : (r == 0) = true := by rw [beq_iff_eq]; exact hr
        clear hr k3
        go_wp2_with fail
        refine (cA.out _).mono ?_
        rintro e w' ⟨rfl, n, rfl⟩
        go_wp2_with fail
        refine (cB.out _).mono ?_
        rintro e w' ⟨rfl, m, rfl⟩
        go_wp2_with fail
        go_quiet (fail)
        go_wp2_with fail
        refine (sign_any _ _ _).mono ?_
        rintro e w' ⟨rfl, rfl⟩
        go_wp2_with fail
        go_ret
        exact ⟨ret1 (by rw [hf.out, hs'.out]), hw'.out.drewN _⟩
      have g2 : (r == 0) = false := by rw [beq_eq_false_iff_ne]; exact hr
      by_cases hs0 : s = 0
      · have hf := hid ((k3.out (.inr hs0)).trans hp.out)
        have g3 : (s == 0) = true := by rw [beq_iff_eq]; exact hs0
        clear hr hs0 k3
        go_wp2_with fail
        refine (cA.out _).mono ?_
        rintro e w' ⟨rfl, n, rfl⟩
        go_wp2_with fail
        refine (cB.out _).mono ?_
        rintro e w' ⟨rfl, m, rfl⟩
        go_wp2_with fail
        go_quiet (fail)
        go_wp2_with fail
        refine (sign_any _ _ _).mono ?_
        rintro e w' ⟨rfl, rfl⟩
        go_wp2_with fail
        go_ret
        exact ⟨ret1 (by rw [hf.out, hs'.out]), hw'.out.drewN _⟩
      have g3 : (s == 0) = false := by rw [beq_eq_false_iff_ne]; exact hs0
      have r2 : 0 < r := by omega
      have s2 : 0 < s := by omega
      have hf := hid ((rc_turn r s B D).trans (hp.out.trans hs'.out))
      clear hr hs0 k3
      go_wp2_with fail
      refine (cA.out _).mono ?_
      rintro e w' ⟨rfl, n, rfl⟩
      go_wp2_with fail
      refine (cB.out _).mono ?_
      rintro e w' ⟨rfl, m, rfl⟩
      go_wp2_with fail
      go_quiet (fail)
      go_wp2_with fail
      obtain ⟨n1, n2, n3, n4⟩ := rc_store (n + m + nq) hA'.out hB'.out r s
      exact ⟨⟨D, s, B, r, n1, n2, s2, r2, oD, by unfold okI at oD ⊢; omega, oB, by unfold okI at oB ⊢; omega, hf.out, n3 w hw'.out hk'.out, hk'.out⟩, n4 (by omega) (by omega) (by omega) (by omega)⟩
    · have g1 : (p != q) = true := by rw [bne_iff_ne]; exact hpq
      have hf := hid (k1.out hpq)
      clear hpq k1 k2 k3
      go_wp2_with fail
      refine (cA.out _).mono ?_
      rintro e w' ⟨rfl, n, rfl⟩
      go_wp2_with fail
      refine (cB.out _).mono ?_
      rintro e w' ⟨rfl, m, rfl⟩
      go_wp2_with fail
      go_quiet (fail)
      go_wp2_with fail
      refine (sign_any _ _ _).mono ?_
      rintro e w' ⟨rfl, rfl⟩
      go_wp2_with fail
      go_ret
      exact ⟨ret1 (by rw [hf.out, hs'.out]), hw'.out.drewN _⟩
end Go.Proofs.Ytjnlbgmfhomepaa.Num
