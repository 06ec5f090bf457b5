/- NumFractions returns true for every two integers and every uint16: Make returns the reference's fraction, and a fraction that is multiplied by a number up to 1000 is reduced again. No condition. -/
import Derived.Test.YtjnlbgmfhomepaaRows
import Derived.ProofKit
import Derived.OpenShut
import Derived.ChangeOld
import Derived.Test.YtjnlbgmfhomepaaAwake
namespace Go.Proofs.Ytjnlbgmfhomepaa.NumFractions
open Go.ChangeShapes Go.WideShapes Go.ChangeAt Go.RowKit
open Go.Proofs.Ytjnlbgmfhomepaa.Num
set_option linter.unusedVariables false

theorem wf_okI {x : Int} (h : (Lit.int .i64 x).wf = true) : okI x := bounds_i64 h

theorem mk_valid (a b : Int) (hb : b ≠ 0) (h1 : okI (fn a b)) (h2 : okI (fd a b)) : vd (fn a b) (fd a b) = true := by
  have hg := gcd_pos a b hb
  have hd : Int.gcd a b ∣ b.natAbs := Nat.gcd_dvd_right _ _
  rw [vd_iff]
  constructor
  · unfold fd
    have h3 : Int.gcd a b ≤ b.natAbs := Nat.gcd_le_right _ (by omega)
    have : 1 ≤ (b.natAbs : Int) / (Int.gcd a b : Int) := (Int.le_ediv_iff_mul_le hg).2 (by omega)
    omega
  · have e1 : (fn a b).natAbs = a.natAbs / Int.gcd a b := by
      unfold fn sg
      cases df a b
      · show ((a.natAbs : Int) / (Int.gcd a b : Int)).natAbs = _
        rw [← Int.natCast_ediv]; rfl
      · show (-((a.natAbs : Int) / (Int.gcd a b : Int))).natAbs = _
        rw [← Int.natCast_ediv, Int.natAbs_neg]; rfl
    have e2 : (fd a b).natAbs = b.natAbs / Int.gcd a b := by
      unfold fd
      rw [← Int.natCast_ediv]; rfl
    show Nat.gcd (fn a b).natAbs (fd a b).natAbs = 1
    rw [e1, e2]
    have hp : 0 < Nat.gcd a.natAbs b.natAbs := by
      have : 0 < Int.gcd a b := by omega
      exact this
    show Nat.gcd (a.natAbs / Nat.gcd a.natAbs b.natAbs) (b.natAbs / Nat.gcd a.natAbs b.natAbs) = 1
    rw [Nat.gcd_div (Nat.gcd_dvd_left _ _) (Nat.gcd_dvd_right _ _), Nat.div_self hp]
theorem mk_cases (a b : Int) : (mkE a b ≠ 0 ∧ mkN a b = 0 ∧ mkD a b = 0) ∨ (mkE a b = 0 ∧ vd (mkN a b) (mkD a b) = true ∧ okI (mkN a b) ∧ okI (mkD a b)) := by
  by_cases hb : b = 0
  · subst hb
    exact .inl ⟨by rw [mkE, if_pos rfl]; decide, rfl, rfl⟩
  by_cases h : okI (fn a b) ∧ okI (fd a b)
  · obtain ⟨e1, e2, e3⟩ := mk_ok hb h.1 h.2
    rw [e1, e2, e3]
    exact .inr ⟨rfl, mk_valid a b hb h.1 h.2, h.1, h.2⟩
  · obtain ⟨e1, e2, e3⟩ := mk_no hb h
    rw [e1, e2, e3]
    exact .inl ⟨by decide, rfl, rfl⟩
theorem mk_again (N D m : Int) (hv : vd N D = true) (hm : 0 < m) (hN : okI N) (hD : okI D) : mkN (-m * N) (-m * D) = N ∧ mkD (-m * N) (-m * D) = D ∧ mkE (-m * N) (-m * D) = 0 := by
  obtain ⟨hD0, hg⟩ := (vd_iff N D).1 hv
  have hp := Int.mul_pos hm hD0
  have e : Int.gcd (-m * N) (-m * D) = m.natAbs := by rw [Int.gcd_mul_left, hg, Nat.mul_one, Int.natAbs_neg]
  have hne : -m * D ≠ 0 := by rw [Int.neg_mul]; omega
  have hma : (m.natAbs : Int) = m := by omega
  have e1 : fd (-m * N) (-m * D) = D := by
    unfold fd
    rw [e, Int.natAbs_mul, Int.natAbs_neg, Int.natCast_mul, hma, show (D.natAbs : Int) = D by omega]
    exact Int.mul_ediv_cancel_left D (by omega)
  have e2 : ((-m * N).natAbs : Int) / (Int.gcd (-m * N) (-m * D) : Int) = (N.natAbs : Int) := by
    rw [e, Int.natAbs_mul, Int.natAbs_neg, Int.natCast_mul, hma]
    exact Int.mul_ediv_cancel_left _ (by omega)
  have e3 : fn (-m * N) (-m * D) = N := by
    unfold fn
    rw [e2]
    by_cases h : 0 < N
    · have h1 := Int.mul_pos hm h
      have hdf : df (-m * N) (-m * D) = false := by
        unfold df
        rw [decide_eq_true (by rw [Int.neg_mul]; omega), decide_eq_true (by rw [Int.neg_mul]; omega)]; rfl
      rw [hdf]
      show (N.natAbs : Int) = N
      omega
    · have h1 : 0 ≤ m * (-N) := Int.mul_nonneg (by omega) (by omega)
      rw [Int.mul_neg] at h1
      have hdf : df (-m * N) (-m * D) = true := by
        unfold df
        rw [decide_eq_false (by rw [Int.neg_mul]; omega), decide_eq_true (by rw [Int.neg_mul]; omega)]; rfl
      rw [hdf]
      show -(N.natAbs : Int) = N
      omega
  have := mk_ok (a := -m * N) (b := -m * D) hne (by rw [e3]; exact hN) (by rw [e1]; exact hD)
  rw [e3, e1] at this
  exact this
theorem times_bd (m N : Int) (h1 : 1 ≤ m) (h2 : m ≤ 1000) (h3 : -1099511627776 ≤ N) (h4 : N ≤ 1099511627776) : -1099511627776000 ≤ -m * N ∧ -m * N ≤ 1099511627776000 := by
  have a1 : m * (1099511627776 - N) ≥ 0 := Int.mul_nonneg (by omega) (by omega)
  have a2 : m * (1099511627776 + N) ≥ 0 := Int.mul_nonneg (by omega) (by omega)
  rw [Int.mul_sub] at a1
  rw [Int.mul_add] at a2
  rw [Int.neg_mul]
  omega

set_option maxRecDepth 100000 in
set_option maxHeartbeats 2000000 in
theorem walk (a b k : Int) (ha : okI a) (hb : okI b) (k0 : 0 ≤ k) (k1 : k ≤ 65535) (w : World) :
    Calls Try.prog 8 #[.int .i64 a, .int .i64 b, .int .u16 k] w fun e w' => e = .returned (.bool true) ∧ Bl w w' := by
  have c1 := hid (fun w => make_any a b w ha hb)
  have c2 := hid (fun w => rmake_any a b w ha hb)
  have hc := mk_cases a b
  generalize mkN a b = N at *
  generalize mkD a b = D at *
  generalize mkE a b = E at *
  rcases hc with ⟨hE, rfl, rfl⟩ | ⟨rfl, hv, hN, hD⟩
  · have g1 : (E != 0) = true := by rw [bne_iff_ne]; exact hE
    clear hE
    go_enter Try.func8, Try.ntmps8
    go_wp2_with fail
    refine (c1.out _).mono ?_
    rintro e w1 ⟨rfl, hb1⟩
    have tA := two_new w1 0 0
    have hall := hid (Bl.alloc hb1 (.cells #[.int .i64 0, .int .i64 0] 34))
    clear hb1
    have hA := hid tA
    clear tA
    go_wp2_with fail
    refine (c2.out _).mono ?_
    rintro e w2 ⟨rfl, hb2⟩
    have hA2 := hid ((hA.out.bl hb2).alloc (.cells #[.int .i64 0, .int .i64 0] 34))
    have hT := hid (hA.out.bl hb2)
    have hall2 := hid (Bl.alloc (Bl.trans hall.out hb2) (.cells #[.int .i64 0, .int .i64 0] 34))
    clear hb2 hA hall
    generalize w1.heap.size = k1' at *
    obtain ⟨_, a0, a1, _⟩ := hT.out
    go_wp2_with fail
    refine (awake_any _).mono ?_
    rintro e w3 ⟨rfl, hb3⟩
    have hA3 := hid (hA2.out.bl hb3)
    have hall3 := hid (Bl.trans hall2.out hb3)
    clear hb3 a0 a1
    obtain ⟨_, a0, a1, _⟩ := hA3.out
    go_wp2_with fail
    go_ret
    exact ⟨rfl, hall3.out⟩
  · have hrv := hid (fun w => rvalid_any N D w hN hD)
    rw [hv] at hrv
    have hv' := hid hv
    clear hv
    by_cases hbig : N ≤ 1099511627776 ∧ -1099511627776 ≤ N ∧ D ≤ 1099511627776
    · obtain ⟨n1, n2, d1⟩ := hbig
      have d0 := ((vd_iff N D).1 hv'.out).1
      obtain ⟨m, hm⟩ : ∃ m : Int, m = 1 + k % 1000 := ⟨_, rfl⟩
      have m1 : 1 ≤ m := by omega
      have m2 : m ≤ 1000 := by omega
      obtain ⟨r1, r2, r3⟩ := mk_again N D m hv'.out (by omega) hN hD
      obtain ⟨t1, t2⟩ := times_bd m N m1 m2 n2 n1
      obtain ⟨t3, t4⟩ := times_bd m D m1 m2 (by omega) d1
      have c3 := hid (fun w => make_any (-m * N) (-m * D) w (by unfold okI; omega) (by unfold okI; omega))
      rw [r1, r2, r3] at c3
      have em : 1 + k % 1000 = m := hm.symm
      have x : decide (1099511627776 < N) = false := decide_eq_false (by omega)
      have y : decide (N < -1099511627776) = false := decide_eq_false (by omega)
      have z : decide (1099511627776 < D) = false := decide_eq_false (by omega)
      clear hm r1 r2 r3 hN hD
      go_enter Try.func8, Try.ntmps8
      go_wp2_with fail
      refine (c1.out _).mono ?_
      rintro e w1 ⟨rfl, hb1⟩
      have tA := two_new w1 N D
      have hall := hid (Bl.alloc hb1 (.cells #[.int .i64 N, .int .i64 D] 34))
      clear hb1
      have hA := hid tA
      clear tA
      go_wp2_with fail
      refine (c2.out _).mono ?_
      rintro e w2 ⟨rfl, hb2⟩
      have hA2 := hid ((hA.out.bl hb2).alloc (.cells #[.int .i64 N, .int .i64 D] 34))
      have hT := hid (hA.out.bl hb2)
      have hall2 := hid (Bl.alloc (Bl.trans hall.out hb2) (.cells #[.int .i64 N, .int .i64 D] 34))
      clear hb2 hA hall
      generalize w1.heap.size = k1' at *
      obtain ⟨_, a0, a1, _⟩ := hT.out
      go_wp2_with fail
      refine (c3.out _).mono ?_
      rintro e w3 ⟨rfl, hb3⟩
      have hA3 := hid ((hA2.out.bl hb3).alloc (.cells #[.int .i64 N, .int .i64 D] 34))
      have hX3 := hid (two_new w3 N D)
      have hall3 := hid (Bl.alloc (Bl.trans hall2.out hb3) (.cells #[.int .i64 N, .int .i64 D] 34))
      clear hb3 a0 a1
      go_wp2_with fail
      refine (awake_any _).mono ?_
      rintro e w4 ⟨rfl, hb4⟩
      have hA4 := hid (hA3.out.bl hb4)
      have hX4 := hid (hX3.out.bl hb4)
      have hall4 := hid (Bl.trans hall3.out hb4)
      clear hb4
      obtain ⟨_, a0, a1, _⟩ := hA4.out
      go_wp2_with fail
      refine (hrv.out _).mono ?_
      rintro e w5 ⟨rfl, hb5⟩
      have hA5 := hid (hA4.out.bl hb5)
      have hX5 := hid (hX4.out.bl hb5)
      have hall5 := hid (Bl.trans hall4.out hb5)
      clear hb5 a0 a1 hX3 hA3 hX4 hA4
      generalize w3.heap.size = kx at *
      obtain ⟨_, a0, a1, _⟩ := hA5.out
      obtain ⟨_, x0, x1, _⟩ := hX5.out
      go_wp2_with fail
      go_ret
      exact ⟨rfl, hall5.out⟩
    · have hl1 : (decide (1099511627776 < N) = true) ∨ (decide (1099511627776 < N) = false ∧ decide (N < -1099511627776) = true) ∨ (decide (1099511627776 < N) = false ∧ decide (N < -1099511627776) = false ∧ decide (1099511627776 < D) = true) := by
        by_cases x : 1099511627776 < N
        · exact .inl (decide_eq_true x)
        · by_cases y : N < -1099511627776
          · exact .inr (.inl ⟨decide_eq_false x, decide_eq_true y⟩)
          · exact .inr (.inr ⟨decide_eq_false x, decide_eq_false y, decide_eq_true (by omega)⟩)
      clear hbig hN hD
      rcases hl1 with x | ⟨x, y⟩ | ⟨x, y, z⟩
      · go_enter Try.func8, Try.ntmps8
        go_wp2_with fail
        refine (c1.out _).mono ?_
        rintro e w1 ⟨rfl, hb1⟩
        have tA := two_new w1 N D
        have hall := hid (Bl.alloc hb1 (.cells #[.int .i64 N, .int .i64 D] 34))
        clear hb1
        have hA := hid tA
        clear tA
        go_wp2_with fail
        refine (c2.out _).mono ?_
        rintro e w2 ⟨rfl, hb2⟩
        have hA2 := hid ((hA.out.bl hb2).alloc (.cells #[.int .i64 N, .int .i64 D] 34))
        have hT := hid (hA.out.bl hb2)
        have hall2 := hid (Bl.alloc (Bl.trans hall.out hb2) (.cells #[.int .i64 N, .int .i64 D] 34))
        clear hb2 hA hall
        generalize w1.heap.size = k1' at *
        obtain ⟨_, a0, a1, _⟩ := hT.out
        go_wp2_with fail
        refine (awake_any _).mono ?_
        rintro e w3 ⟨rfl, hb3⟩
        have hA3 := hid (hA2.out.bl hb3)
        have hall3 := hid (Bl.trans hall2.out hb3)
        clear hb3 a0 a1
        obtain ⟨_, a0, a1, _⟩ := hA3.out
        go_wp2_with fail
        refine (hrv.out _).mono ?_
        rintro e w4 ⟨rfl, hb4⟩
        have hall4 := hid (Bl.trans hall3.out hb4)
        clear hb4 a0 a1
        go_wp2_with fail
        go_ret
        exact ⟨rfl, hall4.out⟩
      · go_enter Try.func8, Try.ntmps8
        go_wp2_with fail
        refine (c1.out _).mono ?_
        rintro e w1 ⟨rfl, hb1⟩
        have tA := two_new w1 N D
        have hall := hid (Bl.alloc hb1 (.cells #[.int .i64 N, .int .i64 D] 34))
        clear hb1
        have hA := hid tA
        clear tA
        go_wp2_with fail
        refine (c2.out _).mono ?_
        rintro e w2 ⟨rfl, hb2⟩
        have hA2 := hid ((hA.out.bl hb2).alloc (.cells #[.int .i64 N, .int .i64 D] 34))
        have hT := hid (hA.out.bl hb2)
        have hall2 := hid (Bl.alloc (Bl.trans hall.out hb2) (.cells #[.int .i64 N, .int .i64 D] 34))
        clear hb2 hA hall
        generalize w1.heap.size = k1' at *
        obtain ⟨_, a0, a1, _⟩ := hT.out
        go_wp2_with fail
        refine (awake_any _).mono ?_
        rintro e w3 ⟨rfl, hb3⟩
        have hA3 := hid (hA2.out.bl hb3)
        have hall3 := hid (Bl.trans hall2.out hb3)
        clear hb3 a0 a1
        obtain ⟨_, a0, a1, _⟩ := hA3.out
        go_wp2_with fail
        refine (hrv.out _).mono ?_
        rintro e w4 ⟨rfl, hb4⟩
        have hall4 := hid (Bl.trans hall3.out hb4)
        clear hb4 a0 a1
        go_wp2_with fail
        go_ret
        exact ⟨rfl, hall4.out⟩
      · go_enter Try.func8, Try.ntmps8
        go_wp2_with fail
        refine (c1.out _).mono ?_
        rintro e w1 ⟨rfl, hb1⟩
        have tA := two_new w1 N D
        have hall := hid (Bl.alloc hb1 (.cells #[.int .i64 N, .int .i64 D] 34))
        clear hb1
        have hA := hid tA
        clear tA
        go_wp2_with fail
        refine (c2.out _).mono ?_
        rintro e w2 ⟨rfl, hb2⟩
        have hA2 := hid ((hA.out.bl hb2).alloc (.cells #[.int .i64 N, .int .i64 D] 34))
        have hT := hid (hA.out.bl hb2)
        have hall2 := hid (Bl.alloc (Bl.trans hall.out hb2) (.cells #[.int .i64 N, .int .i64 D] 34))
        clear hb2 hA hall
        generalize w1.heap.size = k1' at *
        obtain ⟨_, a0, a1, _⟩ := hT.out
        go_wp2_with fail
        refine (awake_any _).mono ?_
        rintro e w3 ⟨rfl, hb3⟩
        have hA3 := hid (hA2.out.bl hb3)
        have hall3 := hid (Bl.trans hall2.out hb3)
        clear hb3 a0 a1
        obtain ⟨_, a0, a1, _⟩ := hA3.out
        go_wp2_with fail
        refine (hrv.out _).mono ?_
        rintro e w4 ⟨rfl, hb4⟩
        have hall4 := hid (Bl.trans hall3.out hb4)
        clear hb4 a0 a1
        go_wp2_with fail
        go_ret
        exact ⟨rfl, hall4.out⟩

theorem own : ownKnob Try.prog.godebug = none := by kernel_rfl

set_option maxRecDepth 100000 in
theorem lifted (os : Os) (started : os.Started) (H : Type) (enc : TypeId × Value → H) :
    ReturnsInHanded {} Try.checked os 8 .any (Rows.numFractionsSpec.pre6 enc Try.prog Try.f8 Rows.numFractionsRow.domain false) (Rows.numFractionsSpec.post enc Try.prog Try.f8 false true false false) := by
  refine returnsInHanded_of_change (C := Try.checked) own started (by kernel_rfl) Try.func8
    (ChangeSpec.witness6 (enc := enc) (C := Try.checked) false ⟨#[], #[.int .i64 0, .int .i64 0, .int .u16 0], []⟩ 8 (by kernel_rfl) (by kernel_rfl) (by kernel_rfl) (by kernel_rfl)) ?_
  intro W base args ds gs before hval0 hW hcnd _
  have hval : ∀ (j : Nat) t v, Try.f8.params[j]? = some t → args[j]? = some v → Value.okWide Try.prog W .any base t v := hval0
  have hW' := hW
  obtain ⟨p, q, hA0, hV, rfl, hfz, hnd⟩ := hW
  have hA : DataW.TrodAll enc Try.prog W 0 (fun _ => true) true Try.f8.params.toList args.toList ds p := hA0
  rw [Try.params8] at hA hval
  obtain ⟨v0, v1, v2, d0, d1, d2, p0, p1, p2, rfl, rfl, rfl, h0, h1, h2⟩ := trodAll_three hA
  obtain ⟨rfl, rfl⟩ := trodVars_none hV
  obtain ⟨a0, rfl, rfl, rfl, w0⟩ := open_int Try.underlying3 (hval 0 3 v0 rfl rfl) h0
  obtain ⟨a1, rfl, rfl, rfl, w1⟩ := open_int Try.underlying3 (hval 1 3 v1 rfl rfl) h1
  obtain ⟨a2, rfl, rfl, rfl, w2⟩ := open_int Try.underlying32 (hval 2 32 v2 rfl rfl) h2
  have hk := bounds_u16 w2
  clear hA0 hval0
  refine (walk a0 a1 a2 (wf_okI w0) (wf_okI w1) hk.1 hk.2 W).mono fun e W' ⟨he, hg⟩ => ?_
  subst he
  exact ⟨_, rfl, _, _, _, [], _, [], hW', trodAll_mk1 (shut_bool Try.underlying4 _), (trodAll_cons_mk (shut_int Try.underlying3 w0) (trodAll_cons_mk (shut_int Try.underlying3 w1) (trodAll_cons_mk (shut_int Try.underlying32 w2) trodAll_mk0))), rfl, hg.frame _, fun h => by cases h⟩

theorem holds : Rows.NumFractionsSaid :=
  OpenClaim.holds_of_wide 8 Try.f8 rfl rfl rfl rfl rfl rfl rfl ⟨rfl, rfl, rfl, rfl, rfl⟩ rfl rfl rfl rfl rfl (by kernel_rfl) Try.func8 (by kernel_rfl)
    (of_decide_eq_true (by kernel_rfl)) (by unfold Func.isWrapper; first | (rw [if_pos (by decide +kernel)]; kernel_rfl) | (rw [if_neg (by decide +kernel)]; exact ⟨rfl, rfl⟩))
    (fun os started H enc _ => lifted os started H enc)
end Go.Proofs.Ytjnlbgmfhomepaa.NumFractions
