/- NumCompares returns true for every two fractions, valid or not: Cmp is the reference's comparison, turned round it is negated, and a fraction is equal to itself. No condition. -/
import Derived.Test.YtjnlbgmfhomepaaRows
import Derived.ProofKit
import Derived.OpenShut
import Derived.ChangeOld
import Derived.Lib.SmallJoins
import Derived.Test.YtjnlbgmfhomepaaRCmp
import Derived.Test.YtjnlbgmfhomepaaAwake
namespace Go.Proofs.Ytjnlbgmfhomepaa.NumCompares
open Go.Joins Go.ChangeShapes Go.WideShapes Go.ChangeAt Go.RowKit
open Go.Proofs.Ytjnlbgmfhomepaa.Num
set_option linter.unusedVariables false

theorem wf_okI {x : Int} (h : (Lit.int .i64 x).wf = true) : okI x := bounds_i64 h

theorem cs_turn (a b c d : Int) : cs c d a b = -cs a b c d := by
  unfold cs
  by_cases h : vd a b = true ∧ vd c d = true
  · rw [if_pos h, if_pos ⟨h.2, h.1⟩]
    unfold sn
    by_cases h1 : a * d < c * b
    · rw [if_pos h1, if_neg (by omega), if_pos h1]; rfl
    · by_cases h2 : c * b < a * d
      · rw [if_pos h2, if_neg h1, if_pos h2]
      · rw [if_neg h1, if_neg h2, if_neg h2, if_neg h1]; rfl
  · rw [if_neg h, if_neg (fun x => h ⟨x.2, x.1⟩)]; rfl
theorem cs_self (a b : Int) : cs a b a b = 0 := by
  unfold cs
  by_cases h : vd a b = true ∧ vd a b = true
  · rw [if_pos h]; exact sn_eq rfl
  · rw [if_neg h]
theorem cs_bd (a b c d : Int) : -1 ≤ cs a b c d ∧ cs a b c d ≤ 1 := by
  unfold cs
  by_cases h : vd a b = true ∧ vd c d = true
  · rw [if_pos h]; exact sn_bd _ _
  · rw [if_neg h]; omega

set_option maxRecDepth 100000 in
set_option maxHeartbeats 2000000 in
theorem walk (a b c d : Int) (ha : okI a) (hb : okI b) (hc : okI c) (hd : okI d) (w : World) :
    Calls Try.prog 9 #[.agg #[.int .i64 a, .int .i64 b], .agg #[.int .i64 c, .int .i64 d]] w fun e w' => e = .returned (.bool true) ∧ Bl w w' := by
  have c1 := hid (fun w => cmp_any a b c d w ha hb hc hd)
  have c2 := hid (fun w => rcmp_any a b c d w ha hb hc hd)
  have c3 := hid (fun w => cmp_any c d a b w hc hd ha hb)
  have c4 := hid (fun w => cmp_any a b a b w ha hb ha hb)
  rw [cs_turn] at c3
  rw [cs_self] at c4
  have hn := cs_bd a b c d
  generalize cs a b c d = n at *
  clear ha hb hc hd
  go_enter Try.func9, Try.ntmps9
  go_wp2_with fail
  refine (c1.out _).mono ?_
  rintro e w1 ⟨rfl, hb1⟩
  have tA := ((two_new w a b).alloc (.cells #[.int .i64 c, .int .i64 d] 34)).bl hb1
  have tB := (two_new (w.alloc (.cells #[.int .i64 a, .int .i64 b] 34)) c d).bl hb1
  have hall := hid (Bl.trans (Bl.alloc (Bl.alloc (Bl.refl w) (.cells #[.int .i64 a, .int .i64 b] 34)) (.cells #[.int .i64 c, .int .i64 d] 34)) hb1)
  clear hb1
  simp only [World.size_alloc] at tB
  generalize w.heap.size = k at *
  have hA1 := hid tA
  have hB1 := hid tB
  clear tA tB
  obtain ⟨_, a0, a1, _⟩ := hA1.out
  obtain ⟨_, b0, b1, _⟩ := hB1.out
  go_wp2_with fail
  refine (awake_any _).mono ?_
  rintro e w2 ⟨rfl, hb2⟩
  have hA2 := hid (hA1.out.bl hb2)
  have hB2 := hid (hB1.out.bl hb2)
  have hall2 := hid (Bl.trans hall.out hb2)
  clear hb2 a0 a1 b0 b1
  obtain ⟨_, a0, a1, _⟩ := hA2.out
  obtain ⟨_, b0, b1, _⟩ := hB2.out
  go_wp2_with fail
  refine (c2.out _).mono ?_
  rintro e w3 ⟨rfl, hb3⟩
  have hA3 := hid (hA2.out.bl hb3)
  have hB3 := hid (hB2.out.bl hb3)
  have hall3 := hid (Bl.trans hall2.out hb3)
  clear hb3 a0 a1 b0 b1
  obtain ⟨_, a0, a1, _⟩ := hA3.out
  obtain ⟨_, b0, b1, _⟩ := hB3.out
  go_wp2_with fail
  refine (c3.out _).mono ?_
  rintro e w4 ⟨rfl, hb4⟩
  have hA4 := hid (hA3.out.bl hb4)
  have hB4 := hid (hB3.out.bl hb4)
  have hall4 := hid (Bl.trans hall3.out hb4)
  clear hb4 a0 a1 b0 b1
  obtain ⟨_, a0, a1, _⟩ := hA4.out
  obtain ⟨_, b0, b1, _⟩ := hB4.out
  go_wp2_with fail
  refine (c4.out _).mono ?_
  rintro e w5 ⟨rfl, hb5⟩
  have hA5 := hid (hA4.out.bl hb5)
  have hB5 := hid (hB4.out.bl hb5)
  have hall5 := hid (Bl.trans hall4.out hb5)
  clear hb5 a0 a1 b0 b1
  obtain ⟨_, a0, a1, _⟩ := hA5.out
  obtain ⟨_, b0, b1, _⟩ := hB5.out
  go_wp2_with fail
  go_ret
  exact ⟨rfl, hall5.out⟩

theorem own : ownKnob Try.prog.godebug = none := by kernel_rfl
theorem cellsF : Try.prog.cellsOf 34 = 2 := by kernel_rfl

set_option maxRecDepth 100000 in
theorem lifted (os : Os) (started : os.Started) (H : Type) (enc : TypeId × Value → H) :
    ReturnsInHanded {} Try.checked os 9 .any (Rows.numComparesSpec.pre6 enc Try.prog Try.f9 Rows.numComparesRow.domain false) (Rows.numComparesSpec.post enc Try.prog Try.f9 false true false false) := by
  refine returnsInHanded_of_change (C := Try.checked) own started (by kernel_rfl) Try.func9
    (ChangeSpec.witness6 (enc := enc) (C := Try.checked) false ⟨#[], #[.agg #[.int .i64 0, .int .i64 0], .agg #[.int .i64 0, .int .i64 0]], []⟩ 8 (by kernel_rfl) (by kernel_rfl) (by kernel_rfl) (by kernel_rfl)) ?_
  intro W base args ds gs before hval0 hW hcnd _
  have hval : ∀ (j : Nat) t v, Try.f9.params[j]? = some t → args[j]? = some v → Value.okWide Try.prog W .any base t v := hval0
  have hW' := hW
  obtain ⟨p, q, hA0, hV, rfl, hfz, hnd⟩ := hW
  have hA : DataW.TrodAll enc Try.prog W 0 (fun _ => true) true Try.f9.params.toList args.toList ds p := hA0
  rw [Try.params9] at hA hval
  obtain ⟨v0, v1, d0, d1, p0, p1, rfl, rfl, rfl, h0, h1⟩ := trodAll_two hA
  obtain ⟨rfl, rfl⟩ := trodVars_none hV
  obtain ⟨x0, x1, y0, y1, m, rfl, rfl, rfl, hy0, hy1⟩ := open_agg2 Try.underlying34 (by kernel_rfl) cellsF (hval 0 34 v0 rfl rfl) h0
  obtain ⟨a, e0, rfl, wa⟩ := DataW.trod_int Try.underlying3 hy0
  obtain ⟨b, e1, rfl, wb⟩ := DataW.trod_int Try.underlying3 hy1
  obtain ⟨x2, x3, y2, y3, m', rfl, rfl, rfl, hy2, hy3⟩ := open_agg2 Try.underlying34 (by kernel_rfl) cellsF (hval 1 34 v1 rfl rfl) h1
  obtain ⟨c, e2, rfl, wc⟩ := DataW.trod_int Try.underlying3 hy2
  obtain ⟨d, e3, rfl, wd⟩ := DataW.trod_int Try.underlying3 hy3
  simp at e0 e1 e2 e3
  subst e0 e1 e2 e3
  clear hA0 hval0
  have reads : ∀ (W' : World) (sp : Nat → Bool) (x y : Int), (Lit.int .i64 x).wf = true → (Lit.int .i64 y).wf = true → DataW.Trod enc Try.prog W' 0 sp true 34 (.agg #[.int .i64 x, .int .i64 y]) (.agg [.lit (.int .i64 x), .lit (.int .i64 y)]) [] := fun W' sp x y hx hy =>
    shut_agg2 (y0 := (.lit (.int .i64 x), [])) (y1 := (.lit (.int .i64 y), [])) Try.underlying34 (by kernel_rfl) cellsF ⟨1, by simp [DataW.trod, Try.underlying3, hx]⟩ ⟨1, by simp [DataW.trod, Try.underlying3, hy]⟩
  refine (walk a b c d (wf_okI wa) (wf_okI wb) (wf_okI wc) (wf_okI wd) W).mono fun e W' ⟨he, hg⟩ => ?_
  subst he
  exact ⟨_, rfl, _, _, _, [], _, [], hW', trodAll_mk1 (shut_bool Try.underlying4 _), trodAll_mk2 (reads _ _ a b wa wb) (reads _ _ c d wc wd), rfl, hg.frame _, fun h => by cases h⟩

theorem holds : Rows.NumComparesSaid :=
  OpenClaim.holds_of_wide 9 Try.f9 rfl rfl rfl rfl rfl rfl rfl ⟨rfl, rfl, rfl, rfl, rfl⟩ rfl rfl rfl rfl rfl (by kernel_rfl) Try.func9 (by kernel_rfl)
    (of_decide_eq_true (by kernel_rfl)) (by unfold Func.isWrapper; first | (rw [if_pos (by decide +kernel)]; kernel_rfl) | (rw [if_neg (by decide +kernel)]; exact ⟨rfl, rfl⟩))
    (fun os started H enc _ => lifted os started H enc)
end Go.Proofs.Ytjnlbgmfhomepaa.NumCompares
