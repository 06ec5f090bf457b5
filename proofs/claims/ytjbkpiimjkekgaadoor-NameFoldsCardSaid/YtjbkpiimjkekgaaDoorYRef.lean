/- Contracts of the reference of glyph: Digit, Script, Fold, Width. -/
import Derived.Test.YtjbkpiimjkekgaaDoorGKit
import Derived.Test.YtjbkpiimjkekgaaDoorYPlain2
namespace Go.Proofs.YtjbkpiimjkekgaaDoor.Glyph
open Go.RowKit
open Go.Proofs.YtjbkpiimjkekgaaDoor.Wire
set_option linter.unusedVariables false
set_option linter.unusedSimpArgs false

set_option maxHeartbeats 400000 in
theorem RDigit_any (r : Int) (w : World) :
    Calls Tryd.prog 52 #[.int .i64 r] w fun e w' => e = .returned (.bool (dig r)) ∧ w = w' := by
  by_cases h1 : 48 ≤ r <;> by_cases h2 : r ≤ 57
  all_goals
    go_enter Tryd.func52, Tryd.ntmps52
    go_wp2
    go_ret
    exact ⟨retB (by unfold dig; simp [h1, h2]), rfl⟩

theorem dig_yes {r : Int} (h : dig r = true) : 48 ≤ r ∧ r ≤ 57 := of_decide_eq_true h
theorem dig_no {r : Int} (h : dig r = false) : ¬ (48 ≤ r ∧ r ≤ 57) := of_decide_eq_false h

set_option maxHeartbeats 4000000 in
theorem RScript_any (r : Int) (w : World) :
    Calls Tryd.prog 46 #[.int .i64 r] w fun e w' => e = .returned (.int .i64 (scr r)) ∧ w = w' := by
  have hd := RDigit_any r w
  cases hg : dig r
  all_goals
    rw [hg] at hd
    have HD := hid hd
    clear hd
    first | have hx := dig_yes hg | have hx := dig_no hg
    clear hg
    go_enter Tryd.func46, Tryd.ntmps46
    go_wp2_with fail
  all_goals first
    | (go_ret; exact ⟨ret1 (by have hc := scr_cases r; unfold Com Lat at hc; (try simp only [bne_iff_ne, ne_eq, beq_iff_eq, beq_eq_false_iff_ne, bne_eq_false_iff_eq] at *); omega), rfl⟩)
    | (refine HD.out.mono ?_
       rintro e w' ⟨rfl, rfl⟩
       go_wp2_with fail
       all_goals (go_ret; exact ⟨ret1 (by have hc := scr_cases r; unfold Com Lat at hc; (try simp only [bne_iff_ne, ne_eq, beq_iff_eq, beq_eq_false_iff_ne, bne_eq_false_iff_eq] at *); omega), rfl⟩))

set_option maxHeartbeats 4000000 in
theorem RFold_any (r : Int) (w : World) (h0 : -9223372036854775808 ≤ r) (h1 : r ≤ 9223372036854775807) :
    Calls Tryd.prog 28 #[.int .i64 r] w fun e w' => e = .returned (.int .i64 (fol r)) ∧ w = w' := by
  go_enter Tryd.func28, Tryd.ntmps28
  go_wp2_with fail
  all_goals (go_ret; exact ⟨ret1 (by have hc := fol_cases r; unfold F32 F1 at hc; (try simp only [bne_iff_ne, ne_eq, beq_iff_eq, beq_eq_false_iff_ne, bne_eq_false_iff_eq] at *); omega), rfl⟩)

set_option maxHeartbeats 1000000 in
theorem RWidth_any (r n : Int) (w : World) (h0 : -9223372036854775808 ≤ n) (h1 : n ≤ 9223372036854775807) :
    Calls Tryd.prog 38 #[.int .i64 r, .int .i64 n] w fun e w' => e = .returned (.int .i64 (wid r n)) ∧ w = w' := by
  have hs := RScript_any r w
  have hd := RDigit_any r w
  have hsd := scr_ge r
  have hw := hid (show wid r n = if n < 1 ∨ 64 < n ∨ scr r < 0 then 0 else if scr r = 5 then n else if scr r = 0 ∧ dig r = false then (n + 1) / 2 else (2 * n + 2) / 3 from rfl)
  generalize wid r n = W at hw ⊢
  generalize scr r = S at *
  generalize dig r = D at *
  have HS := hid hs
  have HD := hid hd
  clear hs hd
  by_cases c1 : n < 1
  · go_enter Tryd.func38, Tryd.ntmps38
    go_wp2_with fail
    go_ret
    exact ⟨ret1 (by rw [hw.out, if_pos (.inl c1)]), rfl⟩
  by_cases c2 : 64 < n
  · go_enter Tryd.func38, Tryd.ntmps38
    go_wp2_with fail
    go_ret
    exact ⟨ret1 (by rw [hw.out, if_pos (.inr (.inl c2))]), rfl⟩
  by_cases c3 : S < 0
  · go_enter Tryd.func38, Tryd.ntmps38
    go_wp2_with fail
    refine HS.out.mono ?_
    rintro e w' ⟨rfl, rfl⟩
    go_wp2_with fail
    go_ret
    exact ⟨ret1 (by rw [hw.out, if_pos (.inr (.inr c3))]), rfl⟩
  have hw2 := hid (show W = if S = 5 then n else if S = 0 ∧ D = false then (n + 1) / 2 else (2 * n + 2) / 3 by rw [hw.out, if_neg (by omega)])
  clear hw
  by_cases c4 : S = 5
  · subst c4
    go_enter Tryd.func38, Tryd.ntmps38
    go_wp2_with fail
    refine HS.out.mono ?_
    rintro e w' ⟨rfl, rfl⟩
    go_wp2_with fail
    refine HS.out.mono ?_
    rintro e w' ⟨rfl, rfl⟩
    go_wp2_with fail
    go_ret
    exact ⟨ret1 (by rw [hw2.out, if_pos trivial]), rfl⟩
  have c4' : (S == 5) = false := by simpa using c4
  by_cases c5 : S = 0
  · subst c5
    cases D
    all_goals
      go_enter Tryd.func38, Tryd.ntmps38
      go_wp2_with fail
      refine HS.out.mono ?_
      rintro e w' ⟨rfl, rfl⟩
      go_wp2_with fail
      refine HS.out.mono ?_
      rintro e w' ⟨rfl, rfl⟩
      go_wp2_with fail
      refine HS.out.mono ?_
      rintro e w' ⟨rfl, rfl⟩
      go_wp2_with fail
      refine HD.out.mono ?_
      rintro e w' ⟨rfl, rfl⟩
      go_wp2_with fail
      go_ret
      exact ⟨ret1 (by rw [hw2.out]; simp), rfl⟩
  · have c5' : (S == 0) = false := by simpa using c5
    go_enter Tryd.func38, Tryd.ntmps38
    go_wp2_with fail
    refine HS.out.mono ?_
    rintro e w' ⟨rfl, rfl⟩
    go_wp2_with fail
    refine HS.out.mono ?_
    rintro e w' ⟨rfl, rfl⟩
    go_wp2_with fail
    refine HS.out.mono ?_
    rintro e w' ⟨rfl, rfl⟩
    go_wp2_with fail
    go_ret
    exact ⟨ret1 (by rw [hw2.out, if_neg c4, if_neg (fun h => c5 h.1)]), rfl⟩

theorem elI : El Tryd.prog 24 3 .i64 8 := ⟨Tryd.underlying24, info_parts (by kernel_rfl)⟩
theorem drop_at {l : List Int} {k : Nat} (h : k < l.length) : l.drop k = l.getD k 0 :: l.drop (k + 1) := by
  rw [List.drop_eq_getElem_cons h]
  simp [List.getD, List.getElem?_eq_getElem h]
end Go.Proofs.YtjbkpiimjkekgaaDoor.Glyph
