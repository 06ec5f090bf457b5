/- The tables of glyph: scripts and lower-case forms, as package-level variables hold them. -/
import Derived.Test.YtjbkpiimjkekgaaDoorGKit
import Derived.Test.YtjbkpiimjkekgaaDoorYPlain
import Derived.Laws.Rows
namespace Go.Proofs.YtjbkpiimjkekgaaDoor.Glyph
open Go.RowKit
open Go.Proofs.YtjbkpiimjkekgaaDoor.Wire
set_option linter.unusedVariables false

/-- the rows of the scripts: first, last, script -/
def scR : List (Int × Int × Int) := [(32, 32, 0), (39, 41, 0), (45, 46, 0), (48, 57, 0), (65, 90, 1), (97, 122, 1), (192, 214, 1), (216, 246, 1), (248, 591, 1), (880, 1023, 2), (1024, 1279, 3), (1488, 1514, 4), (19968, 40959, 5)]
def scC : Array Value := #[.int .i32 32, .int .i32 32, .int .i64 0, .int .i32 39, .int .i32 41, .int .i64 0, .int .i32 45, .int .i32 46, .int .i64 0, .int .i32 48, .int .i32 57, .int .i64 0, .int .i32 65, .int .i32 90, .int .i64 1, .int .i32 97, .int .i32 122, .int .i64 1,
  .int .i32 192, .int .i32 214, .int .i64 1, .int .i32 216, .int .i32 246, .int .i64 1, .int .i32 248, .int .i32 591, .int .i64 1, .int .i32 880, .int .i32 1023, .int .i64 2, .int .i32 1024, .int .i32 1279, .int .i64 3, .int .i32 1488, .int .i32 1514, .int .i64 4, .int .i32 19968, .int .i32 40959, .int .i64 5]
/-- from the first row that fits -/
def look : List (Int × Int × Int) → Int → Int
  | [], _ => -1
  | (a, b, s) :: t, r => if a ≤ r ∧ r ≤ b then s else look t r
set_option maxRecDepth 4000 in
theorem look_scr (r : Int) : look scR r = scr r := by
  have h := scr_cases r
  unfold Com Lat at h
  unfold scR
  simp only [look]
  repeat' split
  all_goals omega
theorem scR_at : ∀ k, k < 13 → -2147483648 ≤ (scR.getD k (0, 0, 0)).1 ∧ (scR.getD k (0, 0, 0)).1 ≤ 2147483647 ∧ -2147483648 ≤ (scR.getD k (0, 0, 0)).2.1 ∧ (scR.getD k (0, 0, 0)).2.1 ≤ 2147483647 := by decide
theorem look_step : ∀ k, k < 13 → ∀ r, look (scR.drop k) r = if (scR.getD k (0, 0, 0)).1 ≤ r ∧ r ≤ (scR.getD k (0, 0, 0)).2.1 then (scR.getD k (0, 0, 0)).2.2 else look (scR.drop (k + 1)) r := by
  intro k hk r
  rcases (show k = 0 ∨ k = 1 ∨ k = 2 ∨ k = 3 ∨ k = 4 ∨ k = 5 ∨ k = 6 ∨ k = 7 ∨ k = 8 ∨ k = 9 ∨ k = 10 ∨ k = 11 ∨ k = 12 by omega) with h | h | h | h | h | h | h | h | h | h | h | h | h <;> subst h <;> rfl
abbrev scCell (p : Int × Int × Int) : Array Value := #[.int .i32 p.1, .int .i32 p.2.1, .int .i64 p.2.2]
theorem scI : ∀ k, k < 13 → ∀ w, (Instr.index 56 (.agg scC) (.int .i64 (k : Nat))).run Tryd.prog w = .ok (.agg (scCell (scR.getD k (0, 0, 0)))) w := by
  intro k hk w
  rcases (show k = 0 ∨ k = 1 ∨ k = 2 ∨ k = 3 ∨ k = 4 ∨ k = 5 ∨ k = 6 ∨ k = 7 ∨ k = 8 ∨ k = 9 ∨ k = 10 ∨ k = 11 ∨ k = 12 by omega) with h | h | h | h | h | h | h | h | h | h | h | h | h <;> subst h <;> kernel_rfl

/-- the rows of the lower-case forms: first, last, step, by -/
def foR : List (Int × Int × Int × Int) := [(65, 90, 1, 32), (192, 214, 1, 32), (216, 222, 1, 32), (913, 937, 1, 32), (1040, 1071, 1, 32), (1024, 1039, 1, 80), (256, 310, 2, 1), (330, 374, 2, 1), (313, 327, 2, 1), (377, 381, 2, 1), (376, 376, 1, -121)]
def foC : Array Value := #[.int .i32 65, .int .i32 90, .int .i32 1, .int .i32 32, .int .i32 192, .int .i32 214, .int .i32 1, .int .i32 32, .int .i32 216, .int .i32 222, .int .i32 1, .int .i32 32, .int .i32 913, .int .i32 937, .int .i32 1, .int .i32 32, .int .i32 1040, .int .i32 1071, .int .i32 1, .int .i32 32,
  .int .i32 1024, .int .i32 1039, .int .i32 1, .int .i32 80, .int .i32 256, .int .i32 310, .int .i32 2, .int .i32 1, .int .i32 330, .int .i32 374, .int .i32 2, .int .i32 1, .int .i32 313, .int .i32 327, .int .i32 2, .int .i32 1, .int .i32 377, .int .i32 381, .int .i32 2, .int .i32 1, .int .i32 376, .int .i32 376, .int .i32 1, .int .i32 (-121)]
def lookF : List (Int × Int × Int × Int) → Int → Int
  | [], r => r
  | (a, b, s, d) :: t, r => if a ≤ r ∧ r ≤ b ∧ (r - a) % s = 0 then r + d else lookF t r
theorem look_fol_small : ∀ n, n < 1200 → lookF foR ((n : Nat) : Int) = fol ((n : Nat) : Int) := by decide +kernel
theorem look_fol (r : Int) : lookF foR r = fol r := by
  by_cases h : 0 ≤ r ∧ r < 1200
  · have := look_fol_small r.toNat (by omega)
    rwa [Int.toNat_of_nonneg h.1] at this
  · rw [fol_id (by unfold F32; omega) (by omega) (by unfold F1; omega) (by omega)]
    unfold foR
    simp only [lookF]
    rw [if_neg (by omega), if_neg (by omega), if_neg (by omega), if_neg (by omega), if_neg (by omega), if_neg (by omega), if_neg (by omega), if_neg (by omega), if_neg (by omega), if_neg (by omega), if_neg (by omega)]
theorem foR_at : ∀ k, k < 11 → 1 ≤ (foR.getD k (0, 0, 0, 0)).1 ∧ (foR.getD k (0, 0, 0, 0)).1 ≤ 1100 ∧ 1 ≤ (foR.getD k (0, 0, 0, 0)).2.1 ∧ (foR.getD k (0, 0, 0, 0)).2.1 ≤ 1100 ∧ ((foR.getD k (0, 0, 0, 0)).2.2.1 = 1 ∨ (foR.getD k (0, 0, 0, 0)).2.2.1 = 2) ∧ -121 ≤ (foR.getD k (0, 0, 0, 0)).2.2.2 ∧ (foR.getD k (0, 0, 0, 0)).2.2.2 ≤ 80 := by decide
theorem lookF_step : ∀ k, k < 11 → ∀ r, lookF (foR.drop k) r = if (foR.getD k (0, 0, 0, 0)).1 ≤ r ∧ r ≤ (foR.getD k (0, 0, 0, 0)).2.1 ∧ (r - (foR.getD k (0, 0, 0, 0)).1) % (foR.getD k (0, 0, 0, 0)).2.2.1 = 0 then r + (foR.getD k (0, 0, 0, 0)).2.2.2 else lookF (foR.drop (k + 1)) r := by
  intro k hk r
  rcases (show k = 0 ∨ k = 1 ∨ k = 2 ∨ k = 3 ∨ k = 4 ∨ k = 5 ∨ k = 6 ∨ k = 7 ∨ k = 8 ∨ k = 9 ∨ k = 10 by omega) with h | h | h | h | h | h | h | h | h | h | h <;> subst h <;> rfl
abbrev foCell (p : Int × Int × Int × Int) : Array Value := #[.int .i32 p.1, .int .i32 p.2.1, .int .i32 p.2.2.1, .int .i32 p.2.2.2]
theorem foI : ∀ k, k < 11 → ∀ w, (Instr.index 50 (.agg foC) (.int .i64 (k : Nat))).run Tryd.prog w = .ok (.agg (foCell (foR.getD k (0, 0, 0, 0)))) w := by
  intro k hk w
  rcases (show k = 0 ∨ k = 1 ∨ k = 2 ∨ k = 3 ∨ k = 4 ∨ k = 5 ∨ k = 6 ∨ k = 7 ∨ k = 8 ∨ k = 9 ∨ k = 10 by omega) with h | h | h | h | h | h | h | h | h | h | h <;> subst h <;> kernel_rfl

/-- the variables hold the tables -/
structure Tab (w : World) : Prop where
  sc : ∃ t fr, w.heap[1]? = some (.cells scC t fr)
  fo : ∃ t fr, w.heap[0]? = some (.cells foC t fr)
theorem Tab.bl {w w' : World} (h : Tab w) (hb : Bl w w') : Tab w' := by
  obtain ⟨⟨t, fr, h1⟩, ⟨u, fs, h2⟩⟩ := h
  exact ⟨⟨t, fr, (hb.block _ (Array.getElem?_eq_some_iff.1 h1).1).trans h1⟩, ⟨u, fs, (hb.block _ (Array.getElem?_eq_some_iff.1 h2).1).trans h2⟩⟩
theorem Tab.q {w w' : World} (h : Tab w) (hq : Q w w') : Tab w' := h.bl hq.bl
theorem Tab.al {w : World} (h : Tab w) (o : Obj) : Tab (w.alloc o) := h.bl ((Bl.refl w).alloc o)

theorem character_in (r : Int) (w : World) (h0 : -2147483648 ≤ r) (h1 : r ≤ 2147483647) :
    Calls Tryd.prog 40 #[.int .i64 r] w fun e w' => e = .returned (.tuple #[.int .i32 r, .bool true]) ∧ w = w' := by
  have e1 : wrap32 r = r := by unfold wrap32; omega
  have t : (r == r) = true := beq_self_eq_true r
  go_enter Tryd.func40, Tryd.ntmps40
  go_wp2_with fail
  go_ret2
  exact ⟨rfl, rfl⟩
theorem character_out (r : Int) (w : World) (h0 : -9223372036854775808 ≤ r) (h1 : r ≤ 9223372036854775807) (h : ¬ (-2147483648 ≤ r ∧ r ≤ 2147483647)) :
    Calls Tryd.prog 40 #[.int .i64 r] w fun e w' => e = .returned (.tuple #[.int .i32 (wrap32 r), .bool false]) ∧ w = w' := by
  have e1 : wrap64 (wrap32 r) = wrap32 r := by unfold wrap64 wrap32; omega
  have t : (wrap32 r == r) = false := beq_eq_false_iff_ne.2 (by unfold wrap32; omega)
  go_enter Tryd.func40, Tryd.ntmps40
  go_wp2_with fail
  go_ret2
  exact ⟨rfl, rfl⟩
theorem digit_any (r : Int) (w : World) (h0 : -9223372036854775808 ≤ r) (h1 : r ≤ 9223372036854775807) :
    Calls Tryd.prog 51 #[.int .i64 r] w fun e w' => e = .returned (.bool (dig r)) ∧ w = w' := by
  by_cases h : -2147483648 ≤ r ∧ r ≤ 2147483647
  · have c := character_in r w h.1 h.2
    go_enter Tryd.func51, Tryd.ntmps51
    go_wp2_with fail
    refine c.mono ?_
    rintro e w' ⟨rfl, rfl⟩
    by_cases h2 : 48 ≤ r
    · have t : decide ((48 : Int) ≤ r) = true := decide_eq_true h2
      have hd : dig r = decide (r ≤ 57) := by unfold dig; simp [h2]
      go_wp2_with fail
      go_ret
      exact ⟨retB hd.symm, rfl⟩
    · have t : decide ((48 : Int) ≤ r) = false := decide_eq_false h2
      have hd : dig r = false := by unfold dig; simp [h2]
      go_wp2_with fail
      go_ret
      exact ⟨retB hd.symm, rfl⟩
  · have c := character_out r w h0 h1 h
    have hd : dig r = false := by unfold dig; exact decide_eq_false (by omega)
    go_enter Tryd.func51, Tryd.ntmps51
    go_wp2_with fail
    refine c.mono ?_
    rintro e w' ⟨rfl, rfl⟩
    go_wp2_with fail
    go_ret
    exact ⟨retB hd.symm, rfl⟩

set_option maxHeartbeats 1000000 in
theorem scriptOf_any (r : Int) (w : World) (h0 : -2147483648 ≤ r) (h1 : r ≤ 2147483647) (hT : Tab w) :
    Calls Tryd.prog 39 #[.int .i32 r] w fun e w' => e = .returned (.int .i64 (scr r)) ∧ Bl w w' := by
  obtain ⟨⟨tt, fr, hg⟩, _⟩ := hT
  go_enter Tryd.func39, Tryd.ntmps39
  go_wp2_with (refine wpList_load_row rfl 56 _ rfl 1 rfl tt _ fr _ hg Tryd.underlying56 rfl (by kernel_rfl) ?_)
  have hI := hid scI
  generalize scC = SC at *
  clear hg
  go_loopw [6] (fun i wr => ∃ k : Nat, i = .int .i64 k ∧ k ≤ 13 ∧ Hid (look (scR.drop k) r = scr r) ∧ Bl w wr) (fun i _ => 13 - (intOf i).toNat)
  case atStart => exact ⟨0, rfl, by omega, hid (look_scr r), Bl.refl _⟩
  case round =>
    obtain ⟨k, rfl, hk, hR, hb⟩ := hrel
    by_cases hlt : k < 13
    · have hi := hI.out k hlt
      have hs := hR.out
      rw [look_step k hlt r] at hs
      have hbd := scR_at k hlt
      unfold scCell at hi
      generalize scR.getD k (0, 0, 0) = row at *
      obtain ⟨a, b, s⟩ := row
      simp only at hi hs hbd
      obtain ⟨b1, b2, b3, b4⟩ := hbd
      have HS := hid hs
      clear hs
      go_wp2_with fail
      · go_ret
        have hs := HS.out
        rw [if_pos ⟨by assumption, by assumption⟩] at hs
        exact ⟨ret1 hs, hb.alloc _⟩
      all_goals
        go_round
        case rel => exact ⟨k + 1, by go_num, by omega, hid (by rw [← HS.out, if_neg (by omega)]), hb.alloc _⟩
        case measure => simp [intOf]; omega
    · obtain rfl : k = 13 := by omega
      have hR := hR.out
      go_wp2_with fail
      go_ret
      exact ⟨ret1 hR, hb⟩

theorem scr_small {r : Int} (h : ¬ (-2147483648 ≤ r ∧ r ≤ 2147483647)) : scr r = -1 := by have := @scr_range r; have := scr_ge r; omega
set_option maxHeartbeats 400000 in
theorem Script_any (r : Int) (w : World) (h0 : -9223372036854775808 ≤ r) (h1 : r ≤ 9223372036854775807) (hT : Tab w) :
    Calls Tryd.prog 50 #[.int .i64 r] w fun e w' => e = .returned (.int .i64 (scr r)) ∧ Bl w w' := by
  by_cases h : -2147483648 ≤ r ∧ r ≤ 2147483647
  · have c := character_in r w h.1 h.2
    have c2 := scriptOf_any r w h.1 h.2 hT
    generalize scr r = X at *
    go_enter Tryd.func50, Tryd.ntmps50
    go_wp2_with fail
    refine c.mono ?_
    rintro e w' ⟨rfl, rfl⟩
    go_wp2_with fail
    refine c2.mono ?_
    rintro e w' ⟨rfl, hb⟩
    go_wp2_with fail
    go_ret
    exact ⟨rfl, hb⟩
  · have c := character_out r w h0 h1 h
    rw [scr_small h]
    go_enter Tryd.func50, Tryd.ntmps50
    go_wp2_with fail
    refine c.mono ?_
    rintro e w' ⟨rfl, rfl⟩
    go_wp2_with fail
    go_ret
    exact ⟨rfl, Bl.refl _⟩
set_option maxHeartbeats 800000 in
theorem Width_any (r n : Int) (w : World) (h0 : -9223372036854775808 ≤ r) (h1 : r ≤ 9223372036854775807) (g0 : -9223372036854775808 ≤ n) (g1 : n ≤ 9223372036854775807) (hT : Tab w) :
    Calls Tryd.prog 37 #[.int .i64 r, .int .i64 n] w fun e w' => e = .returned (.int .i64 (wid r n)) ∧ Bl w w' := by
  have c := hid (Script_any r w h0 h1 hT)
  have d := hid (fun w' => digit_any r w' h0 h1)
  have hw : Hid (wid r n = if n < 1 ∨ 64 < n ∨ scr r < 0 then 0 else if scr r = 5 then n else if scr r = 0 ∧ dig r = false then (n + 1) / 2 else (2 * n + 2) / 3) := hid rfl
  have hge := scr_ge r
  generalize scr r = X at *
  generalize wid r n = Y at *
  by_cases hn : n < 1 ∨ 64 < n
  · have hw := hid (hw.out.trans (if_pos (by omega)))
    clear c d
    rcases hn with hn | hn
    · go_enter Tryd.func37, Tryd.ntmps37
      go_wp2_with fail
      go_ret
      exact ⟨ret1 hw.out.symm, Bl.refl _⟩
    · have t : decide (n < 1) = false := decide_eq_false (by omega)
      go_enter Tryd.func37, Tryd.ntmps37
      go_wp2_with fail
      go_ret
      exact ⟨ret1 hw.out.symm, Bl.refl _⟩
  · have t1 : decide (n < 1) = false := decide_eq_false (by omega)
    have t2 : decide (64 < n) = false := decide_eq_false (by omega)
    have n0 : 1 ≤ n := by omega
    have n1 : n ≤ 64 := by omega
    by_cases hX : X < 0
    · have hw := hid (hw.out.trans (if_pos (by omega)))
      go_enter Tryd.func37, Tryd.ntmps37
      go_wp2_with fail
      refine c.out.mono ?_
      rintro e w' ⟨rfl, hb⟩
      go_wp2_with fail
      go_ret
      exact ⟨ret1 hw.out.symm, hb⟩
    · have hw := hid (hw.out.trans (if_neg (by omega)))
      by_cases h5 : X = 5
      · have hw := hid (hw.out.trans (if_pos h5))
        subst h5
        go_enter Tryd.func37, Tryd.ntmps37
        go_wp2_with fail
        refine c.out.mono ?_
        rintro e w' ⟨rfl, hb⟩
        go_wp2_with fail
        go_ret
        exact ⟨ret1 hw.out.symm, hb⟩
      · have hw := hid (hw.out.trans (if_neg h5))
        have e5 : (X == 5) = false := beq_eq_false_iff_ne.2 h5
        by_cases hz : X = 0
        · subst hz
          cases hd : dig r
          · rw [hd] at d hw
            have hw := hid (hw.out.trans (if_pos ⟨rfl, rfl⟩))
            have q : (n + 1).tdiv 2 = (n + 1) / 2 := Int.tdiv_eq_ediv_of_nonneg (by omega)
            clear hd
            go_enter Tryd.func37, Tryd.ntmps37
            go_wp2_with fail
            refine c.out.mono ?_
            rintro e w' ⟨rfl, hb⟩
            go_wp2_with fail
            refine (d.out _).mono ?_
            rintro e w2 ⟨rfl, rfl⟩
            go_wp2_with fail
            go_ret
            exact ⟨ret1 hw.out.symm, hb⟩
          · rw [hd] at d hw
            have hw := hid (hw.out.trans (if_neg (by simp)))
            have q : (2 * n + 2).tdiv 3 = (2 * n + 2) / 3 := Int.tdiv_eq_ediv_of_nonneg (by omega)
            clear hd
            go_enter Tryd.func37, Tryd.ntmps37
            go_wp2_with fail
            refine c.out.mono ?_
            rintro e w' ⟨rfl, hb⟩
            go_wp2_with fail
            refine (d.out _).mono ?_
            rintro e w2 ⟨rfl, rfl⟩
            go_wp2_with fail
            go_ret
            exact ⟨ret1 hw.out.symm, hb⟩
        · have e0 : (X == 0) = false := beq_eq_false_iff_ne.2 hz
          have hw := hid (hw.out.trans (if_neg (fun h => hz h.1)))
          have q : (2 * n + 2).tdiv 3 = (2 * n + 2) / 3 := Int.tdiv_eq_ediv_of_nonneg (by omega)
          clear d
          go_enter Tryd.func37, Tryd.ntmps37
          go_wp2_with fail
          refine c.out.mono ?_
          rintro e w' ⟨rfl, hb⟩
          go_wp2_with fail
          go_ret
          exact ⟨ret1 hw.out.symm, hb⟩

set_option maxHeartbeats 1000000 in
theorem Fold_any (r : Int) (w : World) (h0 : -9223372036854775808 ≤ r) (h1 : r ≤ 9223372036854775807) (hT : Tab w) :
    Calls Tryd.prog 24 #[.int .i64 r] w fun e w' => e = .returned (.int .i64 (fol r)) ∧ Bl w w' := by
  by_cases h : -2147483648 ≤ r ∧ r ≤ 2147483647
  · obtain ⟨h2, h3⟩ := h
    have c := character_in r w h2 h3
    obtain ⟨_, ⟨tt, fr, hg⟩⟩ := hT
    go_enter Tryd.func24, Tryd.ntmps24
    go_wp2_with fail
    refine c.mono ?_
    rintro e w' ⟨rfl, rfl⟩
    go_wp2_with (refine wpList_load_row rfl 50 _ rfl 0 rfl tt _ fr _ hg Tryd.underlying50 rfl (by kernel_rfl) ?_)
    have hI := hid foI
    generalize foC = SC at *
    clear hg c
    go_loopw [16] (fun i wr => ∃ k : Nat, i = .int .i64 k ∧ k ≤ 11 ∧ Hid (lookF (foR.drop k) r = fol r) ∧ Bl w wr) (fun i _ => 11 - (intOf i).toNat)
    case atStart => exact ⟨0, rfl, by omega, hid (look_fol r), Bl.refl _⟩
    case round =>
      obtain ⟨k, rfl, hk, hR, hb⟩ := hrel
      by_cases hlt : k < 11
      · have hi := hI.out k hlt
        have hs := hR.out
        rw [lookF_step k hlt r] at hs
        have hbd := foR_at k hlt
        unfold foCell at hi
        generalize foR.getD k (0, 0, 0, 0) = row at *
        obtain ⟨a, b, s, d⟩ := row
        simp only at hi hs hbd
        obtain ⟨b1, b2, b3, b4, b5, b6, b7⟩ := hbd
        have HS := hid hs
        clear hs
        by_cases hin : a ≤ r ∧ r ≤ b
        · obtain ⟨i1, i2⟩ := hin
          have t1 : decide (a ≤ r) = true := decide_eq_true i1
          have t2 : decide (r ≤ b) = true := decide_eq_true i2
          have hm : (r - a).tmod s = (r - a) % s := Int.tmod_eq_emod_of_nonneg (by omega)
          have hsz : 1 ≤ s ∧ s ≤ 2 := by omega
          obtain ⟨s1, s2⟩ := hsz
          clear b5
          have HS := hid (show (if (r - a) % s = 0 then r + d else lookF (foR.drop (k + 1)) r) = fol r by rw [← HS.out]; simp [i1, i2])
          by_cases h0 : (r - a) % s = 0
          · have HS := hid (show r + d = fol r by rw [← HS.out, if_pos h0])
            rw [h0] at hm
            clear h0
            go_wp2_with fail
            go_ret
            exact ⟨ret1 HS.out, hb.alloc _⟩
          · have HS := hid (show lookF (foR.drop (k + 1)) r = fol r by rw [← HS.out, if_neg h0])
            have t3 : ((r - a) % s == 0) = false := beq_eq_false_iff_ne.2 h0
            clear hm h0
            go_wp2_with fail
            go_round
            case rel => exact ⟨k + 1, by go_num, by omega, hid HS.out, hb.alloc _⟩
            case measure => simp [intOf]; omega
        · have HS := hid (show lookF (foR.drop (k + 1)) r = fol r by rw [← HS.out, if_neg (by omega)])
          go_wp2_with fail
          all_goals (try (exfalso; omega))
          all_goals
            go_round
            case rel => exact ⟨k + 1, by go_num, by omega, hid HS.out, hb.alloc _⟩
            case measure => simp [intOf]; omega
      · obtain rfl : k = 11 := by omega
        have hR := hR.out
        go_wp2_with fail
        go_ret
        exact ⟨ret1 hR, hb⟩
  · have c := character_out r w h0 h1 h
    rw [fol_id (by unfold F32; omega) (by omega) (by unfold F1; omega) (by omega)]
    go_enter Tryd.func24, Tryd.ntmps24
    go_wp2_with fail
    refine c.mono ?_
    rintro e w' ⟨rfl, rfl⟩
    go_wp2_with fail
    go_ret
    exact ⟨rfl, Bl.refl _⟩
/-- ints -/
def ok64 (l : List Int) : Prop := ∀ x ∈ l, -9223372036854775808 ≤ x ∧ x ≤ 9223372036854775807
theorem ok64_of {l : List Int} (h : ∀ n ∈ l, (Lit.int .i64 n).wf = true) : ok64 l := fun x hx => by
  have := h x hx
  simpa [Lit.wf, IntKind.min, IntKind.max, IntKind.signed, IntKind.bits] using this

end Go.Proofs.YtjbkpiimjkekgaaDoor.Glyph
