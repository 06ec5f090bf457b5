/- Names that begin with a prefix follow one another, and beginning is transitive. -/
import Derived.Test.YtjbkpiimjkekgaaDoorNLight
import Derived.Test.YtjbkpiimjkekgaaDoorWArgs
import Derived.ChangeOld
namespace Go.Proofs.YtjbkpiimjkekgaaDoor.NameRuns
open Go.ChangeShapes Go.WideShapes Go.ChangeAt Go.RowKit
open Go.ChangeMaps (open_string shut_string)
open Go.Proofs.YtjbkpiimjkekgaaDoor.Wire
open Go.Proofs.YtjbkpiimjkekgaaDoor.Glyph
open Go.Proofs.YtjbkpiimjkekgaaDoor.Name
set_option linter.unusedVariables false
set_option linter.unusedSimpArgs false

set_option maxRecDepth 100000 in
set_option maxHeartbeats 8000000 in
theorem walk (a0 : ByteArray) (a1 : ByteArray) (a2 : ByteArray) (a3 : ByteArray) (w : World) (b0 : a0.size ≤ 140737488351232) (b1 : a1.size ≤ 140737488351232) (b2 : a2.size ≤ 140737488351232) (b3 : a3.size ≤ 140737488351232) (hT : NT w) :
    Calls Tryd.prog 6 #[.string a0, .string a1, .string a2, .string a3] w fun e w' => e = .returned (.bool true) ∧ Bl w w' := by
  by_cases hp : a3.size ≤ 200
  · have ip : (a3.size : Int) ≤ 200 := by omega
    by_cases hs : a0.size ≤ 200 ∧ a1.size ≤ 200 ∧ a2.size ≤ 200
    · obtain ⟨f0, f1, f2⟩ := hs
      have lt := hid (light_yes a0 a1 a2 f0 f1 f2)
      have c1 := fun w' (bw : Bl w w') => Check_any a1 w' (by omega) (hT.bl bw)
      have c2 := fun w' (bw : Bl w w') => Cmp_any a0 a1 w' (by omega) (by omega) (hT.bl bw)
      have c3 := fun w' (bw : Bl w w') => Cmp_any a1 a2 w' (by omega) (by omega) (hT.bl bw)
      have c4 := fun w' (bw : Bl w w') => Begins_any a0 a3 w' (by omega) (by omega) (hT.bl bw)
      have c5 := fun w' (bw : Bl w w') => Begins_any a2 a3 w' (by omega) (by omega) (hT.bl bw)
      have c6 := fun w' (bw : Bl w w') => Begins_any a1 a3 w' (by omega) (by omega) (hT.bl bw)
      have c7 := fun w' (bw : Bl w w') => Begins_any a0 a1 w' (by omega) (by omega) (hT.bl bw)
      have c8 := fun w' (bw : Bl w w') => Begins_any a1 a2 w' (by omega) (by omega) (hT.bl bw)
      have c9 := fun w' (bw : Bl w w') => Begins_any a0 a2 w' (by omega) (by omega) (hT.bl bw)
      have d1 := fun w' (bw : Bl w w') => Begins_any a0 a0 w' (by omega) (by omega) (hT.bl bw)
      have d2 := fun w' (bw : Bl w w') => Check_any a0 w' (by omega) (hT.bl bw)
      have d3 := fun w' (bw : Bl w w') => Begins_any a0 ⟨#[]⟩ w' (by omega) (by decide) (hT.bl bw)
      have hb := hid (fun h1 h2 h3 h4 h5 => beg_between (S := sb a0) (T := sb a1) (U := sb a2) (P := sb a3) h1 h2 h3 h4 h5)
      have ht := hid (fun h1 h2 => beg_trans (S := sb a0) (T := sb a1) (U := sb a2) h1 h2)
      rw [beg_self] at d1
      rw [sb_emp, beg_nil] at d3
      have te := hid (show ∀ X : Int, (X == 0) = decide (X = 0) from fun _ => rfl)
      generalize chk (sb a0) = X0 at *
      generalize chk (sb a1) = X1 at *
      generalize cmp (sb a0) (sb a1) = Z1 at *
      generalize cmp (sb a1) (sb a2) = Z2 at *
      generalize beg (sb a0) (sb a3) = p1 at *
      generalize beg (sb a2) (sb a3) = p2 at *
      generalize beg (sb a1) (sb a3) = p3 at *
      generalize beg (sb a0) (sb a1) = q1 at *
      generalize beg (sb a1) (sb a2) = q2 at *
      generalize beg (sb a0) (sb a2) = q3 at *
      have D2 := hid d2
      have C1 := hid c1
      have C2 := hid c2
      have C3 := hid c3
      have C4 := hid c4
      have C5 := hid c5
      have C6 := hid c6
      have C7 := hid c7
      have C8 := hid c8
      have C9 := hid c9
      clear c1 c2 c3 c4 c5 c6 c7 c8 c9 d2
      have s1 : (X1 ≠ 0) ∨ (X1 = 0 ∧ 0 < Z1) ∨ (X1 = 0 ∧ Z1 ≤ 0 ∧ 0 < Z2) ∨ (X1 = 0 ∧ Z1 ≤ 0 ∧ Z2 ≤ 0 ∧ p1 = false) ∨ (X1 = 0 ∧ Z1 ≤ 0 ∧ Z2 ≤ 0 ∧ p1 = true ∧ p2 = false) ∨ (X1 = 0 ∧ Z1 ≤ 0 ∧ Z2 ≤ 0 ∧ p1 = true ∧ p2 = true ∧ p3 = true) := by
        by_cases h1 : X1 = 0
        · by_cases h2 : Z1 ≤ 0
          · by_cases h3 : Z2 ≤ 0
            · cases h4 : p1
              · exact .inr (.inr (.inr (.inl ⟨h1, h2, h3, rfl⟩)))
              · cases h5 : p2
                · exact .inr (.inr (.inr (.inr (.inl ⟨h1, h2, h3, rfl, rfl⟩))))
                · exact .inr (.inr (.inr (.inr (.inr ⟨h1, h2, h3, rfl, rfl, hb.out h1 h2 h3 h4 h5⟩))))
            · exact .inr (.inr (.inl ⟨h1, h2, by omega⟩))
          · exact .inr (.inl ⟨h1, by omega⟩)
        · exact .inl h1
      have s2 : (q1 = false) ∨ (q1 = true ∧ q2 = false) ∨ (q1 = true ∧ q2 = true ∧ q3 = true) := by
        cases h1 : q1
        · exact .inl rfl
        · cases h2 : q2
          · exact .inr (.inl ⟨rfl, rfl⟩)
          · exact .inr (.inr ⟨rfl, rfl, ht.out h1 h2⟩)
      clear hb ht te
      have s3 : X0 = 0 ∨ X0 ≠ 0 := by omega
      rcases s3 with h0 | h0
      · subst h0
        have D1 := hid d1
        have D3 := hid d3
        clear d1 d3
        rcases s1 with h1 | ⟨h1, h2⟩ | ⟨h1, h2, h3⟩ | ⟨h1, h2, h3, h4⟩ | ⟨h1, h2, h3, h4, h5⟩ | ⟨h1, h2, h3, h4, h5, h6⟩
        · have t1 : (X1 == 0) = false := by simpa using h1
          rcases s2 with g1 | ⟨g1, g2⟩ | ⟨g1, g2, g3⟩
          · subst g1
            go_enter Tryd.func6, Tryd.ntmps6
            go_wp2_with fail
            refine (lt.out _).mono ?_
            rintro e w' ⟨rfl, rfl⟩
            go_wp2_with fail
            refine (C1.out _ (Bl.refl _)).mono ?_
            rintro e v1 ⟨rfl, b1⟩
            have B1 := Bl.trans (Bl.refl _) b1
            clear b1
            go_wp2_with fail
            refine (C7.out _ B1).mono ?_
            rintro e v2 ⟨rfl, b2⟩
            have B2 := Bl.trans B1 b2
            clear b2  B1
            go_wp2_with fail
            refine (awake_any _ (hT.bl B2)).mono ?_
            rintro e v3 ⟨rfl, b3⟩
            have B3 := Bl.trans B2 b3
            clear b3  B2
            go_wp2_with fail
            refine (D1.out _ B3).mono ?_
            rintro e v4 ⟨rfl, b4⟩
            have B4 := Bl.trans B3 b4
            clear b4  B3
            go_wp2_with fail
            refine (D2.out _ B4).mono ?_
            rintro e v5 ⟨rfl, b5⟩
            have B5 := Bl.trans B4 b5
            clear b5  B4
            go_wp2_with fail
            refine (D3.out _ B5).mono ?_
            rintro e v6 ⟨rfl, b6⟩
            have B6 := Bl.trans B5 b6
            clear b6  B5
            go_wp2_with fail
            refine (D2.out _ B6).mono ?_
            rintro e v7 ⟨rfl, b7⟩
            have B7 := Bl.trans B6 b7
            clear b7  B6
            go_wp2_with fail
            go_ret
            exact ⟨rfl, B7⟩
          · subst g1
            subst g2
            go_enter Tryd.func6, Tryd.ntmps6
            go_wp2_with fail
            refine (lt.out _).mono ?_
            rintro e w' ⟨rfl, rfl⟩
            go_wp2_with fail
            refine (C1.out _ (Bl.refl _)).mono ?_
            rintro e v1 ⟨rfl, b1⟩
            have B1 := Bl.trans (Bl.refl _) b1
            clear b1
            go_wp2_with fail
            refine (C7.out _ B1).mono ?_
            rintro e v2 ⟨rfl, b2⟩
            have B2 := Bl.trans B1 b2
            clear b2  B1
            go_wp2_with fail
            refine (C8.out _ B2).mono ?_
            rintro e v3 ⟨rfl, b3⟩
            have B3 := Bl.trans B2 b3
            clear b3  B2
            go_wp2_with fail
            refine (awake_any _ (hT.bl B3)).mono ?_
            rintro e v4 ⟨rfl, b4⟩
            have B4 := Bl.trans B3 b4
            clear b4  B3
            go_wp2_with fail
            refine (D1.out _ B4).mono ?_
            rintro e v5 ⟨rfl, b5⟩
            have B5 := Bl.trans B4 b5
            clear b5  B4
            go_wp2_with fail
            refine (D2.out _ B5).mono ?_
            rintro e v6 ⟨rfl, b6⟩
            have B6 := Bl.trans B5 b6
            clear b6  B5
            go_wp2_with fail
            refine (D3.out _ B6).mono ?_
            rintro e v7 ⟨rfl, b7⟩
            have B7 := Bl.trans B6 b7
            clear b7  B6
            go_wp2_with fail
            refine (D2.out _ B7).mono ?_
            rintro e v8 ⟨rfl, b8⟩
            have B8 := Bl.trans B7 b8
            clear b8  B7
            go_wp2_with fail
            go_ret
            exact ⟨rfl, B8⟩
          · subst g1
            subst g2
            subst g3
            go_enter Tryd.func6, Tryd.ntmps6
            go_wp2_with fail
            refine (lt.out _).mono ?_
            rintro e w' ⟨rfl, rfl⟩
            go_wp2_with fail
            refine (C1.out _ (Bl.refl _)).mono ?_
            rintro e v1 ⟨rfl, b1⟩
            have B1 := Bl.trans (Bl.refl _) b1
            clear b1
            go_wp2_with fail
            refine (C7.out _ B1).mono ?_
            rintro e v2 ⟨rfl, b2⟩
            have B2 := Bl.trans B1 b2
            clear b2  B1
            go_wp2_with fail
            refine (C8.out _ B2).mono ?_
            rintro e v3 ⟨rfl, b3⟩
            have B3 := Bl.trans B2 b3
            clear b3  B2
            go_wp2_with fail
            refine (C9.out _ B3).mono ?_
            rintro e v4 ⟨rfl, b4⟩
            have B4 := Bl.trans B3 b4
            clear b4  B3
            go_wp2_with fail
            refine (awake_any _ (hT.bl B4)).mono ?_
            rintro e v5 ⟨rfl, b5⟩
            have B5 := Bl.trans B4 b5
            clear b5  B4
            go_wp2_with fail
            refine (D1.out _ B5).mono ?_
            rintro e v6 ⟨rfl, b6⟩
            have B6 := Bl.trans B5 b6
            clear b6  B5
            go_wp2_with fail
            refine (D2.out _ B6).mono ?_
            rintro e v7 ⟨rfl, b7⟩
            have B7 := Bl.trans B6 b7
            clear b7  B6
            go_wp2_with fail
            refine (D3.out _ B7).mono ?_
            rintro e v8 ⟨rfl, b8⟩
            have B8 := Bl.trans B7 b8
            clear b8  B7
            go_wp2_with fail
            refine (D2.out _ B8).mono ?_
            rintro e v9 ⟨rfl, b9⟩
            have B9 := Bl.trans B8 b9
            clear b9  B8
            go_wp2_with fail
            go_ret
            exact ⟨rfl, B9⟩
        · subst h1
          rcases s2 with g1 | ⟨g1, g2⟩ | ⟨g1, g2, g3⟩
          · subst g1
            go_enter Tryd.func6, Tryd.ntmps6
            go_wp2_with fail
            refine (lt.out _).mono ?_
            rintro e w' ⟨rfl, rfl⟩
            go_wp2_with fail
            refine (C1.out _ (Bl.refl _)).mono ?_
            rintro e v1 ⟨rfl, b1⟩
            have B1 := Bl.trans (Bl.refl _) b1
            clear b1
            go_wp2_with fail
            refine (C2.out _ B1).mono ?_
            rintro e v2 ⟨rfl, b2⟩
            have B2 := Bl.trans B1 b2
            clear b2  B1
            go_wp2_with fail
            refine (C7.out _ B2).mono ?_
            rintro e v3 ⟨rfl, b3⟩
            have B3 := Bl.trans B2 b3
            clear b3  B2
            go_wp2_with fail
            refine (awake_any _ (hT.bl B3)).mono ?_
            rintro e v4 ⟨rfl, b4⟩
            have B4 := Bl.trans B3 b4
            clear b4  B3
            go_wp2_with fail
            refine (D1.out _ B4).mono ?_
            rintro e v5 ⟨rfl, b5⟩
            have B5 := Bl.trans B4 b5
            clear b5  B4
            go_wp2_with fail
            refine (D2.out _ B5).mono ?_
            rintro e v6 ⟨rfl, b6⟩
            have B6 := Bl.trans B5 b6
            clear b6  B5
            go_wp2_with fail
            refine (D3.out _ B6).mono ?_
            rintro e v7 ⟨rfl, b7⟩
            have B7 := Bl.trans B6 b7
            clear b7  B6
            go_wp2_with fail
            refine (D2.out _ B7).mono ?_
            rintro e v8 ⟨rfl, b8⟩
            have B8 := Bl.trans B7 b8
            clear b8  B7
            go_wp2_with fail
            go_ret
            exact ⟨rfl, B8⟩
          · subst g1
            subst g2
            go_enter Tryd.func6, Tryd.ntmps6
            go_wp2_with fail
            refine (lt.out _).mono ?_
            rintro e w' ⟨rfl, rfl⟩
            go_wp2_with fail
            refine (C1.out _ (Bl.refl _)).mono ?_
            rintro e v1 ⟨rfl, b1⟩
            have B1 := Bl.trans (Bl.refl _) b1
            clear b1
            go_wp2_with fail
            refine (C2.out _ B1).mono ?_
            rintro e v2 ⟨rfl, b2⟩
            have B2 := Bl.trans B1 b2
            clear b2  B1
            go_wp2_with fail
            refine (C7.out _ B2).mono ?_
            rintro e v3 ⟨rfl, b3⟩
            have B3 := Bl.trans B2 b3
            clear b3  B2
            go_wp2_with fail
            refine (C8.out _ B3).mono ?_
            rintro e v4 ⟨rfl, b4⟩
            have B4 := Bl.trans B3 b4
            clear b4  B3
            go_wp2_with fail
            refine (awake_any _ (hT.bl B4)).mono ?_
            rintro e v5 ⟨rfl, b5⟩
            have B5 := Bl.trans B4 b5
            clear b5  B4
            go_wp2_with fail
            refine (D1.out _ B5).mono ?_
            rintro e v6 ⟨rfl, b6⟩
            have B6 := Bl.trans B5 b6
            clear b6  B5
            go_wp2_with fail
            refine (D2.out _ B6).mono ?_
            rintro e v7 ⟨rfl, b7⟩
            have B7 := Bl.trans B6 b7
            clear b7  B6
            go_wp2_with fail
            refine (D3.out _ B7).mono ?_
            rintro e v8 ⟨rfl, b8⟩
            have B8 := Bl.trans B7 b8
            clear b8  B7
            go_wp2_with fail
            refine (D2.out _ B8).mono ?_
            rintro e v9 ⟨rfl, b9⟩
            have B9 := Bl.trans B8 b9
            clear b9  B8
            go_wp2_with fail
            go_ret
            exact ⟨rfl, B9⟩
          · subst g1
            subst g2
            subst g3
            go_enter Tryd.func6, Tryd.ntmps6
            go_wp2_with fail
            refine (lt.out _).mono ?_
            rintro e w' ⟨rfl, rfl⟩
            go_wp2_with fail
            refine (C1.out _ (Bl.refl _)).mono ?_
            rintro e v1 ⟨rfl, b1⟩
            have B1 := Bl.trans (Bl.refl _) b1
            clear b1
            go_wp2_with fail
            refine (C2.out _ B1).mono ?_
            rintro e v2 ⟨rfl, b2⟩
            have B2 := Bl.trans B1 b2
            clear b2  B1
            go_wp2_with fail
            refine (C7.out _ B2).mono ?_
            rintro e v3 ⟨rfl, b3⟩
            have B3 := Bl.trans B2 b3
            clear b3  B2
            go_wp2_with fail
            refine (C8.out _ B3).mono ?_
            rintro e v4 ⟨rfl, b4⟩
            have B4 := Bl.trans B3 b4
            clear b4  B3
            go_wp2_with fail
            refine (C9.out _ B4).mono ?_
            rintro e v5 ⟨rfl, b5⟩
            have B5 := Bl.trans B4 b5
            clear b5  B4
            go_wp2_with fail
            refine (awake_any _ (hT.bl B5)).mono ?_
            rintro e v6 ⟨rfl, b6⟩
            have B6 := Bl.trans B5 b6
            clear b6  B5
            go_wp2_with fail
            refine (D1.out _ B6).mono ?_
            rintro e v7 ⟨rfl, b7⟩
            have B7 := Bl.trans B6 b7
            clear b7  B6
            go_wp2_with fail
            refine (D2.out _ B7).mono ?_
            rintro e v8 ⟨rfl, b8⟩
            have B8 := Bl.trans B7 b8
            clear b8  B7
            go_wp2_with fail
            refine (D3.out _ B8).mono ?_
            rintro e v9 ⟨rfl, b9⟩
            have B9 := Bl.trans B8 b9
            clear b9  B8
            go_wp2_with fail
            refine (D2.out _ B9).mono ?_
            rintro e v10 ⟨rfl, b10⟩
            have B10 := Bl.trans B9 b10
            clear b10  B9
            go_wp2_with fail
            go_ret
            exact ⟨rfl, B10⟩
        · subst h1
          rcases s2 with g1 | ⟨g1, g2⟩ | ⟨g1, g2, g3⟩
          · subst g1
            go_enter Tryd.func6, Tryd.ntmps6
            go_wp2_with fail
            refine (lt.out _).mono ?_
            rintro e w' ⟨rfl, rfl⟩
            go_wp2_with fail
            refine (C1.out _ (Bl.refl _)).mono ?_
            rintro e v1 ⟨rfl, b1⟩
            have B1 := Bl.trans (Bl.refl _) b1
            clear b1
            go_wp2_with fail
            refine (C2.out _ B1).mono ?_
            rintro e v2 ⟨rfl, b2⟩
            have B2 := Bl.trans B1 b2
            clear b2  B1
            go_wp2_with fail
            refine (C3.out _ B2).mono ?_
            rintro e v3 ⟨rfl, b3⟩
            have B3 := Bl.trans B2 b3
            clear b3  B2
            go_wp2_with fail
            refine (C7.out _ B3).mono ?_
            rintro e v4 ⟨rfl, b4⟩
            have B4 := Bl.trans B3 b4
            clear b4  B3
            go_wp2_with fail
            refine (awake_any _ (hT.bl B4)).mono ?_
            rintro e v5 ⟨rfl, b5⟩
            have B5 := Bl.trans B4 b5
            clear b5  B4
            go_wp2_with fail
            refine (D1.out _ B5).mono ?_
            rintro e v6 ⟨rfl, b6⟩
            have B6 := Bl.trans B5 b6
            clear b6  B5
            go_wp2_with fail
            refine (D2.out _ B6).mono ?_
            rintro e v7 ⟨rfl, b7⟩
            have B7 := Bl.trans B6 b7
            clear b7  B6
            go_wp2_with fail
            refine (D3.out _ B7).mono ?_
            rintro e v8 ⟨rfl, b8⟩
            have B8 := Bl.trans B7 b8
            clear b8  B7
            go_wp2_with fail
            refine (D2.out _ B8).mono ?_
            rintro e v9 ⟨rfl, b9⟩
            have B9 := Bl.trans B8 b9
            clear b9  B8
            go_wp2_with fail
            go_ret
            exact ⟨rfl, B9⟩
          · subst g1
            subst g2
            go_enter Tryd.func6, Tryd.ntmps6
            go_wp2_with fail
            refine (lt.out _).mono ?_
            rintro e w' ⟨rfl, rfl⟩
            go_wp2_with fail
            refine (C1.out _ (Bl.refl _)).mono ?_
            rintro e v1 ⟨rfl, b1⟩
            have B1 := Bl.trans (Bl.refl _) b1
            clear b1
            go_wp2_with fail
            refine (C2.out _ B1).mono ?_
            rintro e v2 ⟨rfl, b2⟩
            have B2 := Bl.trans B1 b2
            clear b2  B1
            go_wp2_with fail
            refine (C3.out _ B2).mono ?_
            rintro e v3 ⟨rfl, b3⟩
            have B3 := Bl.trans B2 b3
            clear b3  B2
            go_wp2_with fail
            refine (C7.out _ B3).mono ?_
            rintro e v4 ⟨rfl, b4⟩
            have B4 := Bl.trans B3 b4
            clear b4  B3
            go_wp2_with fail
            refine (C8.out _ B4).mono ?_
            rintro e v5 ⟨rfl, b5⟩
            have B5 := Bl.trans B4 b5
            clear b5  B4
            go_wp2_with fail
            refine (awake_any _ (hT.bl B5)).mono ?_
            rintro e v6 ⟨rfl, b6⟩
            have B6 := Bl.trans B5 b6
            clear b6  B5
            go_wp2_with fail
            refine (D1.out _ B6).mono ?_
            rintro e v7 ⟨rfl, b7⟩
            have B7 := Bl.trans B6 b7
            clear b7  B6
            go_wp2_with fail
            refine (D2.out _ B7).mono ?_
            rintro e v8 ⟨rfl, b8⟩
            have B8 := Bl.trans B7 b8
            clear b8  B7
            go_wp2_with fail
            refine (D3.out _ B8).mono ?_
            rintro e v9 ⟨rfl, b9⟩
            have B9 := Bl.trans B8 b9
            clear b9  B8
            go_wp2_with fail
            refine (D2.out _ B9).mono ?_
            rintro e v10 ⟨rfl, b10⟩
            have B10 := Bl.trans B9 b10
            clear b10  B9
            go_wp2_with fail
            go_ret
            exact ⟨rfl, B10⟩
          · subst g1
            subst g2
            subst g3
            go_enter Tryd.func6, Tryd.ntmps6
            go_wp2_with fail
            refine (lt.out _).mono ?_
            rintro e w' ⟨rfl, rfl⟩
            go_wp2_with fail
            refine (C1.out _ (Bl.refl _)).mono ?_
            rintro e v1 ⟨rfl, b1⟩
            have B1 := Bl.trans (Bl.refl _) b1
            clear b1
            go_wp2_with fail
            refine (C2.out _ B1).mono ?_
            rintro e v2 ⟨rfl, b2⟩
            have B2 := Bl.trans B1 b2
            clear b2  B1
            go_wp2_with fail
            refine (C3.out _ B2).mono ?_
            rintro e v3 ⟨rfl, b3⟩
            have B3 := Bl.trans B2 b3
            clear b3  B2
            go_wp2_with fail
            refine (C7.out _ B3).mono ?_
            rintro e v4 ⟨rfl, b4⟩
            have B4 := Bl.trans B3 b4
            clear b4  B3
            go_wp2_with fail
            refine (C8.out _ B4).mono ?_
            rintro e v5 ⟨rfl, b5⟩
            have B5 := Bl.trans B4 b5
            clear b5  B4
            go_wp2_with fail
            refine (C9.out _ B5).mono ?_
            rintro e v6 ⟨rfl, b6⟩
            have B6 := Bl.trans B5 b6
            clear b6  B5
            go_wp2_with fail
            refine (awake_any _ (hT.bl B6)).mono ?_
            rintro e v7 ⟨rfl, b7⟩
            have B7 := Bl.trans B6 b7
            clear b7  B6
            go_wp2_with fail
            refine (D1.out _ B7).mono ?_
            rintro e v8 ⟨rfl, b8⟩
            have B8 := Bl.trans B7 b8
            clear b8  B7
            go_wp2_with fail
            refine (D2.out _ B8).mono ?_
            rintro e v9 ⟨rfl, b9⟩
            have B9 := Bl.trans B8 b9
            clear b9  B8
            go_wp2_with fail
            refine (D3.out _ B9).mono ?_
            rintro e v10 ⟨rfl, b10⟩
            have B10 := Bl.trans B9 b10
            clear b10  B9
            go_wp2_with fail
            refine (D2.out _ B10).mono ?_
            rintro e v11 ⟨rfl, b11⟩
            have B11 := Bl.trans B10 b11
            clear b11  B10
            go_wp2_with fail
            go_ret
            exact ⟨rfl, B11⟩
        · subst h1
          subst h4
          rcases s2 with g1 | ⟨g1, g2⟩ | ⟨g1, g2, g3⟩
          · subst g1
            go_enter Tryd.func6, Tryd.ntmps6
            go_wp2_with fail
            refine (lt.out _).mono ?_
            rintro e w' ⟨rfl, rfl⟩
            go_wp2_with fail
            refine (C1.out _ (Bl.refl _)).mono ?_
            rintro e v1 ⟨rfl, b1⟩
            have B1 := Bl.trans (Bl.refl _) b1
            clear b1
            go_wp2_with fail
            refine (C2.out _ B1).mono ?_
            rintro e v2 ⟨rfl, b2⟩
            have B2 := Bl.trans B1 b2
            clear b2  B1
            go_wp2_with fail
            refine (C3.out _ B2).mono ?_
            rintro e v3 ⟨rfl, b3⟩
            have B3 := Bl.trans B2 b3
            clear b3  B2
            go_wp2_with fail
            refine (C4.out _ B3).mono ?_
            rintro e v4 ⟨rfl, b4⟩
            have B4 := Bl.trans B3 b4
            clear b4  B3
            go_wp2_with fail
            refine (C7.out _ B4).mono ?_
            rintro e v5 ⟨rfl, b5⟩
            have B5 := Bl.trans B4 b5
            clear b5  B4
            go_wp2_with fail
            refine (awake_any _ (hT.bl B5)).mono ?_
            rintro e v6 ⟨rfl, b6⟩
            have B6 := Bl.trans B5 b6
            clear b6  B5
            go_wp2_with fail
            refine (D1.out _ B6).mono ?_
            rintro e v7 ⟨rfl, b7⟩
            have B7 := Bl.trans B6 b7
            clear b7  B6
            go_wp2_with fail
            refine (D2.out _ B7).mono ?_
            rintro e v8 ⟨rfl, b8⟩
            have B8 := Bl.trans B7 b8
            clear b8  B7
            go_wp2_with fail
            refine (D3.out _ B8).mono ?_
            rintro e v9 ⟨rfl, b9⟩
            have B9 := Bl.trans B8 b9
            clear b9  B8
            go_wp2_with fail
            refine (D2.out _ B9).mono ?_
            rintro e v10 ⟨rfl, b10⟩
            have B10 := Bl.trans B9 b10
            clear b10  B9
            go_wp2_with fail
            go_ret
            exact ⟨rfl, B10⟩
          · subst g1
            subst g2
            go_enter Tryd.func6, Tryd.ntmps6
            go_wp2_with fail
            refine (lt.out _).mono ?_
            rintro e w' ⟨rfl, rfl⟩
            go_wp2_with fail
            refine (C1.out _ (Bl.refl _)).mono ?_
            rintro e v1 ⟨rfl, b1⟩
            have B1 := Bl.trans (Bl.refl _) b1
            clear b1
            go_wp2_with fail
            refine (C2.out _ B1).mono ?_
            rintro e v2 ⟨rfl, b2⟩
            have B2 := Bl.trans B1 b2
            clear b2  B1
            go_wp2_with fail
            refine (C3.out _ B2).mono ?_
            rintro e v3 ⟨rfl, b3⟩
            have B3 := Bl.trans B2 b3
            clear b3  B2
            go_wp2_with fail
            refine (C4.out _ B3).mono ?_
            rintro e v4 ⟨rfl, b4⟩
            have B4 := Bl.trans B3 b4
            clear b4  B3
            go_wp2_with fail
            refine (C7.out _ B4).mono ?_
            rintro e v5 ⟨rfl, b5⟩
            have B5 := Bl.trans B4 b5
            clear b5  B4
            go_wp2_with fail
            refine (C8.out _ B5).mono ?_
            rintro e v6 ⟨rfl, b6⟩
            have B6 := Bl.trans B5 b6
            clear b6  B5
            go_wp2_with fail
            refine (awake_any _ (hT.bl B6)).mono ?_
            rintro e v7 ⟨rfl, b7⟩
            have B7 := Bl.trans B6 b7
            clear b7  B6
            go_wp2_with fail
            refine (D1.out _ B7).mono ?_
            rintro e v8 ⟨rfl, b8⟩
            have B8 := Bl.trans B7 b8
            clear b8  B7
            go_wp2_with fail
            refine (D2.out _ B8).mono ?_
            rintro e v9 ⟨rfl, b9⟩
            have B9 := Bl.trans B8 b9
            clear b9  B8
            go_wp2_with fail
            refine (D3.out _ B9).mono ?_
            rintro e v10 ⟨rfl, b10⟩
            have B10 := Bl.trans B9 b10
            clear b10  B9
            go_wp2_with fail
            refine (D2.out _ B10).mono ?_
            rintro e v11 ⟨rfl, b11⟩
            have B11 := Bl.trans B10 b11
            clear b11  B10
            go_wp2_with fail
            go_ret
            exact ⟨rfl, B11⟩
          · subst g1
            subst g2
            subst g3
            go_enter Tryd.func6, Tryd.ntmps6
            go_wp2_with fail
            refine (lt.out _).mono ?_
            rintro e w' ⟨rfl, rfl⟩
            go_wp2_with fail
            refine (C1.out _ (Bl.refl _)).mono ?_
            rintro e v1 ⟨rfl, b1⟩
            have B1 := Bl.trans (Bl.refl _) b1
            clear b1
            go_wp2_with fail
            refine (C2.out _ B1).mono ?_
            rintro e v2 ⟨rfl, b2⟩
            have B2 := Bl.trans B1 b2
            clear b2  B1
            go_wp2_with fail
            refine (C3.out _ B2).mono ?_
            rintro e v3 ⟨rfl, b3⟩
            have B3 := Bl.trans B2 b3
            clear b3  B2
            go_wp2_with fail
            refine (C4.out _ B3).mono ?_
            rintro e v4 ⟨rfl, b4⟩
            have B4 := Bl.trans B3 b4
            clear b4  B3
            go_wp2_with fail
            refine (C7.out _ B4).mono ?_
            rintro e v5 ⟨rfl, b5⟩
            have B5 := Bl.trans B4 b5
            clear b5  B4
            go_wp2_with fail
            refine (C8.out _ B5).mono ?_
            rintro e v6 ⟨rfl, b6⟩
            have B6 := Bl.trans B5 b6
            clear b6  B5
            go_wp2_with fail
            refine (C9.out _ B6).mono ?_
            rintro e v7 ⟨rfl, b7⟩
            have B7 := Bl.trans B6 b7
            clear b7  B6
            go_wp2_with fail
            refine (awake_any _ (hT.bl B7)).mono ?_
            rintro e v8 ⟨rfl, b8⟩
            have B8 := Bl.trans B7 b8
            clear b8  B7
            go_wp2_with fail
            refine (D1.out _ B8).mono ?_
            rintro e v9 ⟨rfl, b9⟩
            have B9 := Bl.trans B8 b9
            clear b9  B8
            go_wp2_with fail
            refine (D2.out _ B9).mono ?_
            rintro e v10 ⟨rfl, b10⟩
            have B10 := Bl.trans B9 b10
            clear b10  B9
            go_wp2_with fail
            refine (D3.out _ B10).mono ?_
            rintro e v11 ⟨rfl, b11⟩
            have B11 := Bl.trans B10 b11
            clear b11  B10
            go_wp2_with fail
            refine (D2.out _ B11).mono ?_
            rintro e v12 ⟨rfl, b12⟩
            have B12 := Bl.trans B11 b12
            clear b12  B11
            go_wp2_with fail
            go_ret
            exact ⟨rfl, B12⟩
        · subst h1
          subst h4
          subst h5
          rcases s2 with g1 | ⟨g1, g2⟩ | ⟨g1, g2, g3⟩
          · subst g1
            go_enter Tryd.func6, Tryd.ntmps6
            go_wp2_with fail
            refine (lt.out _).mono ?_
            rintro e w' ⟨rfl, rfl⟩
            go_wp2_with fail
            refine (C1.out _ (Bl.refl _)).mono ?_
            rintro e v1 ⟨rfl, b1⟩
            have B1 := Bl.trans (Bl.refl _) b1
            clear b1
            go_wp2_with fail
            refine (C2.out _ B1).mono ?_
            rintro e v2 ⟨rfl, b2⟩
            have B2 := Bl.trans B1 b2
            clear b2  B1
            go_wp2_with fail
            refine (C3.out _ B2).mono ?_
            rintro e v3 ⟨rfl, b3⟩
            have B3 := Bl.trans B2 b3
            clear b3  B2
            go_wp2_with fail
            refine (C4.out _ B3).mono ?_
            rintro e v4 ⟨rfl, b4⟩
            have B4 := Bl.trans B3 b4
            clear b4  B3
            go_wp2_with fail
            refine (C5.out _ B4).mono ?_
            rintro e v5 ⟨rfl, b5⟩
            have B5 := Bl.trans B4 b5
            clear b5  B4
            go_wp2_with fail
            refine (C7.out _ B5).mono ?_
            rintro e v6 ⟨rfl, b6⟩
            have B6 := Bl.trans B5 b6
            clear b6  B5
            go_wp2_with fail
            refine (awake_any _ (hT.bl B6)).mono ?_
            rintro e v7 ⟨rfl, b7⟩
            have B7 := Bl.trans B6 b7
            clear b7  B6
            go_wp2_with fail
            refine (D1.out _ B7).mono ?_
            rintro e v8 ⟨rfl, b8⟩
            have B8 := Bl.trans B7 b8
            clear b8  B7
            go_wp2_with fail
            refine (D2.out _ B8).mono ?_
            rintro e v9 ⟨rfl, b9⟩
            have B9 := Bl.trans B8 b9
            clear b9  B8
            go_wp2_with fail
            refine (D3.out _ B9).mono ?_
            rintro e v10 ⟨rfl, b10⟩
            have B10 := Bl.trans B9 b10
            clear b10  B9
            go_wp2_with fail
            refine (D2.out _ B10).mono ?_
            rintro e v11 ⟨rfl, b11⟩
            have B11 := Bl.trans B10 b11
            clear b11  B10
            go_wp2_with fail
            go_ret
            exact ⟨rfl, B11⟩
          · subst g1
            subst g2
            go_enter Tryd.func6, Tryd.ntmps6
            go_wp2_with fail
            refine (lt.out _).mono ?_
            rintro e w' ⟨rfl, rfl⟩
            go_wp2_with fail
            refine (C1.out _ (Bl.refl _)).mono ?_
            rintro e v1 ⟨rfl, b1⟩
            have B1 := Bl.trans (Bl.refl _) b1
            clear b1
            go_wp2_with fail
            refine (C2.out _ B1).mono ?_
            rintro e v2 ⟨rfl, b2⟩
            have B2 := Bl.trans B1 b2
            clear b2  B1
            go_wp2_with fail
            refine (C3.out _ B2).mono ?_
            rintro e v3 ⟨rfl, b3⟩
            have B3 := Bl.trans B2 b3
            clear b3  B2
            go_wp2_with fail
            refine (C4.out _ B3).mono ?_
            rintro e v4 ⟨rfl, b4⟩
            have B4 := Bl.trans B3 b4
            clear b4  B3
            go_wp2_with fail
            refine (C5.out _ B4).mono ?_
            rintro e v5 ⟨rfl, b5⟩
            have B5 := Bl.trans B4 b5
            clear b5  B4
            go_wp2_with fail
            refine (C7.out _ B5).mono ?_
            rintro e v6 ⟨rfl, b6⟩
            have B6 := Bl.trans B5 b6
            clear b6  B5
            go_wp2_with fail
            refine (C8.out _ B6).mono ?_
            rintro e v7 ⟨rfl, b7⟩
            have B7 := Bl.trans B6 b7
            clear b7  B6
            go_wp2_with fail
            refine (awake_any _ (hT.bl B7)).mono ?_
            rintro e v8 ⟨rfl, b8⟩
            have B8 := Bl.trans B7 b8
            clear b8  B7
            go_wp2_with fail
            refine (D1.out _ B8).mono ?_
            rintro e v9 ⟨rfl, b9⟩
            have B9 := Bl.trans B8 b9
            clear b9  B8
            go_wp2_with fail
            refine (D2.out _ B9).mono ?_
            rintro e v10 ⟨rfl, b10⟩
            have B10 := Bl.trans B9 b10
            clear b10  B9
            go_wp2_with fail
            refine (D3.out _ B10).mono ?_
            rintro e v11 ⟨rfl, b11⟩
            have B11 := Bl.trans B10 b11
            clear b11  B10
            go_wp2_with fail
            refine (D2.out _ B11).mono ?_
            rintro e v12 ⟨rfl, b12⟩
            have B12 := Bl.trans B11 b12
            clear b12  B11
            go_wp2_with fail
            go_ret
            exact ⟨rfl, B12⟩
          · subst g1
            subst g2
            subst g3
            go_enter Tryd.func6, Tryd.ntmps6
            go_wp2_with fail
            refine (lt.out _).mono ?_
            rintro e w' ⟨rfl, rfl⟩
            go_wp2_with fail
            refine (C1.out _ (Bl.refl _)).mono ?_
            rintro e v1 ⟨rfl, b1⟩
            have B1 := Bl.trans (Bl.refl _) b1
            clear b1
            go_wp2_with fail
            refine (C2.out _ B1).mono ?_
            rintro e v2 ⟨rfl, b2⟩
            have B2 := Bl.trans B1 b2
            clear b2  B1
            go_wp2_with fail
            refine (C3.out _ B2).mono ?_
            rintro e v3 ⟨rfl, b3⟩
            have B3 := Bl.trans B2 b3
            clear b3  B2
            go_wp2_with fail
            refine (C4.out _ B3).mono ?_
            rintro e v4 ⟨rfl, b4⟩
            have B4 := Bl.trans B3 b4
            clear b4  B3
            go_wp2_with fail
            refine (C5.out _ B4).mono ?_
            rintro e v5 ⟨rfl, b5⟩
            have B5 := Bl.trans B4 b5
            clear b5  B4
            go_wp2_with fail
            refine (C7.out _ B5).mono ?_
            rintro e v6 ⟨rfl, b6⟩
            have B6 := Bl.trans B5 b6
            clear b6  B5
            go_wp2_with fail
            refine (C8.out _ B6).mono ?_
            rintro e v7 ⟨rfl, b7⟩
            have B7 := Bl.trans B6 b7
            clear b7  B6
            go_wp2_with fail
            refine (C9.out _ B7).mono ?_
            rintro e v8 ⟨rfl, b8⟩
            have B8 := Bl.trans B7 b8
            clear b8  B7
            go_wp2_with fail
            refine (awake_any _ (hT.bl B8)).mono ?_
            rintro e v9 ⟨rfl, b9⟩
            have B9 := Bl.trans B8 b9
            clear b9  B8
            go_wp2_with fail
            refine (D1.out _ B9).mono ?_
            rintro e v10 ⟨rfl, b10⟩
            have B10 := Bl.trans B9 b10
            clear b10  B9
            go_wp2_with fail
            refine (D2.out _ B10).mono ?_
            rintro e v11 ⟨rfl, b11⟩
            have B11 := Bl.trans B10 b11
            clear b11  B10
            go_wp2_with fail
            refine (D3.out _ B11).mono ?_
            rintro e v12 ⟨rfl, b12⟩
            have B12 := Bl.trans B11 b12
            clear b12  B11
            go_wp2_with fail
            refine (D2.out _ B12).mono ?_
            rintro e v13 ⟨rfl, b13⟩
            have B13 := Bl.trans B12 b13
            clear b13  B12
            go_wp2_with fail
            go_ret
            exact ⟨rfl, B13⟩
        · subst h1
          subst h4
          subst h5
          subst h6
          rcases s2 with g1 | ⟨g1, g2⟩ | ⟨g1, g2, g3⟩
          · subst g1
            go_enter Tryd.func6, Tryd.ntmps6
            go_wp2_with fail
            refine (lt.out _).mono ?_
            rintro e w' ⟨rfl, rfl⟩
            go_wp2_with fail
            refine (C1.out _ (Bl.refl _)).mono ?_
            rintro e v1 ⟨rfl, b1⟩
            have B1 := Bl.trans (Bl.refl _) b1
            clear b1
            go_wp2_with fail
            refine (C2.out _ B1).mono ?_
            rintro e v2 ⟨rfl, b2⟩
            have B2 := Bl.trans B1 b2
            clear b2  B1
            go_wp2_with fail
            refine (C3.out _ B2).mono ?_
            rintro e v3 ⟨rfl, b3⟩
            have B3 := Bl.trans B2 b3
            clear b3  B2
            go_wp2_with fail
            refine (C4.out _ B3).mono ?_
            rintro e v4 ⟨rfl, b4⟩
            have B4 := Bl.trans B3 b4
            clear b4  B3
            go_wp2_with fail
            refine (C5.out _ B4).mono ?_
            rintro e v5 ⟨rfl, b5⟩
            have B5 := Bl.trans B4 b5
            clear b5  B4
            go_wp2_with fail
            refine (C6.out _ B5).mono ?_
            rintro e v6 ⟨rfl, b6⟩
            have B6 := Bl.trans B5 b6
            clear b6  B5
            go_wp2_with fail
            refine (C7.out _ B6).mono ?_
            rintro e v7 ⟨rfl, b7⟩
            have B7 := Bl.trans B6 b7
            clear b7  B6
            go_wp2_with fail
            refine (awake_any _ (hT.bl B7)).mono ?_
            rintro e v8 ⟨rfl, b8⟩
            have B8 := Bl.trans B7 b8
            clear b8  B7
            go_wp2_with fail
            refine (D1.out _ B8).mono ?_
            rintro e v9 ⟨rfl, b9⟩
            have B9 := Bl.trans B8 b9
            clear b9  B8
            go_wp2_with fail
            refine (D2.out _ B9).mono ?_
            rintro e v10 ⟨rfl, b10⟩
            have B10 := Bl.trans B9 b10
            clear b10  B9
            go_wp2_with fail
            refine (D3.out _ B10).mono ?_
            rintro e v11 ⟨rfl, b11⟩
            have B11 := Bl.trans B10 b11
            clear b11  B10
            go_wp2_with fail
            refine (D2.out _ B11).mono ?_
            rintro e v12 ⟨rfl, b12⟩
            have B12 := Bl.trans B11 b12
            clear b12  B11
            go_wp2_with fail
            go_ret
            exact ⟨rfl, B12⟩
          · subst g1
            subst g2
            go_enter Tryd.func6, Tryd.ntmps6
            go_wp2_with fail
            refine (lt.out _).mono ?_
            rintro e w' ⟨rfl, rfl⟩
            go_wp2_with fail
            refine (C1.out _ (Bl.refl _)).mono ?_
            rintro e v1 ⟨rfl, b1⟩
            have B1 := Bl.trans (Bl.refl _) b1
            clear b1
            go_wp2_with fail
            refine (C2.out _ B1).mono ?_
            rintro e v2 ⟨rfl, b2⟩
            have B2 := Bl.trans B1 b2
            clear b2  B1
            go_wp2_with fail
            refine (C3.out _ B2).mono ?_
            rintro e v3 ⟨rfl, b3⟩
            have B3 := Bl.trans B2 b3
            clear b3  B2
            go_wp2_with fail
            refine (C4.out _ B3).mono ?_
            rintro e v4 ⟨rfl, b4⟩
            have B4 := Bl.trans B3 b4
            clear b4  B3
            go_wp2_with fail
            refine (C5.out _ B4).mono ?_
            rintro e v5 ⟨rfl, b5⟩
            have B5 := Bl.trans B4 b5
            clear b5  B4
            go_wp2_with fail
            refine (C6.out _ B5).mono ?_
            rintro e v6 ⟨rfl, b6⟩
            have B6 := Bl.trans B5 b6
            clear b6  B5
            go_wp2_with fail
            refine (C7.out _ B6).mono ?_
            rintro e v7 ⟨rfl, b7⟩
            have B7 := Bl.trans B6 b7
            clear b7  B6
            go_wp2_with fail
            refine (C8.out _ B7).mono ?_
            rintro e v8 ⟨rfl, b8⟩
            have B8 := Bl.trans B7 b8
            clear b8  B7
            go_wp2_with fail
            refine (awake_any _ (hT.bl B8)).mono ?_
            rintro e v9 ⟨rfl, b9⟩
            have B9 := Bl.trans B8 b9
            clear b9  B8
            go_wp2_with fail
            refine (D1.out _ B9).mono ?_
            rintro e v10 ⟨rfl, b10⟩
            have B10 := Bl.trans B9 b10
            clear b10  B9
            go_wp2_with fail
            refine (D2.out _ B10).mono ?_
            rintro e v11 ⟨rfl, b11⟩
            have B11 := Bl.trans B10 b11
            clear b11  B10
            go_wp2_with fail
            refine (D3.out _ B11).mono ?_
            rintro e v12 ⟨rfl, b12⟩
            have B12 := Bl.trans B11 b12
            clear b12  B11
            go_wp2_with fail
            refine (D2.out _ B12).mono ?_
            rintro e v13 ⟨rfl, b13⟩
            have B13 := Bl.trans B12 b13
            clear b13  B12
            go_wp2_with fail
            go_ret
            exact ⟨rfl, B13⟩
          · subst g1
            subst g2
            subst g3
            go_enter Tryd.func6, Tryd.ntmps6
            go_wp2_with fail
            refine (lt.out _).mono ?_
            rintro e w' ⟨rfl, rfl⟩
            go_wp2_with fail
            refine (C1.out _ (Bl.refl _)).mono ?_
            rintro e v1 ⟨rfl, b1⟩
            have B1 := Bl.trans (Bl.refl _) b1
            clear b1
            go_wp2_with fail
            refine (C2.out _ B1).mono ?_
            rintro e v2 ⟨rfl, b2⟩
            have B2 := Bl.trans B1 b2
            clear b2  B1
            go_wp2_with fail
            refine (C3.out _ B2).mono ?_
            rintro e v3 ⟨rfl, b3⟩
            have B3 := Bl.trans B2 b3
            clear b3  B2
            go_wp2_with fail
            refine (C4.out _ B3).mono ?_
            rintro e v4 ⟨rfl, b4⟩
            have B4 := Bl.trans B3 b4
            clear b4  B3
            go_wp2_with fail
            refine (C5.out _ B4).mono ?_
            rintro e v5 ⟨rfl, b5⟩
            have B5 := Bl.trans B4 b5
            clear b5  B4
            go_wp2_with fail
            refine (C6.out _ B5).mono ?_
            rintro e v6 ⟨rfl, b6⟩
            have B6 := Bl.trans B5 b6
            clear b6  B5
            go_wp2_with fail
            refine (C7.out _ B6).mono ?_
            rintro e v7 ⟨rfl, b7⟩
            have B7 := Bl.trans B6 b7
            clear b7  B6
            go_wp2_with fail
            refine (C8.out _ B7).mono ?_
            rintro e v8 ⟨rfl, b8⟩
            have B8 := Bl.trans B7 b8
            clear b8  B7
            go_wp2_with fail
            refine (C9.out _ B8).mono ?_
            rintro e v9 ⟨rfl, b9⟩
            have B9 := Bl.trans B8 b9
            clear b9  B8
            go_wp2_with fail
            refine (awake_any _ (hT.bl B9)).mono ?_
            rintro e v10 ⟨rfl, b10⟩
            have B10 := Bl.trans B9 b10
            clear b10  B9
            go_wp2_with fail
            refine (D1.out _ B10).mono ?_
            rintro e v11 ⟨rfl, b11⟩
            have B11 := Bl.trans B10 b11
            clear b11  B10
            go_wp2_with fail
            refine (D2.out _ B11).mono ?_
            rintro e v12 ⟨rfl, b12⟩
            have B12 := Bl.trans B11 b12
            clear b12  B11
            go_wp2_with fail
            refine (D3.out _ B12).mono ?_
            rintro e v13 ⟨rfl, b13⟩
            have B13 := Bl.trans B12 b13
            clear b13  B12
            go_wp2_with fail
            refine (D2.out _ B13).mono ?_
            rintro e v14 ⟨rfl, b14⟩
            have B14 := Bl.trans B13 b14
            clear b14  B13
            go_wp2_with fail
            go_ret
            exact ⟨rfl, B14⟩
      · rw [decide_eq_false h0] at d1 d3
        have t0 : (X0 == 0) = false := by simpa using h0
        have D1 := hid d1
        have D3 := hid d3
        clear d1 d3
        rcases s1 with h1 | ⟨h1, h2⟩ | ⟨h1, h2, h3⟩ | ⟨h1, h2, h3, h4⟩ | ⟨h1, h2, h3, h4, h5⟩ | ⟨h1, h2, h3, h4, h5, h6⟩
        · have t1 : (X1 == 0) = false := by simpa using h1
          rcases s2 with g1 | ⟨g1, g2⟩ | ⟨g1, g2, g3⟩
          · subst g1
            go_enter Tryd.func6, Tryd.ntmps6
            go_wp2_with fail
            refine (lt.out _).mono ?_
            rintro e w' ⟨rfl, rfl⟩
            go_wp2_with fail
            refine (C1.out _ (Bl.refl _)).mono ?_
            rintro e v1 ⟨rfl, b1⟩
            have B1 := Bl.trans (Bl.refl _) b1
            clear b1
            go_wp2_with fail
            refine (C7.out _ B1).mono ?_
            rintro e v2 ⟨rfl, b2⟩
            have B2 := Bl.trans B1 b2
            clear b2  B1
            go_wp2_with fail
            refine (awake_any _ (hT.bl B2)).mono ?_
            rintro e v3 ⟨rfl, b3⟩
            have B3 := Bl.trans B2 b3
            clear b3  B2
            go_wp2_with fail
            refine (D1.out _ B3).mono ?_
            rintro e v4 ⟨rfl, b4⟩
            have B4 := Bl.trans B3 b4
            clear b4  B3
            go_wp2_with fail
            refine (D2.out _ B4).mono ?_
            rintro e v5 ⟨rfl, b5⟩
            have B5 := Bl.trans B4 b5
            clear b5  B4
            go_wp2_with fail
            refine (D3.out _ B5).mono ?_
            rintro e v6 ⟨rfl, b6⟩
            have B6 := Bl.trans B5 b6
            clear b6  B5
            go_wp2_with fail
            refine (D2.out _ B6).mono ?_
            rintro e v7 ⟨rfl, b7⟩
            have B7 := Bl.trans B6 b7
            clear b7  B6
            go_wp2_with fail
            go_ret
            exact ⟨rfl, B7⟩
          · subst g1
            subst g2
            go_enter Tryd.func6, Tryd.ntmps6
            go_wp2_with fail
            refine (lt.out _).mono ?_
            rintro e w' ⟨rfl, rfl⟩
            go_wp2_with fail
            refine (C1.out _ (Bl.refl _)).mono ?_
            rintro e v1 ⟨rfl, b1⟩
            have B1 := Bl.trans (Bl.refl _) b1
            clear b1
            go_wp2_with fail
            refine (C7.out _ B1).mono ?_
            rintro e v2 ⟨rfl, b2⟩
            have B2 := Bl.trans B1 b2
            clear b2  B1
            go_wp2_with fail
            refine (C8.out _ B2).mono ?_
            rintro e v3 ⟨rfl, b3⟩
            have B3 := Bl.trans B2 b3
            clear b3  B2
            go_wp2_with fail
            refine (awake_any _ (hT.bl B3)).mono ?_
            rintro e v4 ⟨rfl, b4⟩
            have B4 := Bl.trans B3 b4
            clear b4  B3
            go_wp2_with fail
            refine (D1.out _ B4).mono ?_
            rintro e v5 ⟨rfl, b5⟩
            have B5 := Bl.trans B4 b5
            clear b5  B4
            go_wp2_with fail
            refine (D2.out _ B5).mono ?_
            rintro e v6 ⟨rfl, b6⟩
            have B6 := Bl.trans B5 b6
            clear b6  B5
            go_wp2_with fail
            refine (D3.out _ B6).mono ?_
            rintro e v7 ⟨rfl, b7⟩
            have B7 := Bl.trans B6 b7
            clear b7  B6
            go_wp2_with fail
            refine (D2.out _ B7).mono ?_
            rintro e v8 ⟨rfl, b8⟩
            have B8 := Bl.trans B7 b8
            clear b8  B7
            go_wp2_with fail
            go_ret
            exact ⟨rfl, B8⟩
          · subst g1
            subst g2
            subst g3
            go_enter Tryd.func6, Tryd.ntmps6
            go_wp2_with fail
            refine (lt.out _).mono ?_
            rintro e w' ⟨rfl, rfl⟩
            go_wp2_with fail
            refine (C1.out _ (Bl.refl _)).mono ?_
            rintro e v1 ⟨rfl, b1⟩
            have B1 := Bl.trans (Bl.refl _) b1
            clear b1
            go_wp2_with fail
            refine (C7.out _ B1).mono ?_
            rintro e v2 ⟨rfl, b2⟩
            have B2 := Bl.trans B1 b2
            clear b2  B1
            go_wp2_with fail
            refine (C8.out _ B2).mono ?_
            rintro e v3 ⟨rfl, b3⟩
            have B3 := Bl.trans B2 b3
            clear b3  B2
            go_wp2_with fail
            refine (C9.out _ B3).mono ?_
            rintro e v4 ⟨rfl, b4⟩
            have B4 := Bl.trans B3 b4
            clear b4  B3
            go_wp2_with fail
            refine (awake_any _ (hT.bl B4)).mono ?_
            rintro e v5 ⟨rfl, b5⟩
            have B5 := Bl.trans B4 b5
            clear b5  B4
            go_wp2_with fail
            refine (D1.out _ B5).mono ?_
            rintro e v6 ⟨rfl, b6⟩
            have B6 := Bl.trans B5 b6
            clear b6  B5
            go_wp2_with fail
            refine (D2.out _ B6).mono ?_
            rintro e v7 ⟨rfl, b7⟩
            have B7 := Bl.trans B6 b7
            clear b7  B6
            go_wp2_with fail
            refine (D3.out _ B7).mono ?_
            rintro e v8 ⟨rfl, b8⟩
            have B8 := Bl.trans B7 b8
            clear b8  B7
            go_wp2_with fail
            refine (D2.out _ B8).mono ?_
            rintro e v9 ⟨rfl, b9⟩
            have B9 := Bl.trans B8 b9
            clear b9  B8
            go_wp2_with fail
            go_ret
            exact ⟨rfl, B9⟩
        · subst h1
          rcases s2 with g1 | ⟨g1, g2⟩ | ⟨g1, g2, g3⟩
          · subst g1
            go_enter Tryd.func6, Tryd.ntmps6
            go_wp2_with fail
            refine (lt.out _).mono ?_
            rintro e w' ⟨rfl, rfl⟩
            go_wp2_with fail
            refine (C1.out _ (Bl.refl _)).mono ?_
            rintro e v1 ⟨rfl, b1⟩
            have B1 := Bl.trans (Bl.refl _) b1
            clear b1
            go_wp2_with fail
            refine (C2.out _ B1).mono ?_
            rintro e v2 ⟨rfl, b2⟩
            have B2 := Bl.trans B1 b2
            clear b2  B1
            go_wp2_with fail
            refine (C7.out _ B2).mono ?_
            rintro e v3 ⟨rfl, b3⟩
            have B3 := Bl.trans B2 b3
            clear b3  B2
            go_wp2_with fail
            refine (awake_any _ (hT.bl B3)).mono ?_
            rintro e v4 ⟨rfl, b4⟩
            have B4 := Bl.trans B3 b4
            clear b4  B3
            go_wp2_with fail
            refine (D1.out _ B4).mono ?_
            rintro e v5 ⟨rfl, b5⟩
            have B5 := Bl.trans B4 b5
            clear b5  B4
            go_wp2_with fail
            refine (D2.out _ B5).mono ?_
            rintro e v6 ⟨rfl, b6⟩
            have B6 := Bl.trans B5 b6
            clear b6  B5
            go_wp2_with fail
            refine (D3.out _ B6).mono ?_
            rintro e v7 ⟨rfl, b7⟩
            have B7 := Bl.trans B6 b7
            clear b7  B6
            go_wp2_with fail
            refine (D2.out _ B7).mono ?_
            rintro e v8 ⟨rfl, b8⟩
            have B8 := Bl.trans B7 b8
            clear b8  B7
            go_wp2_with fail
            go_ret
            exact ⟨rfl, B8⟩
          · subst g1
            subst g2
            go_enter Tryd.func6, Tryd.ntmps6
            go_wp2_with fail
            refine (lt.out _).mono ?_
            rintro e w' ⟨rfl, rfl⟩
            go_wp2_with fail
            refine (C1.out _ (Bl.refl _)).mono ?_
            rintro e v1 ⟨rfl, b1⟩
            have B1 := Bl.trans (Bl.refl _) b1
            clear b1
            go_wp2_with fail
            refine (C2.out _ B1).mono ?_
            rintro e v2 ⟨rfl, b2⟩
            have B2 := Bl.trans B1 b2
            clear b2  B1
            go_wp2_with fail
            refine (C7.out _ B2).mono ?_
            rintro e v3 ⟨rfl, b3⟩
            have B3 := Bl.trans B2 b3
            clear b3  B2
            go_wp2_with fail
            refine (C8.out _ B3).mono ?_
            rintro e v4 ⟨rfl, b4⟩
            have B4 := Bl.trans B3 b4
            clear b4  B3
            go_wp2_with fail
            refine (awake_any _ (hT.bl B4)).mono ?_
            rintro e v5 ⟨rfl, b5⟩
            have B5 := Bl.trans B4 b5
            clear b5  B4
            go_wp2_with fail
            refine (D1.out _ B5).mono ?_
            rintro e v6 ⟨rfl, b6⟩
            have B6 := Bl.trans B5 b6
            clear b6  B5
            go_wp2_with fail
            refine (D2.out _ B6).mono ?_
            rintro e v7 ⟨rfl, b7⟩
            have B7 := Bl.trans B6 b7
            clear b7  B6
            go_wp2_with fail
            refine (D3.out _ B7).mono ?_
            rintro e v8 ⟨rfl, b8⟩
            have B8 := Bl.trans B7 b8
            clear b8  B7
            go_wp2_with fail
            refine (D2.out _ B8).mono ?_
            rintro e v9 ⟨rfl, b9⟩
            have B9 := Bl.trans B8 b9
            clear b9  B8
            go_wp2_with fail
            go_ret
            exact ⟨rfl, B9⟩
          · subst g1
            subst g2
            subst g3
            go_enter Tryd.func6, Tryd.ntmps6
            go_wp2_with fail
            refine (lt.out _).mono ?_
            rintro e w' ⟨rfl, rfl⟩
            go_wp2_with fail
            refine (C1.out _ (Bl.refl _)).mono ?_
            rintro e v1 ⟨rfl, b1⟩
            have B1 := Bl.trans (Bl.refl _) b1
            clear b1
            go_wp2_with fail
            refine (C2.out _ B1).mono ?_
            rintro e v2 ⟨rfl, b2⟩
            have B2 := Bl.trans B1 b2
            clear b2  B1
            go_wp2_with fail
            refine (C7.out _ B2).mono ?_
            rintro e v3 ⟨rfl, b3⟩
            have B3 := Bl.trans B2 b3
            clear b3  B2
            go_wp2_with fail
            refine (C8.out _ B3).mono ?_
            rintro e v4 ⟨rfl, b4⟩
            have B4 := Bl.trans B3 b4
            clear b4  B3
            go_wp2_with fail
            refine (C9.out _ B4).mono ?_
            rintro e v5 ⟨rfl, b5⟩
            have B5 := Bl.trans B4 b5
            clear b5  B4
            go_wp2_with fail
            refine (awake_any _ (hT.bl B5)).mono ?_
            rintro e v6 ⟨rfl, b6⟩
            have B6 := Bl.trans B5 b6
            clear b6  B5
            go_wp2_with fail
            refine (D1.out _ B6).mono ?_
            rintro e v7 ⟨rfl, b7⟩
            have B7 := Bl.trans B6 b7
            clear b7  B6
            go_wp2_with fail
            refine (D2.out _ B7).mono ?_
            rintro e v8 ⟨rfl, b8⟩
            have B8 := Bl.trans B7 b8
            clear b8  B7
            go_wp2_with fail
            refine (D3.out _ B8).mono ?_
            rintro e v9 ⟨rfl, b9⟩
            have B9 := Bl.trans B8 b9
            clear b9  B8
            go_wp2_with fail
            refine (D2.out _ B9).mono ?_
            rintro e v10 ⟨rfl, b10⟩
            have B10 := Bl.trans B9 b10
            clear b10  B9
            go_wp2_with fail
            go_ret
            exact ⟨rfl, B10⟩
        · subst h1
          rcases s2 with g1 | ⟨g1, g2⟩ | ⟨g1, g2, g3⟩
          · subst g1
            go_enter Tryd.func6, Tryd.ntmps6
            go_wp2_with fail
            refine (lt.out _).mono ?_
            rintro e w' ⟨rfl, rfl⟩
            go_wp2_with fail
            refine (C1.out _ (Bl.refl _)).mono ?_
            rintro e v1 ⟨rfl, b1⟩
            have B1 := Bl.trans (Bl.refl _) b1
            clear b1
            go_wp2_with fail
            refine (C2.out _ B1).mono ?_
            rintro e v2 ⟨rfl, b2⟩
            have B2 := Bl.trans B1 b2
            clear b2  B1
            go_wp2_with fail
            refine (C3.out _ B2).mono ?_
            rintro e v3 ⟨rfl, b3⟩
            have B3 := Bl.trans B2 b3
            clear b3  B2
            go_wp2_with fail
            refine (C7.out _ B3).mono ?_
            rintro e v4 ⟨rfl, b4⟩
            have B4 := Bl.trans B3 b4
            clear b4  B3
            go_wp2_with fail
            refine (awake_any _ (hT.bl B4)).mono ?_
            rintro e v5 ⟨rfl, b5⟩
            have B5 := Bl.trans B4 b5
            clear b5  B4
            go_wp2_with fail
            refine (D1.out _ B5).mono ?_
            rintro e v6 ⟨rfl, b6⟩
            have B6 := Bl.trans B5 b6
            clear b6  B5
            go_wp2_with fail
            refine (D2.out _ B6).mono ?_
            rintro e v7 ⟨rfl, b7⟩
            have B7 := Bl.trans B6 b7
            clear b7  B6
            go_wp2_with fail
            refine (D3.out _ B7).mono ?_
            rintro e v8 ⟨rfl, b8⟩
            have B8 := Bl.trans B7 b8
            clear b8  B7
            go_wp2_with fail
            refine (D2.out _ B8).mono ?_
            rintro e v9 ⟨rfl, b9⟩
            have B9 := Bl.trans B8 b9
            clear b9  B8
            go_wp2_with fail
            go_ret
            exact ⟨rfl, B9⟩
          · subst g1
            subst g2
            go_enter Tryd.func6, Tryd.ntmps6
            go_wp2_with fail
            refine (lt.out _).mono ?_
            rintro e w' ⟨rfl, rfl⟩
            go_wp2_with fail
            refine (C1.out _ (Bl.refl _)).mono ?_
            rintro e v1 ⟨rfl, b1⟩
            have B1 := Bl.trans (Bl.refl _) b1
            clear b1
            go_wp2_with fail
            refine (C2.out _ B1).mono ?_
            rintro e v2 ⟨rfl, b2⟩
            have B2 := Bl.trans B1 b2
            clear b2  B1
            go_wp2_with fail
            refine (C3.out _ B2).mono ?_
            rintro e v3 ⟨rfl, b3⟩
            have B3 := Bl.trans B2 b3
            clear b3  B2
            go_wp2_with fail
            refine (C7.out _ B3).mono ?_
            rintro e v4 ⟨rfl, b4⟩
            have B4 := Bl.trans B3 b4
            clear b4  B3
            go_wp2_with fail
            refine (C8.out _ B4).mono ?_
            rintro e v5 ⟨rfl, b5⟩
            have B5 := Bl.trans B4 b5
            clear b5  B4
            go_wp2_with fail
            refine (awake_any _ (hT.bl B5)).mono ?_
            rintro e v6 ⟨rfl, b6⟩
            have B6 := Bl.trans B5 b6
            clear b6  B5
            go_wp2_with fail
            refine (D1.out _ B6).mono ?_
            rintro e v7 ⟨rfl, b7⟩
            have B7 := Bl.trans B6 b7
            clear b7  B6
            go_wp2_with fail
            refine (D2.out _ B7).mono ?_
            rintro e v8 ⟨rfl, b8⟩
            have B8 := Bl.trans B7 b8
            clear b8  B7
            go_wp2_with fail
            refine (D3.out _ B8).mono ?_
            rintro e v9 ⟨rfl, b9⟩
            have B9 := Bl.trans B8 b9
            clear b9  B8
            go_wp2_with fail
            refine (D2.out _ B9).mono ?_
            rintro e v10 ⟨rfl, b10⟩
            have B10 := Bl.trans B9 b10
            clear b10  B9
            go_wp2_with fail
            go_ret
            exact ⟨rfl, B10⟩
          · subst g1
            subst g2
            subst g3
            go_enter Tryd.func6, Tryd.ntmps6
            go_wp2_with fail
            refine (lt.out _).mono ?_
            rintro e w' ⟨rfl, rfl⟩
            go_wp2_with fail
            refine (C1.out _ (Bl.refl _)).mono ?_
            rintro e v1 ⟨rfl, b1⟩
            have B1 := Bl.trans (Bl.refl _) b1
            clear b1
            go_wp2_with fail
            refine (C2.out _ B1).mono ?_
            rintro e v2 ⟨rfl, b2⟩
            have B2 := Bl.trans B1 b2
            clear b2  B1
            go_wp2_with fail
            refine (C3.out _ B2).mono ?_
            rintro e v3 ⟨rfl, b3⟩
            have B3 := Bl.trans B2 b3
            clear b3  B2
            go_wp2_with fail
            refine (C7.out _ B3).mono ?_
            rintro e v4 ⟨rfl, b4⟩
            have B4 := Bl.trans B3 b4
            clear b4  B3
            go_wp2_with fail
            refine (C8.out _ B4).mono ?_
            rintro e v5 ⟨rfl, b5⟩
            have B5 := Bl.trans B4 b5
            clear b5  B4
            go_wp2_with fail
            refine (C9.out _ B5).mono ?_
            rintro e v6 ⟨rfl, b6⟩
            have B6 := Bl.trans B5 b6
            clear b6  B5
            go_wp2_with fail
            refine (awake_any _ (hT.bl B6)).mono ?_
            rintro e v7 ⟨rfl, b7⟩
            have B7 := Bl.trans B6 b7
            clear b7  B6
            go_wp2_with fail
            refine (D1.out _ B7).mono ?_
            rintro e v8 ⟨rfl, b8⟩
            have B8 := Bl.trans B7 b8
            clear b8  B7
            go_wp2_with fail
            refine (D2.out _ B8).mono ?_
            rintro e v9 ⟨rfl, b9⟩
            have B9 := Bl.trans B8 b9
            clear b9  B8
            go_wp2_with fail
            refine (D3.out _ B9).mono ?_
            rintro e v10 ⟨rfl, b10⟩
            have B10 := Bl.trans B9 b10
            clear b10  B9
            go_wp2_with fail
            refine (D2.out _ B10).mono ?_
            rintro e v11 ⟨rfl, b11⟩
            have B11 := Bl.trans B10 b11
            clear b11  B10
            go_wp2_with fail
            go_ret
            exact ⟨rfl, B11⟩
        · subst h1
          subst h4
          rcases s2 with g1 | ⟨g1, g2⟩ | ⟨g1, g2, g3⟩
          · subst g1
            go_enter Tryd.func6, Tryd.ntmps6
            go_wp2_with fail
            refine (lt.out _).mono ?_
            rintro e w' ⟨rfl, rfl⟩
            go_wp2_with fail
            refine (C1.out _ (Bl.refl _)).mono ?_
            rintro e v1 ⟨rfl, b1⟩
            have B1 := Bl.trans (Bl.refl _) b1
            clear b1
            go_wp2_with fail
            refine (C2.out _ B1).mono ?_
            rintro e v2 ⟨rfl, b2⟩
            have B2 := Bl.trans B1 b2
            clear b2  B1
            go_wp2_with fail
            refine (C3.out _ B2).mono ?_
            rintro e v3 ⟨rfl, b3⟩
            have B3 := Bl.trans B2 b3
            clear b3  B2
            go_wp2_with fail
            refine (C4.out _ B3).mono ?_
            rintro e v4 ⟨rfl, b4⟩
            have B4 := Bl.trans B3 b4
            clear b4  B3
            go_wp2_with fail
            refine (C7.out _ B4).mono ?_
            rintro e v5 ⟨rfl, b5⟩
            have B5 := Bl.trans B4 b5
            clear b5  B4
            go_wp2_with fail
            refine (awake_any _ (hT.bl B5)).mono ?_
            rintro e v6 ⟨rfl, b6⟩
            have B6 := Bl.trans B5 b6
            clear b6  B5
            go_wp2_with fail
            refine (D1.out _ B6).mono ?_
            rintro e v7 ⟨rfl, b7⟩
            have B7 := Bl.trans B6 b7
            clear b7  B6
            go_wp2_with fail
            refine (D2.out _ B7).mono ?_
            rintro e v8 ⟨rfl, b8⟩
            have B8 := Bl.trans B7 b8
            clear b8  B7
            go_wp2_with fail
            refine (D3.out _ B8).mono ?_
            rintro e v9 ⟨rfl, b9⟩
            have B9 := Bl.trans B8 b9
            clear b9  B8
            go_wp2_with fail
            refine (D2.out _ B9).mono ?_
            rintro e v10 ⟨rfl, b10⟩
            have B10 := Bl.trans B9 b10
            clear b10  B9
            go_wp2_with fail
            go_ret
            exact ⟨rfl, B10⟩
          · subst g1
            subst g2
            go_enter Tryd.func6, Tryd.ntmps6
            go_wp2_with fail
            refine (lt.out _).mono ?_
            rintro e w' ⟨rfl, rfl⟩
            go_wp2_with fail
            refine (C1.out _ (Bl.refl _)).mono ?_
            rintro e v1 ⟨rfl, b1⟩
            have B1 := Bl.trans (Bl.refl _) b1
            clear b1
            go_wp2_with fail
            refine (C2.out _ B1).mono ?_
            rintro e v2 ⟨rfl, b2⟩
            have B2 := Bl.trans B1 b2
            clear b2  B1
            go_wp2_with fail
            refine (C3.out _ B2).mono ?_
            rintro e v3 ⟨rfl, b3⟩
            have B3 := Bl.trans B2 b3
            clear b3  B2
            go_wp2_with fail
            refine (C4.out _ B3).mono ?_
            rintro e v4 ⟨rfl, b4⟩
            have B4 := Bl.trans B3 b4
            clear b4  B3
            go_wp2_with fail
            refine (C7.out _ B4).mono ?_
            rintro e v5 ⟨rfl, b5⟩
            have B5 := Bl.trans B4 b5
            clear b5  B4
            go_wp2_with fail
            refine (C8.out _ B5).mono ?_
            rintro e v6 ⟨rfl, b6⟩
            have B6 := Bl.trans B5 b6
            clear b6  B5
            go_wp2_with fail
            refine (awake_any _ (hT.bl B6)).mono ?_
            rintro e v7 ⟨rfl, b7⟩
            have B7 := Bl.trans B6 b7
            clear b7  B6
            go_wp2_with fail
            refine (D1.out _ B7).mono ?_
            rintro e v8 ⟨rfl, b8⟩
            have B8 := Bl.trans B7 b8
            clear b8  B7
            go_wp2_with fail
            refine (D2.out _ B8).mono ?_
            rintro e v9 ⟨rfl, b9⟩
            have B9 := Bl.trans B8 b9
            clear b9  B8
            go_wp2_with fail
            refine (D3.out _ B9).mono ?_
            rintro e v10 ⟨rfl, b10⟩
            have B10 := Bl.trans B9 b10
            clear b10  B9
            go_wp2_with fail
            refine (D2.out _ B10).mono ?_
            rintro e v11 ⟨rfl, b11⟩
            have B11 := Bl.trans B10 b11
            clear b11  B10
            go_wp2_with fail
            go_ret
            exact ⟨rfl, B11⟩
          · subst g1
            subst g2
            subst g3
            go_enter Tryd.func6, Tryd.ntmps6
            go_wp2_with fail
            refine (lt.out _).mono ?_
            rintro e w' ⟨rfl, rfl⟩
            go_wp2_with fail
            refine (C1.out _ (Bl.refl _)).mono ?_
            rintro e v1 ⟨rfl, b1⟩
            have B1 := Bl.trans (Bl.refl _) b1
            clear b1
            go_wp2_with fail
            refine (C2.out _ B1).mono ?_
            rintro e v2 ⟨rfl, b2⟩
            have B2 := Bl.trans B1 b2
            clear b2  B1
            go_wp2_with fail
            refine (C3.out _ B2).mono ?_
            rintro e v3 ⟨rfl, b3⟩
            have B3 := Bl.trans B2 b3
            clear b3  B2
            go_wp2_with fail
            refine (C4.out _ B3).mono ?_
            rintro e v4 ⟨rfl, b4⟩
            have B4 := Bl.trans B3 b4
            clear b4  B3
            go_wp2_with fail
            refine (C7.out _ B4).mono ?_
            rintro e v5 ⟨rfl, b5⟩
            have B5 := Bl.trans B4 b5
            clear b5  B4
            go_wp2_with fail
            refine (C8.out _ B5).mono ?_
            rintro e v6 ⟨rfl, b6⟩
            have B6 := Bl.trans B5 b6
            clear b6  B5
            go_wp2_with fail
            refine (C9.out _ B6).mono ?_
            rintro e v7 ⟨rfl, b7⟩
            have B7 := Bl.trans B6 b7
            clear b7  B6
            go_wp2_with fail
            refine (awake_any _ (hT.bl B7)).mono ?_
            rintro e v8 ⟨rfl, b8⟩
            have B8 := Bl.trans B7 b8
            clear b8  B7
            go_wp2_with fail
            refine (D1.out _ B8).mono ?_
            rintro e v9 ⟨rfl, b9⟩
            have B9 := Bl.trans B8 b9
            clear b9  B8
            go_wp2_with fail
            refine (D2.out _ B9).mono ?_
            rintro e v10 ⟨rfl, b10⟩
            have B10 := Bl.trans B9 b10
            clear b10  B9
            go_wp2_with fail
            refine (D3.out _ B10).mono ?_
            rintro e v11 ⟨rfl, b11⟩
            have B11 := Bl.trans B10 b11
            clear b11  B10
            go_wp2_with fail
            refine (D2.out _ B11).mono ?_
            rintro e v12 ⟨rfl, b12⟩
            have B12 := Bl.trans B11 b12
            clear b12  B11
            go_wp2_with fail
            go_ret
            exact ⟨rfl, B12⟩
        · subst h1
          subst h4
          subst h5
          rcases s2 with g1 | ⟨g1, g2⟩ | ⟨g1, g2, g3⟩
          · subst g1
            go_enter Tryd.func6, Tryd.ntmps6
            go_wp2_with fail
            refine (lt.out _).mono ?_
            rintro e w' ⟨rfl, rfl⟩
            go_wp2_with fail
            refine (C1.out _ (Bl.refl _)).mono ?_
            rintro e v1 ⟨rfl, b1⟩
            have B1 := Bl.trans (Bl.refl _) b1
            clear b1
            go_wp2_with fail
            refine (C2.out _ B1).mono ?_
            rintro e v2 ⟨rfl, b2⟩
            have B2 := Bl.trans B1 b2
            clear b2  B1
            go_wp2_with fail
            refine (C3.out _ B2).mono ?_
            rintro e v3 ⟨rfl, b3⟩
            have B3 := Bl.trans B2 b3
            clear b3  B2
            go_wp2_with fail
            refine (C4.out _ B3).mono ?_
            rintro e v4 ⟨rfl, b4⟩
            have B4 := Bl.trans B3 b4
            clear b4  B3
            go_wp2_with fail
            refine (C5.out _ B4).mono ?_
            rintro e v5 ⟨rfl, b5⟩
            have B5 := Bl.trans B4 b5
            clear b5  B4
            go_wp2_with fail
            refine (C7.out _ B5).mono ?_
            rintro e v6 ⟨rfl, b6⟩
            have B6 := Bl.trans B5 b6
            clear b6  B5
            go_wp2_with fail
            refine (awake_any _ (hT.bl B6)).mono ?_
            rintro e v7 ⟨rfl, b7⟩
            have B7 := Bl.trans B6 b7
            clear b7  B6
            go_wp2_with fail
            refine (D1.out _ B7).mono ?_
            rintro e v8 ⟨rfl, b8⟩
            have B8 := Bl.trans B7 b8
            clear b8  B7
            go_wp2_with fail
            refine (D2.out _ B8).mono ?_
            rintro e v9 ⟨rfl, b9⟩
            have B9 := Bl.trans B8 b9
            clear b9  B8
            go_wp2_with fail
            refine (D3.out _ B9).mono ?_
            rintro e v10 ⟨rfl, b10⟩
            have B10 := Bl.trans B9 b10
            clear b10  B9
            go_wp2_with fail
            refine (D2.out _ B10).mono ?_
            rintro e v11 ⟨rfl, b11⟩
            have B11 := Bl.trans B10 b11
            clear b11  B10
            go_wp2_with fail
            go_ret
            exact ⟨rfl, B11⟩
          · subst g1
            subst g2
            go_enter Tryd.func6, Tryd.ntmps6
            go_wp2_with fail
            refine (lt.out _).mono ?_
            rintro e w' ⟨rfl, rfl⟩
            go_wp2_with fail
            refine (C1.out _ (Bl.refl _)).mono ?_
            rintro e v1 ⟨rfl, b1⟩
            have B1 := Bl.trans (Bl.refl _) b1
            clear b1
            go_wp2_with fail
            refine (C2.out _ B1).mono ?_
            rintro e v2 ⟨rfl, b2⟩
            have B2 := Bl.trans B1 b2
            clear b2  B1
            go_wp2_with fail
            refine (C3.out _ B2).mono ?_
            rintro e v3 ⟨rfl, b3⟩
            have B3 := Bl.trans B2 b3
            clear b3  B2
            go_wp2_with fail
            refine (C4.out _ B3).mono ?_
            rintro e v4 ⟨rfl, b4⟩
            have B4 := Bl.trans B3 b4
            clear b4  B3
            go_wp2_with fail
            refine (C5.out _ B4).mono ?_
            rintro e v5 ⟨rfl, b5⟩
            have B5 := Bl.trans B4 b5
            clear b5  B4
            go_wp2_with fail
            refine (C7.out _ B5).mono ?_
            rintro e v6 ⟨rfl, b6⟩
            have B6 := Bl.trans B5 b6
            clear b6  B5
            go_wp2_with fail
            refine (C8.out _ B6).mono ?_
            rintro e v7 ⟨rfl, b7⟩
            have B7 := Bl.trans B6 b7
            clear b7  B6
            go_wp2_with fail
            refine (awake_any _ (hT.bl B7)).mono ?_
            rintro e v8 ⟨rfl, b8⟩
            have B8 := Bl.trans B7 b8
            clear b8  B7
            go_wp2_with fail
            refine (D1.out _ B8).mono ?_
            rintro e v9 ⟨rfl, b9⟩
            have B9 := Bl.trans B8 b9
            clear b9  B8
            go_wp2_with fail
            refine (D2.out _ B9).mono ?_
            rintro e v10 ⟨rfl, b10⟩
            have B10 := Bl.trans B9 b10
            clear b10  B9
            go_wp2_with fail
            refine (D3.out _ B10).mono ?_
            rintro e v11 ⟨rfl, b11⟩
            have B11 := Bl.trans B10 b11
            clear b11  B10
            go_wp2_with fail
            refine (D2.out _ B11).mono ?_
            rintro e v12 ⟨rfl, b12⟩
            have B12 := Bl.trans B11 b12
            clear b12  B11
            go_wp2_with fail
            go_ret
            exact ⟨rfl, B12⟩
          · subst g1
            subst g2
            subst g3
            go_enter Tryd.func6, Tryd.ntmps6
            go_wp2_with fail
            refine (lt.out _).mono ?_
            rintro e w' ⟨rfl, rfl⟩
            go_wp2_with fail
            refine (C1.out _ (Bl.refl _)).mono ?_
            rintro e v1 ⟨rfl, b1⟩
            have B1 := Bl.trans (Bl.refl _) b1
            clear b1
            go_wp2_with fail
            refine (C2.out _ B1).mono ?_
            rintro e v2 ⟨rfl, b2⟩
            have B2 := Bl.trans B1 b2
            clear b2  B1
            go_wp2_with fail
            refine (C3.out _ B2).mono ?_
            rintro e v3 ⟨rfl, b3⟩
            have B3 := Bl.trans B2 b3
            clear b3  B2
            go_wp2_with fail
            refine (C4.out _ B3).mono ?_
            rintro e v4 ⟨rfl, b4⟩
            have B4 := Bl.trans B3 b4
            clear b4  B3
            go_wp2_with fail
            refine (C5.out _ B4).mono ?_
            rintro e v5 ⟨rfl, b5⟩
            have B5 := Bl.trans B4 b5
            clear b5  B4
            go_wp2_with fail
            refine (C7.out _ B5).mono ?_
            rintro e v6 ⟨rfl, b6⟩
            have B6 := Bl.trans B5 b6
            clear b6  B5
            go_wp2_with fail
            refine (C8.out _ B6).mono ?_
            rintro e v7 ⟨rfl, b7⟩
            have B7 := Bl.trans B6 b7
            clear b7  B6
            go_wp2_with fail
            refine (C9.out _ B7).mono ?_
            rintro e v8 ⟨rfl, b8⟩
            have B8 := Bl.trans B7 b8
            clear b8  B7
            go_wp2_with fail
            refine (awake_any _ (hT.bl B8)).mono ?_
            rintro e v9 ⟨rfl, b9⟩
            have B9 := Bl.trans B8 b9
            clear b9  B8
            go_wp2_with fail
            refine (D1.out _ B9).mono ?_
            rintro e v10 ⟨rfl, b10⟩
            have B10 := Bl.trans B9 b10
            clear b10  B9
            go_wp2_with fail
            refine (D2.out _ B10).mono ?_
            rintro e v11 ⟨rfl, b11⟩
            have B11 := Bl.trans B10 b11
            clear b11  B10
            go_wp2_with fail
            refine (D3.out _ B11).mono ?_
            rintro e v12 ⟨rfl, b12⟩
            have B12 := Bl.trans B11 b12
            clear b12  B11
            go_wp2_with fail
            refine (D2.out _ B12).mono ?_
            rintro e v13 ⟨rfl, b13⟩
            have B13 := Bl.trans B12 b13
            clear b13  B12
            go_wp2_with fail
            go_ret
            exact ⟨rfl, B13⟩
        · subst h1
          subst h4
          subst h5
          subst h6
          rcases s2 with g1 | ⟨g1, g2⟩ | ⟨g1, g2, g3⟩
          · subst g1
            go_enter Tryd.func6, Tryd.ntmps6
            go_wp2_with fail
            refine (lt.out _).mono ?_
            rintro e w' ⟨rfl, rfl⟩
            go_wp2_with fail
            refine (C1.out _ (Bl.refl _)).mono ?_
            rintro e v1 ⟨rfl, b1⟩
            have B1 := Bl.trans (Bl.refl _) b1
            clear b1
            go_wp2_with fail
            refine (C2.out _ B1).mono ?_
            rintro e v2 ⟨rfl, b2⟩
            have B2 := Bl.trans B1 b2
            clear b2  B1
            go_wp2_with fail
            refine (C3.out _ B2).mono ?_
            rintro e v3 ⟨rfl, b3⟩
            have B3 := Bl.trans B2 b3
            clear b3  B2
            go_wp2_with fail
            refine (C4.out _ B3).mono ?_
            rintro e v4 ⟨rfl, b4⟩
            have B4 := Bl.trans B3 b4
            clear b4  B3
            go_wp2_with fail
            refine (C5.out _ B4).mono ?_
            rintro e v5 ⟨rfl, b5⟩
            have B5 := Bl.trans B4 b5
            clear b5  B4
            go_wp2_with fail
            refine (C6.out _ B5).mono ?_
            rintro e v6 ⟨rfl, b6⟩
            have B6 := Bl.trans B5 b6
            clear b6  B5
            go_wp2_with fail
            refine (C7.out _ B6).mono ?_
            rintro e v7 ⟨rfl, b7⟩
            have B7 := Bl.trans B6 b7
            clear b7  B6
            go_wp2_with fail
            refine (awake_any _ (hT.bl B7)).mono ?_
            rintro e v8 ⟨rfl, b8⟩
            have B8 := Bl.trans B7 b8
            clear b8  B7
            go_wp2_with fail
            refine (D1.out _ B8).mono ?_
            rintro e v9 ⟨rfl, b9⟩
            have B9 := Bl.trans B8 b9
            clear b9  B8
            go_wp2_with fail
            refine (D2.out _ B9).mono ?_
            rintro e v10 ⟨rfl, b10⟩
            have B10 := Bl.trans B9 b10
            clear b10  B9
            go_wp2_with fail
            refine (D3.out _ B10).mono ?_
            rintro e v11 ⟨rfl, b11⟩
            have B11 := Bl.trans B10 b11
            clear b11  B10
            go_wp2_with fail
            refine (D2.out _ B11).mono ?_
            rintro e v12 ⟨rfl, b12⟩
            have B12 := Bl.trans B11 b12
            clear b12  B11
            go_wp2_with fail
            go_ret
            exact ⟨rfl, B12⟩
          · subst g1
            subst g2
            go_enter Tryd.func6, Tryd.ntmps6
            go_wp2_with fail
            refine (lt.out _).mono ?_
            rintro e w' ⟨rfl, rfl⟩
            go_wp2_with fail
            refine (C1.out _ (Bl.refl _)).mono ?_
            rintro e v1 ⟨rfl, b1⟩
            have B1 := Bl.trans (Bl.refl _) b1
            clear b1
            go_wp2_with fail
            refine (C2.out _ B1).mono ?_
            rintro e v2 ⟨rfl, b2⟩
            have B2 := Bl.trans B1 b2
            clear b2  B1
            go_wp2_with fail
            refine (C3.out _ B2).mono ?_
            rintro e v3 ⟨rfl, b3⟩
            have B3 := Bl.trans B2 b3
            clear b3  B2
            go_wp2_with fail
            refine (C4.out _ B3).mono ?_
            rintro e v4 ⟨rfl, b4⟩
            have B4 := Bl.trans B3 b4
            clear b4  B3
            go_wp2_with fail
            refine (C5.out _ B4).mono ?_
            rintro e v5 ⟨rfl, b5⟩
            have B5 := Bl.trans B4 b5
            clear b5  B4
            go_wp2_with fail
            refine (C6.out _ B5).mono ?_
            rintro e v6 ⟨rfl, b6⟩
            have B6 := Bl.trans B5 b6
            clear b6  B5
            go_wp2_with fail
            refine (C7.out _ B6).mono ?_
            rintro e v7 ⟨rfl, b7⟩
            have B7 := Bl.trans B6 b7
            clear b7  B6
            go_wp2_with fail
            refine (C8.out _ B7).mono ?_
            rintro e v8 ⟨rfl, b8⟩
            have B8 := Bl.trans B7 b8
            clear b8  B7
            go_wp2_with fail
            refine (awake_any _ (hT.bl B8)).mono ?_
            rintro e v9 ⟨rfl, b9⟩
            have B9 := Bl.trans B8 b9
            clear b9  B8
            go_wp2_with fail
            refine (D1.out _ B9).mono ?_
            rintro e v10 ⟨rfl, b10⟩
            have B10 := Bl.trans B9 b10
            clear b10  B9
            go_wp2_with fail
            refine (D2.out _ B10).mono ?_
            rintro e v11 ⟨rfl, b11⟩
            have B11 := Bl.trans B10 b11
            clear b11  B10
            go_wp2_with fail
            refine (D3.out _ B11).mono ?_
            rintro e v12 ⟨rfl, b12⟩
            have B12 := Bl.trans B11 b12
            clear b12  B11
            go_wp2_with fail
            refine (D2.out _ B12).mono ?_
            rintro e v13 ⟨rfl, b13⟩
            have B13 := Bl.trans B12 b13
            clear b13  B12
            go_wp2_with fail
            go_ret
            exact ⟨rfl, B13⟩
          · subst g1
            subst g2
            subst g3
            go_enter Tryd.func6, Tryd.ntmps6
            go_wp2_with fail
            refine (lt.out _).mono ?_
            rintro e w' ⟨rfl, rfl⟩
            go_wp2_with fail
            refine (C1.out _ (Bl.refl _)).mono ?_
            rintro e v1 ⟨rfl, b1⟩
            have B1 := Bl.trans (Bl.refl _) b1
            clear b1
            go_wp2_with fail
            refine (C2.out _ B1).mono ?_
            rintro e v2 ⟨rfl, b2⟩
            have B2 := Bl.trans B1 b2
            clear b2  B1
            go_wp2_with fail
            refine (C3.out _ B2).mono ?_
            rintro e v3 ⟨rfl, b3⟩
            have B3 := Bl.trans B2 b3
            clear b3  B2
            go_wp2_with fail
            refine (C4.out _ B3).mono ?_
            rintro e v4 ⟨rfl, b4⟩
            have B4 := Bl.trans B3 b4
            clear b4  B3
            go_wp2_with fail
            refine (C5.out _ B4).mono ?_
            rintro e v5 ⟨rfl, b5⟩
            have B5 := Bl.trans B4 b5
            clear b5  B4
            go_wp2_with fail
            refine (C6.out _ B5).mono ?_
            rintro e v6 ⟨rfl, b6⟩
            have B6 := Bl.trans B5 b6
            clear b6  B5
            go_wp2_with fail
            refine (C7.out _ B6).mono ?_
            rintro e v7 ⟨rfl, b7⟩
            have B7 := Bl.trans B6 b7
            clear b7  B6
            go_wp2_with fail
            refine (C8.out _ B7).mono ?_
            rintro e v8 ⟨rfl, b8⟩
            have B8 := Bl.trans B7 b8
            clear b8  B7
            go_wp2_with fail
            refine (C9.out _ B8).mono ?_
            rintro e v9 ⟨rfl, b9⟩
            have B9 := Bl.trans B8 b9
            clear b9  B8
            go_wp2_with fail
            refine (awake_any _ (hT.bl B9)).mono ?_
            rintro e v10 ⟨rfl, b10⟩
            have B10 := Bl.trans B9 b10
            clear b10  B9
            go_wp2_with fail
            refine (D1.out _ B10).mono ?_
            rintro e v11 ⟨rfl, b11⟩
            have B11 := Bl.trans B10 b11
            clear b11  B10
            go_wp2_with fail
            refine (D2.out _ B11).mono ?_
            rintro e v12 ⟨rfl, b12⟩
            have B12 := Bl.trans B11 b12
            clear b12  B11
            go_wp2_with fail
            refine (D3.out _ B12).mono ?_
            rintro e v13 ⟨rfl, b13⟩
            have B13 := Bl.trans B12 b13
            clear b13  B12
            go_wp2_with fail
            refine (D2.out _ B13).mono ?_
            rintro e v14 ⟨rfl, b14⟩
            have B14 := Bl.trans B13 b14
            clear b14  B13
            go_wp2_with fail
            go_ret
            exact ⟨rfl, B14⟩
    · have lt := hid (light_no a0 a1 a2 hs)
      go_enter Tryd.func6, Tryd.ntmps6
      go_wp2_with fail
      refine (lt.out _).mono ?_
      rintro e w' ⟨rfl, rfl⟩
      go_wp2_with fail
      refine (awake_any _ (hT.bl (Bl.refl _))).mono ?_
      rintro e v1 ⟨rfl, b1⟩
      have B1 := Bl.trans (Bl.refl _) b1
      clear b1
      go_wp2_with fail
      go_ret
      exact ⟨rfl, B1⟩
  · have ip : (200 : Int) < (a3.size : Int) := by omega
    have lt := hid (light_any a0 a1 a2)
    generalize decide (a0.size ≤ 200 ∧ a1.size ≤ 200 ∧ a2.size ≤ 200) = Y at *
    cases Y
    · go_enter Tryd.func6, Tryd.ntmps6
      go_wp2_with fail
      refine (lt.out _).mono ?_
      rintro e w' ⟨rfl, rfl⟩
      go_wp2_with fail
      refine (awake_any _ (hT.bl (Bl.refl _))).mono ?_
      rintro e v1 ⟨rfl, b1⟩
      have B1 := Bl.trans (Bl.refl _) b1
      clear b1
      go_wp2_with fail
      go_ret
      exact ⟨rfl, B1⟩
    · go_enter Tryd.func6, Tryd.ntmps6
      go_wp2_with fail
      refine (lt.out _).mono ?_
      rintro e w' ⟨rfl, rfl⟩
      go_wp2_with fail
      refine (awake_any _ (hT.bl (Bl.refl _))).mono ?_
      rintro e v1 ⟨rfl, b1⟩
      have B1 := Bl.trans (Bl.refl _) b1
      clear b1
      go_wp2_with fail
      go_ret
      exact ⟨rfl, B1⟩

set_option maxRecDepth 100000 in
theorem contract (H : Type) (enc : TypeId × Value → H) (W : World) (base : Nat) (args : Array Value) (ds gs : List (DataW H)) (before : List MemPlace)
    (hval0 : ∀ (j : Nat) t v, Tryd.f6.params[j]? = some t → args[j]? = some v → Value.okWide Tryd.prog W .any base t v)
    (hW : DataW.Whole enc Tryd.prog Tryd.f6.params.toList Rows.nameRunsSpec.vars false W args.toList ds gs before) (hsz0 : (DataW.weightsEach Tryd.prog (Tryd.f6.params.toList ++ Rows.nameRunsSpec.plain.varTypes Tryd.prog) (ds ++ gs)).all (· ≤ reachBytes) = true) (hL : laidMetH Tryd.prog Rows.nameRunsRow.laid W) (hSh : W.ShapedOpen Tryd.prog) :
    Calls Tryd.prog 6 args W fun e W' => ∃ v, e = .returned v ∧ Rows.nameRunsSpec.post enc Tryd.prog Tryd.f6 false true false false W args v W' := by
  have hsz := hsz0
  have hval : ∀ (j : Nat) t v, Tryd.f6.params[j]? = some t → args[j]? = some v → Value.okWide Tryd.prog W .any base t v := hval0
  have hW' := hW
  obtain ⟨p, q, hA0, hV, rfl, hfz, hnd⟩ := hW
  have hA : DataW.TrodAll enc Tryd.prog W 0 (fun _ => true) true Tryd.f6.params.toList args.toList ds p := hA0
  rw [Tryd.params6] at hA hval hsz
  obtain ⟨v0, vs0, d0, ds0, p0, q0, hargs, rfl, rfl, h0, r0⟩ := trodAll_cons hA
  obtain ⟨v1, vs1, d1, ds1, p1, q1, rfl, rfl, rfl, h1, r1⟩ := trodAll_cons r0
  obtain ⟨v2, vs2, d2, ds2, p2, q2, rfl, rfl, rfl, h2, r2⟩ := trodAll_cons r1
  obtain ⟨v3, vs3, d3, ds3, p3, q3, rfl, rfl, rfl, h3, r3⟩ := trodAll_cons r2
  obtain ⟨rfl, rfl, rfl⟩ := trodAll_nil r3
  obtain rfl : args = #[v0, v1, v2, v3] := by cases args; simp_all
  obtain ⟨rfl, rfl⟩ := trodVars_none hV
  obtain ⟨a0, rfl, rfl, rfl, w0⟩ := open_string Tryd.underlying9 (hval 0 9 v0 rfl rfl) h0
  have b0 : a0.size ≤ 140737488351232 := by have := sized_string hsz (j := 0) (t := 9) rfl rfl; first | (simpa using this) | (simpa [reachBytes] using this)
  obtain ⟨a1, rfl, rfl, rfl, w1⟩ := open_string Tryd.underlying9 (hval 1 9 v1 rfl rfl) h1
  have b1 : a1.size ≤ 140737488351232 := by have := sized_string hsz (j := 1) (t := 9) rfl rfl; first | (simpa using this) | (simpa [reachBytes] using this)
  obtain ⟨a2, rfl, rfl, rfl, w2⟩ := open_string Tryd.underlying9 (hval 2 9 v2 rfl rfl) h2
  have b2 : a2.size ≤ 140737488351232 := by have := sized_string hsz (j := 2) (t := 9) rfl rfl; first | (simpa using this) | (simpa [reachBytes] using this)
  obtain ⟨a3, rfl, rfl, rfl, w3⟩ := open_string Tryd.underlying9 (hval 3 9 v3 rfl rfl) h3
  have b3 : a3.size ≤ 140737488351232 := by have := sized_string hsz (j := 3) (t := 9) rfl rfl; first | (simpa using this) | (simpa [reachBytes] using this)
  clear hA0 hval0
  refine (walk a0 a1 a2 a3 W b0 b1 b2 b3 (nt hL hSh)).mono fun e W' ⟨he, bel⟩ => ?_
  subst he
  exact ⟨_, rfl, _, _, _, [], _, [], hW', trodAll_mk1 (shut_bool Tryd.underlying4 _), (trodAll_cons_mk (shut_string Tryd.underlying9 w0) (trodAll_cons_mk (shut_string Tryd.underlying9 w1) (trodAll_cons_mk (shut_string Tryd.underlying9 w2) (trodAll_cons_mk (shut_string Tryd.underlying9 w3) trodAll_mk0)))), rfl, Below.frame bel _, fun h => by cases h⟩

theorem laid_met (os : Os) : laidMet Tryd.prog Rows.nameRunsRow.laid ((laidN os).forCall (fun _ _ => 0) ⟨#[], #[.string ByteArray.empty, .string ByteArray.empty, .string ByteArray.empty, .string ByteArray.empty], []⟩).memory :=
  laidMet_of_run' 8 (by kernel_rfl) (by kernel_rfl)
theorem reads (os : Os) {H : Type} (enc : TypeId × Value → H) : ∃ places, DataW.whole enc Tryd.prog ((laidN os).forCall (fun _ _ => 0) ⟨#[], #[.string ByteArray.empty, .string ByteArray.empty, .string ByteArray.empty, .string ByteArray.empty], []⟩).memory Tryd.f6.params.toList Rows.nameRunsSpec.vars false (#[.string ByteArray.empty, .string ByteArray.empty, .string ByteArray.empty, .string ByteArray.empty] : Array Value).toList 8 = some ([.lit (.string []), .lit (.string []), .lit (.string []), .lit (.string [])], [], places) :=
  ⟨[], by kernel_rfl⟩
set_option maxRecDepth 100000 in
theorem lifted (os : Os) (started : os.Started) (H : Type) (enc : TypeId × Value → H) (F : Stop.Interp) :
    ReturnsInHanded {} Tryd.checked os 6 .any ((OpenSpec.ofChange Rows.nameRunsSpec).preRow enc Tryd.prog Tryd.f6 Rows.nameRunsRow.domain false Rows.nameRunsRow.laid) (((OpenSpec.ofChange Rows.nameRunsSpec).at F).post enc Tryd.prog Tryd.f6 false true false false) := by
  obtain ⟨places, hx⟩ := reads os enc
  refine returnsInHanded_of_row (C := Tryd.checked) (s := OpenSpec.ofChange Rows.nameRunsSpec) own started (by kernel_rfl) Tryd.func6
    (witness_row_at (enc := enc) (C := Tryd.checked) false (laidN os) #[.string ByteArray.empty, .string ByteArray.empty, .string ByteArray.empty, .string ByteArray.empty] rfl (by kernel_rfl) (by kernel_rfl) (by kernel_rfl)
      (OpenSpec.preRow_of_cond 8 hx (by kernel_rfl) (fun k hk => by cases hk) (by kernel_rfl) (laid_met os))) ?_
  intro W base args ds gs before hval hW _ hcond hsz hL hSh _
  exact contract H enc W base args ds gs before hval hW hsz hL hSh
theorem said : Rows.NameRunsSaid :=
  OpenClaim.holds_of_cond 6 Tryd.f6 rfl rfl rfl rfl rfl rfl rfl ⟨rfl, rfl, rfl, rfl, rfl⟩ rfl rfl rfl rfl rfl (by kernel_rfl) Tryd.func6 (by kernel_rfl)
    (of_decide_eq_true (by kernel_rfl)) (by unfold Func.isWrapper; first | (rw [if_pos (by decide +kernel)]; kernel_rfl) | (rw [if_neg (by decide +kernel)]; exact ⟨rfl, rfl⟩))
    (fun os started H enc _ F => by rw [OpenClaim.pre_eq_preRow]; exact lifted os started H enc F)
theorem plain (f : FuncId) (fn : Func) (hf : Tryd.pinned.checked.prog.funcNamed "mapsheets/mapsheetslaw07.NameRuns" = some f) (hfn : Tryd.pinned.checked.prog.funcs[f]? = some fn) :
    false = Tryd.pinned.checked.prog.looks [] ∧ ∀ (j : Nat) t, fn.params[j]? = some t → Tryd.pinned.checked.prog.wantsStandIn t = false := by
  obtain rfl : f = 6 := Option.some.inj ((show Tryd.prog.funcNamed "mapsheets/mapsheetslaw07.NameRuns" = some 6 by kernel_rfl).symm.trans hf) |>.symm
  obtain rfl : fn = Tryd.f6 := (Option.some.inj (Tryd.func6.symm.trans hfn)).symm
  refine ⟨by kernel_rfl, fun j t ht => ?_⟩
  rw [Tryd.params6] at ht
  have hm : t ∈ [9, 9, 9, 9] := by simpa using Array.mem_of_getElem? ht
  have hall : ([9, 9, 9, 9].all fun u => !Tryd.prog.wantsStandIn u) = true := by kernel_rfl
  exact (show Tryd.prog.wantsStandIn t = false by simpa using List.all_eq_true.1 hall t hm)
theorem card : Rows.NameRunsCardSaid :=
  Claim7.holds_tied_plain_at .later [] _ _ _ _ said (fun _ h => by cases h) (by kernel_rfl) (fun _ h => by cases h) nameRuns_row_tie rfl ⟨rfl, rfl⟩ (by kernel_rfl) rfl plain (by kernel_rfl)
end Go.Proofs.YtjbkpiimjkekgaaDoor.NameRuns
