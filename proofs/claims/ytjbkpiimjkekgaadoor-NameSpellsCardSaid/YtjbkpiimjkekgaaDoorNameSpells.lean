/- Names that differ in marks and cases have the same key, and one begins with the other. -/
import Derived.Test.YtjbkpiimjkekgaaDoorNLight
import Derived.Test.YtjbkpiimjkekgaaDoorWArgs
import Derived.ChangeOld
namespace Go.Proofs.YtjbkpiimjkekgaaDoor.NameSpells
open Go.ChangeShapes Go.WideShapes Go.ChangeAt Go.RowKit
open Go.ChangeMaps (open_string shut_string)
open Go.Proofs.YtjbkpiimjkekgaaDoor.Wire
open Go.Proofs.YtjbkpiimjkekgaaDoor.Glyph
open Go.Proofs.YtjbkpiimjkekgaaDoor.Name
set_option linter.unusedVariables false
set_option linter.unusedSimpArgs false

set_option maxRecDepth 100000 in
set_option maxHeartbeats 8000000 in
theorem walk (a0 : Int) (a1 : ByteArray) (w : World) (w0 : (Lit.int .u8 a0).wf = true) (b1 : a1.size ≤ 140737488351232) (hT : NT w) :
    Calls Tryd.prog 9 #[.int .u8 a0, .string a1] w fun e w' => e = .returned (.bool true) ∧ Bl w w' := by
  have N0 := wf_u8 w0
  by_cases h30 : 30 < a1.size
  · have i1 : (30 : Int) < (a1.size : Int) := by omega
    go_enter Tryd.func9, Tryd.ntmps9
    go_wp2_with fail
    refine (awake_any _ (hT.bl (Bl.refl _))).mono ?_
    rintro e v1 ⟨rfl, b1⟩
    have B1 := Bl.trans (Bl.refl _) b1
    clear b1
    go_wp2_with fail
    go_ret
    exact ⟨rfl, B1⟩
  · have i1 : ¬ (30 : Int) < (a1.size : Int) := by omega
    have hz : (⟨#[97, 98]⟩ ++ a1 : ByteArray).size = 2 + a1.size := by rw [ByteArray.size_append]; rfl
    have c1 := fun w' (bw : Bl w w') => Check_any (⟨#[97, 98]⟩ ++ a1) w' (by omega) (hT.bl bw)
    by_cases h0 : chk (sb (⟨#[97, 98]⟩ ++ a1)) = 0
    · rw [h0] at c1
      have C1 := hid c1
      clear c1
      have hr : a0 % 7 = 0 ∨ a0 % 7 = 1 ∨ a0 % 7 = 2 ∨ a0 % 7 = 3 ∨ a0 % 7 = 4 ∨ a0 % 7 = 5 ∨ a0 % 7 = 6 := by omega
      have c2 := fun w' (bw : Bl w w') => Key_any (⟨#[97, 98]⟩ ++ a1) w' (by omega) (hT.bl bw)
      have hsb : sb (⟨#[97, 98]⟩ ++ a1 : ByteArray) = [97, 98] ++ sb a1 := by rw [sb_cat]; rfl
      rcases hr with hr | hr | hr | hr | hr | hr | hr
      · have hs' : sb (⟨#[65]⟩ ++ ⟨#[32]⟩ ++ ⟨#[98]⟩ ++ a1 : ByteArray) = [65] ++ [32] ++ [98] ++ sb a1 := by rw [sb_cat, sb_cat, sb_cat]; rfl
        have hz' : (⟨#[65]⟩ ++ ⟨#[32]⟩ ++ ⟨#[98]⟩ ++ a1 : ByteArray).size ≤ 40 := by
          rw [ByteArray.size_append, ByteArray.size_append, ByteArray.size_append]
          show 1 + 1 + 1 + a1.size ≤ 40
          omega
        have sp := spells (S := sb a1) (m := [32]) (by simp) (by rw [← hsb]; exact h0) (by rw [sb_len]; omega)
        rw [← hs', ← hsb] at sp
        have c3 := fun w' (bw : Bl w w') => Key_any (⟨#[65]⟩ ++ ⟨#[32]⟩ ++ ⟨#[98]⟩ ++ a1 : ByteArray) w' (by omega) (hT.bl bw)
        have b1 := fun w' (bw : Bl w w') => beg_at (⟨#[65]⟩ ++ ⟨#[32]⟩ ++ ⟨#[98]⟩ ++ a1 : ByteArray) (⟨#[97, 98]⟩ ++ a1) true (by omega) (by omega) (by rw [beg_ok]; exact ⟨sp.1, .inr ⟨h0, by rw [sp.2]; exact List.prefix_rfl⟩⟩) w' (hT.bl bw)
        have b2 := fun w' (bw : Bl w w') => beg_at (⟨#[97, 98]⟩ ++ a1) (⟨#[65]⟩ ++ ⟨#[32]⟩ ++ ⟨#[98]⟩ ++ a1 : ByteArray) true (by omega) (by omega) (by rw [beg_ok]; exact ⟨h0, .inr ⟨sp.1, by rw [sp.2]; exact List.prefix_rfl⟩⟩) w' (hT.bl bw)
        unfold KeyOut at c2 c3
        rw [sp.1, sp.2] at c3
        rw [h0] at c2
        have lk := key_len40 (sb (⟨#[97, 98]⟩ ++ a1))
        generalize key (sb (⟨#[97, 98]⟩ ++ a1)) = K at *
        have C2 := hid c2
        have C3 := hid c3
        have D1 := hid b1
        have D2 := hid b2
        clear c2 c3 b1 b2 sp h0 hs' hsb
        go_enter Tryd.func9, Tryd.ntmps9
        go_wp2_with fail
        refine (C1.out _ (Bl.refl _)).mono ?_
        rintro e v1 ⟨rfl, b1⟩
        have B1 := Bl.trans (Bl.refl _) b1
        clear b1
        go_wp2_with fail
        refine (C3.out _ (B1.alloc _)).mono ?_
        rintro e v2 ⟨A_P, c_P, rfl, h_P, hc_P, b2⟩
        have B2 := Bl.trans (B1.alloc _) b2
        clear b2
        go_wp2_with fail
        refine (C2.out _ B2).mono ?_
        rintro e v3 ⟨A_R, c_R, rfl, h_R, hc_R, b3⟩
        have B3 := Bl.trans B2 b3
        have h_P_3 := h_P.bl b3
        clear b3  B2
        go_wp2_with fail
        refine (awake_any _ (hT.bl B3)).mono ?_
        rintro e v4 ⟨rfl, b4⟩
        have B4 := Bl.trans B3 b4
        have h_P_4 := h_P_3.bl b4
        have h_R_4 := h_R.bl b4
        clear b4 h_P_3 B3
        go_wp2_with fail
        refine (Idset.Same_yes _ _ _ _ _ _ _ _ _ h_P_4 h_R_4 (by omega) (by omega) rfl).mono ?_
        rintro e v5 ⟨rfl, b5⟩
        have B5 := Bl.trans B4 b5.bl
        have h_P_5 := h_P_4.bl b5.bl
        have h_R_5 := h_R_4.bl b5.bl
        clear b5 h_P_4 h_R_4 B4
        go_wp2_with fail
        refine (D1.out _ B5).mono ?_
        rintro e v6 ⟨rfl, b6⟩
        have B6 := Bl.trans B5 b6
        clear b6  B5
        go_wp2_with fail
        refine (D2.out _ B6).mono ?_
        rintro e v7 ⟨rfl, b7⟩
        have B7 := Bl.trans B6 b7
        clear b7  B6
        go_wp2_with fail
        go_ret
        exact ⟨rfl, B7⟩
      · have hs' : sb (⟨#[65]⟩ ++ ⟨#[39]⟩ ++ ⟨#[98]⟩ ++ a1 : ByteArray) = [65] ++ [39] ++ [98] ++ sb a1 := by rw [sb_cat, sb_cat, sb_cat]; rfl
        have hz' : (⟨#[65]⟩ ++ ⟨#[39]⟩ ++ ⟨#[98]⟩ ++ a1 : ByteArray).size ≤ 40 := by
          rw [ByteArray.size_append, ByteArray.size_append, ByteArray.size_append]
          show 1 + 1 + 1 + a1.size ≤ 40
          omega
        have sp := spells (S := sb a1) (m := [39]) (by simp) (by rw [← hsb]; exact h0) (by rw [sb_len]; omega)
        rw [← hs', ← hsb] at sp
        have c3 := fun w' (bw : Bl w w') => Key_any (⟨#[65]⟩ ++ ⟨#[39]⟩ ++ ⟨#[98]⟩ ++ a1 : ByteArray) w' (by omega) (hT.bl bw)
        have b1 := fun w' (bw : Bl w w') => beg_at (⟨#[65]⟩ ++ ⟨#[39]⟩ ++ ⟨#[98]⟩ ++ a1 : ByteArray) (⟨#[97, 98]⟩ ++ a1) true (by omega) (by omega) (by rw [beg_ok]; exact ⟨sp.1, .inr ⟨h0, by rw [sp.2]; exact List.prefix_rfl⟩⟩) w' (hT.bl bw)
        have b2 := fun w' (bw : Bl w w') => beg_at (⟨#[97, 98]⟩ ++ a1) (⟨#[65]⟩ ++ ⟨#[39]⟩ ++ ⟨#[98]⟩ ++ a1 : ByteArray) true (by omega) (by omega) (by rw [beg_ok]; exact ⟨h0, .inr ⟨sp.1, by rw [sp.2]; exact List.prefix_rfl⟩⟩) w' (hT.bl bw)
        unfold KeyOut at c2 c3
        rw [sp.1, sp.2] at c3
        rw [h0] at c2
        have lk := key_len40 (sb (⟨#[97, 98]⟩ ++ a1))
        generalize key (sb (⟨#[97, 98]⟩ ++ a1)) = K at *
        have C2 := hid c2
        have C3 := hid c3
        have D1 := hid b1
        have D2 := hid b2
        clear c2 c3 b1 b2 sp h0 hs' hsb
        go_enter Tryd.func9, Tryd.ntmps9
        go_wp2_with fail
        refine (C1.out _ (Bl.refl _)).mono ?_
        rintro e v1 ⟨rfl, b1⟩
        have B1 := Bl.trans (Bl.refl _) b1
        clear b1
        go_wp2_with fail
        refine (C3.out _ (B1.alloc _)).mono ?_
        rintro e v2 ⟨A_P, c_P, rfl, h_P, hc_P, b2⟩
        have B2 := Bl.trans (B1.alloc _) b2
        clear b2
        go_wp2_with fail
        refine (C2.out _ B2).mono ?_
        rintro e v3 ⟨A_R, c_R, rfl, h_R, hc_R, b3⟩
        have B3 := Bl.trans B2 b3
        have h_P_3 := h_P.bl b3
        clear b3  B2
        go_wp2_with fail
        refine (awake_any _ (hT.bl B3)).mono ?_
        rintro e v4 ⟨rfl, b4⟩
        have B4 := Bl.trans B3 b4
        have h_P_4 := h_P_3.bl b4
        have h_R_4 := h_R.bl b4
        clear b4 h_P_3 B3
        go_wp2_with fail
        refine (Idset.Same_yes _ _ _ _ _ _ _ _ _ h_P_4 h_R_4 (by omega) (by omega) rfl).mono ?_
        rintro e v5 ⟨rfl, b5⟩
        have B5 := Bl.trans B4 b5.bl
        have h_P_5 := h_P_4.bl b5.bl
        have h_R_5 := h_R_4.bl b5.bl
        clear b5 h_P_4 h_R_4 B4
        go_wp2_with fail
        refine (D1.out _ B5).mono ?_
        rintro e v6 ⟨rfl, b6⟩
        have B6 := Bl.trans B5 b6
        clear b6  B5
        go_wp2_with fail
        refine (D2.out _ B6).mono ?_
        rintro e v7 ⟨rfl, b7⟩
        have B7 := Bl.trans B6 b7
        clear b7  B6
        go_wp2_with fail
        go_ret
        exact ⟨rfl, B7⟩
      · have hs' : sb (⟨#[65]⟩ ++ ⟨#[45]⟩ ++ ⟨#[98]⟩ ++ a1 : ByteArray) = [65] ++ [45] ++ [98] ++ sb a1 := by rw [sb_cat, sb_cat, sb_cat]; rfl
        have hz' : (⟨#[65]⟩ ++ ⟨#[45]⟩ ++ ⟨#[98]⟩ ++ a1 : ByteArray).size ≤ 40 := by
          rw [ByteArray.size_append, ByteArray.size_append, ByteArray.size_append]
          show 1 + 1 + 1 + a1.size ≤ 40
          omega
        have sp := spells (S := sb a1) (m := [45]) (by simp) (by rw [← hsb]; exact h0) (by rw [sb_len]; omega)
        rw [← hs', ← hsb] at sp
        have c3 := fun w' (bw : Bl w w') => Key_any (⟨#[65]⟩ ++ ⟨#[45]⟩ ++ ⟨#[98]⟩ ++ a1 : ByteArray) w' (by omega) (hT.bl bw)
        have b1 := fun w' (bw : Bl w w') => beg_at (⟨#[65]⟩ ++ ⟨#[45]⟩ ++ ⟨#[98]⟩ ++ a1 : ByteArray) (⟨#[97, 98]⟩ ++ a1) true (by omega) (by omega) (by rw [beg_ok]; exact ⟨sp.1, .inr ⟨h0, by rw [sp.2]; exact List.prefix_rfl⟩⟩) w' (hT.bl bw)
        have b2 := fun w' (bw : Bl w w') => beg_at (⟨#[97, 98]⟩ ++ a1) (⟨#[65]⟩ ++ ⟨#[45]⟩ ++ ⟨#[98]⟩ ++ a1 : ByteArray) true (by omega) (by omega) (by rw [beg_ok]; exact ⟨h0, .inr ⟨sp.1, by rw [sp.2]; exact List.prefix_rfl⟩⟩) w' (hT.bl bw)
        unfold KeyOut at c2 c3
        rw [sp.1, sp.2] at c3
        rw [h0] at c2
        have lk := key_len40 (sb (⟨#[97, 98]⟩ ++ a1))
        generalize key (sb (⟨#[97, 98]⟩ ++ a1)) = K at *
        have C2 := hid c2
        have C3 := hid c3
        have D1 := hid b1
        have D2 := hid b2
        clear c2 c3 b1 b2 sp h0 hs' hsb
        go_enter Tryd.func9, Tryd.ntmps9
        go_wp2_with fail
        refine (C1.out _ (Bl.refl _)).mono ?_
        rintro e v1 ⟨rfl, b1⟩
        have B1 := Bl.trans (Bl.refl _) b1
        clear b1
        go_wp2_with fail
        refine (C3.out _ (B1.alloc _)).mono ?_
        rintro e v2 ⟨A_P, c_P, rfl, h_P, hc_P, b2⟩
        have B2 := Bl.trans (B1.alloc _) b2
        clear b2
        go_wp2_with fail
        refine (C2.out _ B2).mono ?_
        rintro e v3 ⟨A_R, c_R, rfl, h_R, hc_R, b3⟩
        have B3 := Bl.trans B2 b3
        have h_P_3 := h_P.bl b3
        clear b3  B2
        go_wp2_with fail
        refine (awake_any _ (hT.bl B3)).mono ?_
        rintro e v4 ⟨rfl, b4⟩
        have B4 := Bl.trans B3 b4
        have h_P_4 := h_P_3.bl b4
        have h_R_4 := h_R.bl b4
        clear b4 h_P_3 B3
        go_wp2_with fail
        refine (Idset.Same_yes _ _ _ _ _ _ _ _ _ h_P_4 h_R_4 (by omega) (by omega) rfl).mono ?_
        rintro e v5 ⟨rfl, b5⟩
        have B5 := Bl.trans B4 b5.bl
        have h_P_5 := h_P_4.bl b5.bl
        have h_R_5 := h_R_4.bl b5.bl
        clear b5 h_P_4 h_R_4 B4
        go_wp2_with fail
        refine (D1.out _ B5).mono ?_
        rintro e v6 ⟨rfl, b6⟩
        have B6 := Bl.trans B5 b6
        clear b6  B5
        go_wp2_with fail
        refine (D2.out _ B6).mono ?_
        rintro e v7 ⟨rfl, b7⟩
        have B7 := Bl.trans B6 b7
        clear b7  B6
        go_wp2_with fail
        go_ret
        exact ⟨rfl, B7⟩
      · have hs' : sb (⟨#[65]⟩ ++ ⟨#[46]⟩ ++ ⟨#[98]⟩ ++ a1 : ByteArray) = [65] ++ [46] ++ [98] ++ sb a1 := by rw [sb_cat, sb_cat, sb_cat]; rfl
        have hz' : (⟨#[65]⟩ ++ ⟨#[46]⟩ ++ ⟨#[98]⟩ ++ a1 : ByteArray).size ≤ 40 := by
          rw [ByteArray.size_append, ByteArray.size_append, ByteArray.size_append]
          show 1 + 1 + 1 + a1.size ≤ 40
          omega
        have sp := spells (S := sb a1) (m := [46]) (by simp) (by rw [← hsb]; exact h0) (by rw [sb_len]; omega)
        rw [← hs', ← hsb] at sp
        have c3 := fun w' (bw : Bl w w') => Key_any (⟨#[65]⟩ ++ ⟨#[46]⟩ ++ ⟨#[98]⟩ ++ a1 : ByteArray) w' (by omega) (hT.bl bw)
        have b1 := fun w' (bw : Bl w w') => beg_at (⟨#[65]⟩ ++ ⟨#[46]⟩ ++ ⟨#[98]⟩ ++ a1 : ByteArray) (⟨#[97, 98]⟩ ++ a1) true (by omega) (by omega) (by rw [beg_ok]; exact ⟨sp.1, .inr ⟨h0, by rw [sp.2]; exact List.prefix_rfl⟩⟩) w' (hT.bl bw)
        have b2 := fun w' (bw : Bl w w') => beg_at (⟨#[97, 98]⟩ ++ a1) (⟨#[65]⟩ ++ ⟨#[46]⟩ ++ ⟨#[98]⟩ ++ a1 : ByteArray) true (by omega) (by omega) (by rw [beg_ok]; exact ⟨h0, .inr ⟨sp.1, by rw [sp.2]; exact List.prefix_rfl⟩⟩) w' (hT.bl bw)
        unfold KeyOut at c2 c3
        rw [sp.1, sp.2] at c3
        rw [h0] at c2
        have lk := key_len40 (sb (⟨#[97, 98]⟩ ++ a1))
        generalize key (sb (⟨#[97, 98]⟩ ++ a1)) = K at *
        have C2 := hid c2
        have C3 := hid c3
        have D1 := hid b1
        have D2 := hid b2
        clear c2 c3 b1 b2 sp h0 hs' hsb
        go_enter Tryd.func9, Tryd.ntmps9
        go_wp2_with fail
        refine (C1.out _ (Bl.refl _)).mono ?_
        rintro e v1 ⟨rfl, b1⟩
        have B1 := Bl.trans (Bl.refl _) b1
        clear b1
        go_wp2_with fail
        refine (C3.out _ (B1.alloc _)).mono ?_
        rintro e v2 ⟨A_P, c_P, rfl, h_P, hc_P, b2⟩
        have B2 := Bl.trans (B1.alloc _) b2
        clear b2
        go_wp2_with fail
        refine (C2.out _ B2).mono ?_
        rintro e v3 ⟨A_R, c_R, rfl, h_R, hc_R, b3⟩
        have B3 := Bl.trans B2 b3
        have h_P_3 := h_P.bl b3
        clear b3  B2
        go_wp2_with fail
        refine (awake_any _ (hT.bl B3)).mono ?_
        rintro e v4 ⟨rfl, b4⟩
        have B4 := Bl.trans B3 b4
        have h_P_4 := h_P_3.bl b4
        have h_R_4 := h_R.bl b4
        clear b4 h_P_3 B3
        go_wp2_with fail
        refine (Idset.Same_yes _ _ _ _ _ _ _ _ _ h_P_4 h_R_4 (by omega) (by omega) rfl).mono ?_
        rintro e v5 ⟨rfl, b5⟩
        have B5 := Bl.trans B4 b5.bl
        have h_P_5 := h_P_4.bl b5.bl
        have h_R_5 := h_R_4.bl b5.bl
        clear b5 h_P_4 h_R_4 B4
        go_wp2_with fail
        refine (D1.out _ B5).mono ?_
        rintro e v6 ⟨rfl, b6⟩
        have B6 := Bl.trans B5 b6
        clear b6  B5
        go_wp2_with fail
        refine (D2.out _ B6).mono ?_
        rintro e v7 ⟨rfl, b7⟩
        have B7 := Bl.trans B6 b7
        clear b7  B6
        go_wp2_with fail
        go_ret
        exact ⟨rfl, B7⟩
      · have hs' : sb (⟨#[65]⟩ ++ ⟨#[40]⟩ ++ ⟨#[98]⟩ ++ a1 : ByteArray) = [65] ++ [40] ++ [98] ++ sb a1 := by rw [sb_cat, sb_cat, sb_cat]; rfl
        have hz' : (⟨#[65]⟩ ++ ⟨#[40]⟩ ++ ⟨#[98]⟩ ++ a1 : ByteArray).size ≤ 40 := by
          rw [ByteArray.size_append, ByteArray.size_append, ByteArray.size_append]
          show 1 + 1 + 1 + a1.size ≤ 40
          omega
        have sp := spells (S := sb a1) (m := [40]) (by simp) (by rw [← hsb]; exact h0) (by rw [sb_len]; omega)
        rw [← hs', ← hsb] at sp
        have c3 := fun w' (bw : Bl w w') => Key_any (⟨#[65]⟩ ++ ⟨#[40]⟩ ++ ⟨#[98]⟩ ++ a1 : ByteArray) w' (by omega) (hT.bl bw)
        have b1 := fun w' (bw : Bl w w') => beg_at (⟨#[65]⟩ ++ ⟨#[40]⟩ ++ ⟨#[98]⟩ ++ a1 : ByteArray) (⟨#[97, 98]⟩ ++ a1) true (by omega) (by omega) (by rw [beg_ok]; exact ⟨sp.1, .inr ⟨h0, by rw [sp.2]; exact List.prefix_rfl⟩⟩) w' (hT.bl bw)
        have b2 := fun w' (bw : Bl w w') => beg_at (⟨#[97, 98]⟩ ++ a1) (⟨#[65]⟩ ++ ⟨#[40]⟩ ++ ⟨#[98]⟩ ++ a1 : ByteArray) true (by omega) (by omega) (by rw [beg_ok]; exact ⟨h0, .inr ⟨sp.1, by rw [sp.2]; exact List.prefix_rfl⟩⟩) w' (hT.bl bw)
        unfold KeyOut at c2 c3
        rw [sp.1, sp.2] at c3
        rw [h0] at c2
        have lk := key_len40 (sb (⟨#[97, 98]⟩ ++ a1))
        generalize key (sb (⟨#[97, 98]⟩ ++ a1)) = K at *
        have C2 := hid c2
        have C3 := hid c3
        have D1 := hid b1
        have D2 := hid b2
        clear c2 c3 b1 b2 sp h0 hs' hsb
        go_enter Tryd.func9, Tryd.ntmps9
        go_wp2_with fail
        refine (C1.out _ (Bl.refl _)).mono ?_
        rintro e v1 ⟨rfl, b1⟩
        have B1 := Bl.trans (Bl.refl _) b1
        clear b1
        go_wp2_with fail
        refine (C3.out _ (B1.alloc _)).mono ?_
        rintro e v2 ⟨A_P, c_P, rfl, h_P, hc_P, b2⟩
        have B2 := Bl.trans (B1.alloc _) b2
        clear b2
        go_wp2_with fail
        refine (C2.out _ B2).mono ?_
        rintro e v3 ⟨A_R, c_R, rfl, h_R, hc_R, b3⟩
        have B3 := Bl.trans B2 b3
        have h_P_3 := h_P.bl b3
        clear b3  B2
        go_wp2_with fail
        refine (awake_any _ (hT.bl B3)).mono ?_
        rintro e v4 ⟨rfl, b4⟩
        have B4 := Bl.trans B3 b4
        have h_P_4 := h_P_3.bl b4
        have h_R_4 := h_R.bl b4
        clear b4 h_P_3 B3
        go_wp2_with fail
        refine (Idset.Same_yes _ _ _ _ _ _ _ _ _ h_P_4 h_R_4 (by omega) (by omega) rfl).mono ?_
        rintro e v5 ⟨rfl, b5⟩
        have B5 := Bl.trans B4 b5.bl
        have h_P_5 := h_P_4.bl b5.bl
        have h_R_5 := h_R_4.bl b5.bl
        clear b5 h_P_4 h_R_4 B4
        go_wp2_with fail
        refine (D1.out _ B5).mono ?_
        rintro e v6 ⟨rfl, b6⟩
        have B6 := Bl.trans B5 b6
        clear b6  B5
        go_wp2_with fail
        refine (D2.out _ B6).mono ?_
        rintro e v7 ⟨rfl, b7⟩
        have B7 := Bl.trans B6 b7
        clear b7  B6
        go_wp2_with fail
        go_ret
        exact ⟨rfl, B7⟩
      · have hs' : sb (⟨#[65]⟩ ++ ⟨#[41]⟩ ++ ⟨#[98]⟩ ++ a1 : ByteArray) = [65] ++ [41] ++ [98] ++ sb a1 := by rw [sb_cat, sb_cat, sb_cat]; rfl
        have hz' : (⟨#[65]⟩ ++ ⟨#[41]⟩ ++ ⟨#[98]⟩ ++ a1 : ByteArray).size ≤ 40 := by
          rw [ByteArray.size_append, ByteArray.size_append, ByteArray.size_append]
          show 1 + 1 + 1 + a1.size ≤ 40
          omega
        have sp := spells (S := sb a1) (m := [41]) (by simp) (by rw [← hsb]; exact h0) (by rw [sb_len]; omega)
        rw [← hs', ← hsb] at sp
        have c3 := fun w' (bw : Bl w w') => Key_any (⟨#[65]⟩ ++ ⟨#[41]⟩ ++ ⟨#[98]⟩ ++ a1 : ByteArray) w' (by omega) (hT.bl bw)
        have b1 := fun w' (bw : Bl w w') => beg_at (⟨#[65]⟩ ++ ⟨#[41]⟩ ++ ⟨#[98]⟩ ++ a1 : ByteArray) (⟨#[97, 98]⟩ ++ a1) true (by omega) (by omega) (by rw [beg_ok]; exact ⟨sp.1, .inr ⟨h0, by rw [sp.2]; exact List.prefix_rfl⟩⟩) w' (hT.bl bw)
        have b2 := fun w' (bw : Bl w w') => beg_at (⟨#[97, 98]⟩ ++ a1) (⟨#[65]⟩ ++ ⟨#[41]⟩ ++ ⟨#[98]⟩ ++ a1 : ByteArray) true (by omega) (by omega) (by rw [beg_ok]; exact ⟨h0, .inr ⟨sp.1, by rw [sp.2]; exact List.prefix_rfl⟩⟩) w' (hT.bl bw)
        unfold KeyOut at c2 c3
        rw [sp.1, sp.2] at c3
        rw [h0] at c2
        have lk := key_len40 (sb (⟨#[97, 98]⟩ ++ a1))
        generalize key (sb (⟨#[97, 98]⟩ ++ a1)) = K at *
        have C2 := hid c2
        have C3 := hid c3
        have D1 := hid b1
        have D2 := hid b2
        clear c2 c3 b1 b2 sp h0 hs' hsb
        go_enter Tryd.func9, Tryd.ntmps9
        go_wp2_with fail
        refine (C1.out _ (Bl.refl _)).mono ?_
        rintro e v1 ⟨rfl, b1⟩
        have B1 := Bl.trans (Bl.refl _) b1
        clear b1
        go_wp2_with fail
        refine (C3.out _ (B1.alloc _)).mono ?_
        rintro e v2 ⟨A_P, c_P, rfl, h_P, hc_P, b2⟩
        have B2 := Bl.trans (B1.alloc _) b2
        clear b2
        go_wp2_with fail
        refine (C2.out _ B2).mono ?_
        rintro e v3 ⟨A_R, c_R, rfl, h_R, hc_R, b3⟩
        have B3 := Bl.trans B2 b3
        have h_P_3 := h_P.bl b3
        clear b3  B2
        go_wp2_with fail
        refine (awake_any _ (hT.bl B3)).mono ?_
        rintro e v4 ⟨rfl, b4⟩
        have B4 := Bl.trans B3 b4
        have h_P_4 := h_P_3.bl b4
        have h_R_4 := h_R.bl b4
        clear b4 h_P_3 B3
        go_wp2_with fail
        refine (Idset.Same_yes _ _ _ _ _ _ _ _ _ h_P_4 h_R_4 (by omega) (by omega) rfl).mono ?_
        rintro e v5 ⟨rfl, b5⟩
        have B5 := Bl.trans B4 b5.bl
        have h_P_5 := h_P_4.bl b5.bl
        have h_R_5 := h_R_4.bl b5.bl
        clear b5 h_P_4 h_R_4 B4
        go_wp2_with fail
        refine (D1.out _ B5).mono ?_
        rintro e v6 ⟨rfl, b6⟩
        have B6 := Bl.trans B5 b6
        clear b6  B5
        go_wp2_with fail
        refine (D2.out _ B6).mono ?_
        rintro e v7 ⟨rfl, b7⟩
        have B7 := Bl.trans B6 b7
        clear b7  B6
        go_wp2_with fail
        go_ret
        exact ⟨rfl, B7⟩
      · have hs' : sb (⟨#[65]⟩ ++ ⟨#[]⟩ ++ ⟨#[98]⟩ ++ a1 : ByteArray) = [65] ++ [] ++ [98] ++ sb a1 := by rw [sb_cat, sb_cat, sb_cat]; rfl
        have hz' : (⟨#[65]⟩ ++ ⟨#[]⟩ ++ ⟨#[98]⟩ ++ a1 : ByteArray).size ≤ 40 := by
          rw [ByteArray.size_append, ByteArray.size_append, ByteArray.size_append]
          show 1 + 0 + 1 + a1.size ≤ 40
          omega
        have sp := spells (S := sb a1) (m := []) (by simp) (by rw [← hsb]; exact h0) (by rw [sb_len]; omega)
        rw [← hs', ← hsb] at sp
        have c3 := fun w' (bw : Bl w w') => Key_any (⟨#[65]⟩ ++ ⟨#[]⟩ ++ ⟨#[98]⟩ ++ a1 : ByteArray) w' (by omega) (hT.bl bw)
        have b1 := fun w' (bw : Bl w w') => beg_at (⟨#[65]⟩ ++ ⟨#[]⟩ ++ ⟨#[98]⟩ ++ a1 : ByteArray) (⟨#[97, 98]⟩ ++ a1) true (by omega) (by omega) (by rw [beg_ok]; exact ⟨sp.1, .inr ⟨h0, by rw [sp.2]; exact List.prefix_rfl⟩⟩) w' (hT.bl bw)
        have b2 := fun w' (bw : Bl w w') => beg_at (⟨#[97, 98]⟩ ++ a1) (⟨#[65]⟩ ++ ⟨#[]⟩ ++ ⟨#[98]⟩ ++ a1 : ByteArray) true (by omega) (by omega) (by rw [beg_ok]; exact ⟨h0, .inr ⟨sp.1, by rw [sp.2]; exact List.prefix_rfl⟩⟩) w' (hT.bl bw)
        unfold KeyOut at c2 c3
        rw [sp.1, sp.2] at c3
        rw [h0] at c2
        have lk := key_len40 (sb (⟨#[97, 98]⟩ ++ a1))
        generalize key (sb (⟨#[97, 98]⟩ ++ a1)) = K at *
        have C2 := hid c2
        have C3 := hid c3
        have D1 := hid b1
        have D2 := hid b2
        clear c2 c3 b1 b2 sp h0 hs' hsb
        go_enter Tryd.func9, Tryd.ntmps9
        go_wp2_with fail
        refine (C1.out _ (Bl.refl _)).mono ?_
        rintro e v1 ⟨rfl, b1⟩
        have B1 := Bl.trans (Bl.refl _) b1
        clear b1
        go_wp2_with fail
        refine (C3.out _ (B1.alloc _)).mono ?_
        rintro e v2 ⟨A_P, c_P, rfl, h_P, hc_P, b2⟩
        have B2 := Bl.trans (B1.alloc _) b2
        clear b2
        go_wp2_with fail
        refine (C2.out _ B2).mono ?_
        rintro e v3 ⟨A_R, c_R, rfl, h_R, hc_R, b3⟩
        have B3 := Bl.trans B2 b3
        have h_P_3 := h_P.bl b3
        clear b3  B2
        go_wp2_with fail
        refine (awake_any _ (hT.bl B3)).mono ?_
        rintro e v4 ⟨rfl, b4⟩
        have B4 := Bl.trans B3 b4
        have h_P_4 := h_P_3.bl b4
        have h_R_4 := h_R.bl b4
        clear b4 h_P_3 B3
        go_wp2_with fail
        refine (Idset.Same_yes _ _ _ _ _ _ _ _ _ h_P_4 h_R_4 (by omega) (by omega) rfl).mono ?_
        rintro e v5 ⟨rfl, b5⟩
        have B5 := Bl.trans B4 b5.bl
        have h_P_5 := h_P_4.bl b5.bl
        have h_R_5 := h_R_4.bl b5.bl
        clear b5 h_P_4 h_R_4 B4
        go_wp2_with fail
        refine (D1.out _ B5).mono ?_
        rintro e v6 ⟨rfl, b6⟩
        have B6 := Bl.trans B5 b6
        clear b6  B5
        go_wp2_with fail
        refine (D2.out _ B6).mono ?_
        rintro e v7 ⟨rfl, b7⟩
        have B7 := Bl.trans B6 b7
        clear b7  B6
        go_wp2_with fail
        go_ret
        exact ⟨rfl, B7⟩
    · generalize chk (sb (⟨#[97, 98]⟩ ++ a1)) = X at *
      have t0 : (X == 0) = false := by simpa using h0
      have C1 := hid c1
      clear c1
      go_enter Tryd.func9, Tryd.ntmps9
      go_wp2_with fail
      refine (C1.out _ (Bl.refl _)).mono ?_
      rintro e v1 ⟨rfl, b1⟩
      have B1 := Bl.trans (Bl.refl _) b1
      clear b1
      go_wp2_with fail
      refine (awake_any _ (hT.bl B1)).mono ?_
      rintro e v2 ⟨rfl, b2⟩
      have B2 := Bl.trans B1 b2
      clear b2  B1
      go_wp2_with fail
      go_ret
      exact ⟨rfl, B2⟩

set_option maxRecDepth 100000 in
theorem contract (H : Type) (enc : TypeId × Value → H) (W : World) (base : Nat) (args : Array Value) (ds gs : List (DataW H)) (before : List MemPlace)
    (hval0 : ∀ (j : Nat) t v, Tryd.f9.params[j]? = some t → args[j]? = some v → Value.okWide Tryd.prog W .any base t v)
    (hW : DataW.Whole enc Tryd.prog Tryd.f9.params.toList Rows.nameSpellsSpec.vars false W args.toList ds gs before) (hsz0 : (DataW.weightsEach Tryd.prog (Tryd.f9.params.toList ++ Rows.nameSpellsSpec.plain.varTypes Tryd.prog) (ds ++ gs)).all (· ≤ reachBytes) = true) (hL : laidMetH Tryd.prog Rows.nameSpellsRow.laid W) (hSh : W.ShapedOpen Tryd.prog) :
    Calls Tryd.prog 9 args W fun e W' => ∃ v, e = .returned v ∧ Rows.nameSpellsSpec.post enc Tryd.prog Tryd.f9 false true false false W args v W' := by
  have hsz := hsz0
  have hval : ∀ (j : Nat) t v, Tryd.f9.params[j]? = some t → args[j]? = some v → Value.okWide Tryd.prog W .any base t v := hval0
  have hW' := hW
  obtain ⟨p, q, hA0, hV, rfl, hfz, hnd⟩ := hW
  have hA : DataW.TrodAll enc Tryd.prog W 0 (fun _ => true) true Tryd.f9.params.toList args.toList ds p := hA0
  rw [Tryd.params9] at hA hval hsz
  obtain ⟨v0, vs0, d0, ds0, p0, q0, hargs, rfl, rfl, h0, r0⟩ := trodAll_cons hA
  obtain ⟨v1, vs1, d1, ds1, p1, q1, rfl, rfl, rfl, h1, r1⟩ := trodAll_cons r0
  obtain ⟨rfl, rfl, rfl⟩ := trodAll_nil r1
  obtain rfl : args = #[v0, v1] := by cases args; simp_all
  obtain ⟨rfl, rfl⟩ := trodVars_none hV
  obtain ⟨a0, rfl, rfl, rfl, w0⟩ := open_int Tryd.underlying5 (hval 0 5 v0 rfl rfl) h0
  obtain ⟨a1, rfl, rfl, rfl, w1⟩ := open_string Tryd.underlying9 (hval 1 9 v1 rfl rfl) h1
  have b1 : a1.size ≤ 140737488351232 := by have := sized_string hsz (j := 1) (t := 9) rfl rfl; first | (simpa using this) | (simpa [reachBytes] using this)
  clear hA0 hval0
  refine (walk a0 a1 W w0 b1 (nt hL hSh)).mono fun e W' ⟨he, bel⟩ => ?_
  subst he
  exact ⟨_, rfl, _, _, _, [], _, [], hW', trodAll_mk1 (shut_bool Tryd.underlying4 _), (trodAll_cons_mk (shut_int Tryd.underlying5 w0) (trodAll_cons_mk (shut_string Tryd.underlying9 w1) trodAll_mk0)), rfl, Below.frame bel _, fun h => by cases h⟩

theorem laid_met (os : Os) : laidMet Tryd.prog Rows.nameSpellsRow.laid ((laidN os).forCall (fun _ _ => 0) ⟨#[], #[.int .u8 0, .string ByteArray.empty], []⟩).memory :=
  laidMet_of_run' 8 (by kernel_rfl) (by kernel_rfl)
theorem reads (os : Os) {H : Type} (enc : TypeId × Value → H) : ∃ places, DataW.whole enc Tryd.prog ((laidN os).forCall (fun _ _ => 0) ⟨#[], #[.int .u8 0, .string ByteArray.empty], []⟩).memory Tryd.f9.params.toList Rows.nameSpellsSpec.vars false (#[.int .u8 0, .string ByteArray.empty] : Array Value).toList 8 = some ([.lit (.int .u8 0), .lit (.string [])], [], places) :=
  ⟨[], by kernel_rfl⟩
set_option maxRecDepth 100000 in
theorem lifted (os : Os) (started : os.Started) (H : Type) (enc : TypeId × Value → H) (F : Stop.Interp) :
    ReturnsInHanded {} Tryd.checked os 9 .any ((OpenSpec.ofChange Rows.nameSpellsSpec).preRow enc Tryd.prog Tryd.f9 Rows.nameSpellsRow.domain false Rows.nameSpellsRow.laid) (((OpenSpec.ofChange Rows.nameSpellsSpec).at F).post enc Tryd.prog Tryd.f9 false true false false) := by
  obtain ⟨places, hx⟩ := reads os enc
  refine returnsInHanded_of_row (C := Tryd.checked) (s := OpenSpec.ofChange Rows.nameSpellsSpec) own started (by kernel_rfl) Tryd.func9
    (witness_row_at (enc := enc) (C := Tryd.checked) false (laidN os) #[.int .u8 0, .string ByteArray.empty] rfl (by kernel_rfl) (by kernel_rfl) (by kernel_rfl)
      (OpenSpec.preRow_of_cond 8 hx (by kernel_rfl) (fun k hk => by cases hk) (by kernel_rfl) (laid_met os))) ?_
  intro W base args ds gs before hval hW _ hcond hsz hL hSh _
  exact contract H enc W base args ds gs before hval hW hsz hL hSh
theorem said : Rows.NameSpellsSaid :=
  OpenClaim.holds_of_cond 9 Tryd.f9 rfl rfl rfl rfl rfl rfl rfl ⟨rfl, rfl, rfl, rfl, rfl⟩ rfl rfl rfl rfl rfl (by kernel_rfl) Tryd.func9 (by kernel_rfl)
    (of_decide_eq_true (by kernel_rfl)) (by unfold Func.isWrapper; first | (rw [if_pos (by decide +kernel)]; kernel_rfl) | (rw [if_neg (by decide +kernel)]; exact ⟨rfl, rfl⟩))
    (fun os started H enc _ F => by rw [OpenClaim.pre_eq_preRow]; exact lifted os started H enc F)
theorem plain (f : FuncId) (fn : Func) (hf : Tryd.pinned.checked.prog.funcNamed "mapsheets/mapsheetslaw07.NameSpells" = some f) (hfn : Tryd.pinned.checked.prog.funcs[f]? = some fn) :
    false = Tryd.pinned.checked.prog.looks [] ∧ ∀ (j : Nat) t, fn.params[j]? = some t → Tryd.pinned.checked.prog.wantsStandIn t = false := by
  obtain rfl : f = 9 := Option.some.inj ((show Tryd.prog.funcNamed "mapsheets/mapsheetslaw07.NameSpells" = some 9 by kernel_rfl).symm.trans hf) |>.symm
  obtain rfl : fn = Tryd.f9 := (Option.some.inj (Tryd.func9.symm.trans hfn)).symm
  refine ⟨by kernel_rfl, fun j t ht => ?_⟩
  rw [Tryd.params9] at ht
  have hm : t ∈ [5, 9] := by simpa using Array.mem_of_getElem? ht
  have hall : ([5, 9].all fun u => !Tryd.prog.wantsStandIn u) = true := by kernel_rfl
  exact (show Tryd.prog.wantsStandIn t = false by simpa using List.all_eq_true.1 hall t hm)
theorem card : Rows.NameSpellsCardSaid :=
  Claim7.holds_tied_plain_at .later [] _ _ _ _ said (fun _ h => by cases h) (by kernel_rfl) (fun _ h => by cases h) nameSpells_row_tie rfl ⟨rfl, rfl⟩ (by kernel_rfl) rfl plain (by kernel_rfl)
end Go.Proofs.YtjbkpiimjkekgaaDoor.NameSpells
