/- Union, Normal. -/
import Derived.Test.YtdfnmohgkjonfaaSSort
import Derived.Test.YtdfnmohgkjonfaaSLaw
import Derived.RegionTactic
namespace Go.Proofs.Ytdfnmohgkjonfaa.Span
open Go.RowKit
open Go.Proofs.Ytdfnmohgkjonfaa.Wire
set_option linter.unusedVariables false

theorem infoR2 : (Try.prog.info? 34).map (·.size) = some 2 := by kernel_rfl
theorem two_copies {X F G : List Value} {n m : Nat} (hX : X.length = (n + m) * 2) (hF : F.length = n * 2) (hG : G.length = m * 2) :
  (X.take (0 * 2) ++ (F ++ X.drop ((0 + n) * 2))).take (n * 2) ++ (G ++ (X.take (0 * 2) ++ (F ++ X.drop ((0 + n) * 2))).drop ((n + m) * 2)) = F ++ G := by
  have e1 : X.take (0 * 2) = [] := by simp
  rw [e1, List.nil_append, List.take_append_of_le_length (by omega), List.take_of_length_le (by omega), List.drop_eq_nil_of_le (by simp [hX, hF]; omega), List.append_nil]

theorem mrg_set {L : List Pr} {r : Pr} {j : Nat} (hl : L.length = j + 1) (h : r.1 ≤ (L.getD j (0, 0)).2) : mrg L r = L.set j ((L.getD j (0, 0)).1, max (L.getD j (0, 0)).2 r.2) := by
  unfold mrg lst
  rw [show L.length - 1 = j by omega, if_pos ⟨by omega, h⟩]
theorem mrg_app {L : List Pr} {r : Pr} (h : ¬ (0 < L.length ∧ r.1 ≤ (L.getD (L.length - 1) (0, 0)).2)) : mrg L r = L ++ [r] := by
  unfold mrg lst
  rw [if_neg h]

set_option maxHeartbeats 4000000 in
theorem Union_any (A : Option Addr) (n c : Nat) (ps : List Pr) (A1 : Option Addr) (n1 c1 : Nat) (qs : List Pr) (w : World) (hS : ShP w w.heap.size A n ps) (hS1 : ShP w w.heap.size A1 n1 qs) (hc : n ≤ c) (hc1 : n1 ≤ c1) (ho : okp ps) (ho1 : okp qs) (hm : n ≤ 67108864) (hm1 : n1 ≤ 67108864) :
  Calls Try.prog 22 #[.slice A n c, .slice A1 n1 c1] w (OutP w (uni ps qs)) := by
  have hl := hS.len
  have hl1 := hS1.len
  have hF : (fl ps).length = n * 2 := by rw [fl_len, hl]
  have hG : (fl qs).length = n1 * 2 := by rw [fl_len, hl1]
  have hfin : Hid (∀ S : List Pr, S.Perm ((ps ++ qs).filter ne) → S.Pairwise (fun p q => p.1 ≤ q.1) → mrgs S = uni ps qs) := hid fun S h1 h2 => mrgs_uni h1 h2
  have HF := hid hF
  have HG := hid hG
  have hfl := hid (fl_app ps qs)
  clear hl hl1 hF hG
  obtain ⟨ht, i, hi, hz, hs2, hb⟩ := elR
  go_enter Try.func22, Try.ntmps22
  by_cases hn1 : n1 = 0
  · subst hn1
    have hqs : qs = [] := List.eq_nil_of_length_eq_zero hS1.len
    go_wp2_with (first
      | (at_make; refine wpList_make_full _ rfl _ _ 22 rfl w.heap.size 34 i (.agg #[.int .i64 0, .int .i64 0]) 2 ht hi hz hs2 _ _ _ _ (n) rfl rfl (by omega) (by omega) (by rw [hb]; omega) (by unfold maxLen; omega) (Nat.le_refl _) ?_; intro w0 hown0 hgrow0; have hb0 : Bl w w0 := (Below.refl w.heap.size w).grown hgrow0 (Nat.le_refl _) (fun g hk => by cases hk))
      | ((with_reducible show wpList _ _ _ (⟨some 17, Op.call { callee := Callee.builtin Builtin.copy, args := _, argTypes := _ }, _, _, _, _⟩ :: _) _ _); refine wpList_copyP _ rfl (.tmp 15) (.tmp 16) 22 34 rfl ht infoR2 rfl rfl (off := 0) (B := w.heap.size) (g := w.heap.size) (n := n) hown0 (hS.bl hb0) (fun _ => rfl) (by omega) (by omega) ?_; intro w1 hr1 hb1; have hb01 : Bl w w1 := Below.trans hb0 hb1)
      | ((with_reducible show wpList _ _ _ (⟨some 23, Op.call { callee := Callee.builtin Builtin.copy, args := _, argTypes := _ }, _, _, _, _⟩ :: _) _ _); refine wpList_copyP _ rfl (.tmp 21) (.tmp 22) 22 34 rfl ht infoR2 rfl rfl (off := n) (B := w.heap.size) (g := w.heap.size) (n := n) hr1 (hS1.bl hb01) (fun h => absurd h (by omega)) (by omega) (by omega) ?_; intro w2 hr2 hb2; have hb02 : Bl w w2 := Below.trans hb01 hb2)
      | (go_at_call 33; have hr3 := hr2; rw [two_copies (n := n) (m := 0) (by simp [madeCells]) HF.out HG.out, ← hfl.out] at hr3; refine (Delete_any w.heap.size (n) (ps ++ qs) w2 w.heap.size hr3.own (by omega)).mono ?_; rintro e w3 ⟨m, rfl, ho3, hb3⟩; have hb03 : Bl w w3 := Below.trans hb02 hb3; have hml := ho3.cap)
      | (go_at_call 34; refine (Sort_any w.heap.size m (n) _ w3 w.heap.size ho3 (by omega)).mono ?_; rintro e w4 ⟨rfl, S, hperm, hsrt, ho4, hb4⟩))
    clear hr1 hr2 hb0 hb1 hb01 hb2 hb02 hown0 hgrow0
    have hSl := ho4.len
    have HSL := hid hSl
    have HSh := hid ho4.sh
    have hfin2 := hid (hfin.out S hperm hsrt)
    have hb04 : Bl w w4 := Below.trans hb03 hb4
    have hmN : m ≤ 134217728 := by omega
    clear hSl ho4 hb4 hb03 ho3 hb3 hperm hsrt hfin hS hS1
    go_loopw [4, 30] (fun a b wr => ∃ (A' : Option Addr) (m' c' k : Nat) (L : List Pr), a = .slice A' m' c' ∧ b = .int .i64 k ∧ k ≤ m ∧ m' ≤ k ∧ Hid (L = mrgs (S.take k)) ∧ OwP wr w4.heap.size 34 A' m' c' L ∧ Bl w4 wr) (fun _ b _ => m - (intOf b).toNat)
    case atStart => exact ⟨none, 0, 0, 0, [], rfl, rfl, by omega, by omega, hid rfl, OwP.none_ _ _ _, Bl.refl _⟩
    case round =>
      obtain ⟨A', m', c', k, L, rfl, rfl, hk, hmk, hL, hoL, hbL⟩ := hrel
      have hszL := hbL.size
      by_cases hlt : k < m
      · obtain ⟨b, o, hA, hbB, hcell⟩ := (HSh.out.bl hbL).2 (by omega)
        injection hA with hA
        injection hA with hA hA2
        subst hA hA2
        have hc1 := (hcell k hlt).1
        have hc2 := (hcell k hlt).2
        rw [Nat.zero_add] at hc1 hc2
        have hsn := hid (show mrgs (S.take (k + 1)) = mrg L (S.getD k (0, 0)) by rw [take_snocP (by rw [HSL.out]; exact hlt), mrgs_snoc, hL.out])
        clear hcell
        generalize S.getD k (0, 0) = r at *
        obtain ⟨x, y⟩ := r
        simp only at hc1 hc2
        have hml := hid hoL.len
        by_cases hm0 : m' = 0
        · subst hm0
          have hst := hid (mrg_app (L := L) (r := (x, y)) (by rw [hml.out]; rintro ⟨h, _⟩; omega))
          have HOL := hid hoL
          have hbA : Bl wr (wr.alloc (.cells #[.int .i64 x, .int .i64 y] 34)) := (Bl.refl wr).alloc _
          clear hoL
          go_wp2_with fail
          go_quiet (fail)
          go_wp2_with (at_builtin; refine wpList_appP_own _ rfl (.tmp 61) (.tmp 63) _ rfl elR rfl ((HOL.out.alloc _).drewN _ |>.alloc _) rfl (ShP.oneAt _ _ _ _ _ (by simp)) (by omega) (by simp; omega) ?_; intro A2 c2 w6 ho6 hb6)
          go_roundw
          case rel => exact ⟨A2, 0 + 1, c2, k + 1, _, rfl, by go_num, by omega, by omega, hid hsn.out.symm, by rw [hst.out]; exact ho6, Below.trans (((hbL.alloc _).drewN _).alloc _) hb6⟩
          case measure => simp [intOf]; omega
        · obtain ⟨j, hj⟩ : ∃ j, m' = j + 1 := ⟨m' - 1, by omega⟩
          subst hj
          obtain ⟨g, rfl, hg, hgl⟩ := hoL.form (by omega)
          by_cases hx : x ≤ (L.getD j (0, 0)).2
          · have hst := hid (mrg_set (L := L) (r := (x, y)) hml.out hx)
            have q1 := (hoL.alloc (.cells #[.int .i64 x, .int .i64 y] 34)).hi (j := j) (by omega)
            have q2 := (hoL.alloc (.cells #[.int .i64 x, .int .i64 y] 34)).free (j * 2 + 1)
            generalize hz' : (L.getD j (0, 0)).2 = z at *
            have hz2 := hid hz'
            have HOL := hid hoL
            clear hoL hz' hm0
            go_wp2_with fail
            go_quiet (fail)
            go_wp2_with fail
            go_region
            go_wp2_with fail
            go_roundw
            case rel => exact ⟨some ⟨g, 0, none⟩, j + 1, c', k + 1, _, rfl, by go_num, by omega, by omega, hid hsn.out.symm, by rw [hst.out]; exact (((HOL.out.alloc _).drewN _).setHi (by omega) _), Below.setCell ((hbL.alloc _).drewN _) hg _⟩
            case measure => simp [intOf]; omega
          · have hst := hid (mrg_app (L := L) (r := (x, y)) (by rw [hml.out]; rintro ⟨_, h⟩; exact hx h))
            have q1 := (hoL.alloc (.cells #[.int .i64 x, .int .i64 y] 34)).hi (j := j) (by omega)
            generalize (L.getD j (0, 0)).2 = z at *
            have t1 : decide (x ≤ z) = false := by simpa using hx
            have HOL := hid hoL
            clear hoL hm0 hx
            go_wp2_with fail
            go_quiet (fail)
            go_wp2_with (at_builtin; refine wpList_appP_own _ rfl (.tmp 61) (.tmp 63) _ rfl elR rfl ((HOL.out.alloc _).drewN _ |>.alloc _) rfl (ShP.oneAt _ _ _ _ _ (by simp)) (by omega) (by simp; omega) ?_; intro A2 c2 w6 ho6 hb6)
            go_roundw
            case rel => exact ⟨A2, j + 1 + 1, c2, k + 1, _, rfl, by go_num, by omega, by omega, hid hsn.out.symm, by rw [hst.out]; exact ho6, Below.trans (((hbL.alloc _).drewN _).alloc _) hb6⟩
            case measure => simp [intOf]; omega
      · obtain rfl : m = k := by omega
        go_wp2_with fail
        go_ret
        have h1 := hL.out
        rw [take_allP (by rw [HSL.out]; exact Nat.le_refl _), hfin2.out] at h1
        rw [← h1]
        exact hoL.out (hb04.trans hbL)
  · have hcut : decide (n = n + n1) = false := by simpa using hn1
    go_wp2_with (first
      | (at_make; refine wpList_make_full _ rfl _ _ 22 rfl w.heap.size 34 i (.agg #[.int .i64 0, .int .i64 0]) 2 ht hi hz hs2 _ _ _ _ (n + n1) rfl rfl (by omega) (by omega) (by rw [hb]; omega) (by unfold maxLen; omega) (Nat.le_refl _) ?_; intro w0 hown0 hgrow0; have hb0 : Bl w w0 := (Below.refl w.heap.size w).grown hgrow0 (Nat.le_refl _) (fun g hk => by cases hk))
      | ((with_reducible show wpList _ _ _ (⟨some 17, Op.call { callee := Callee.builtin Builtin.copy, args := _, argTypes := _ }, _, _, _, _⟩ :: _) _ _); refine wpList_copyP _ rfl (.tmp 15) (.tmp 16) 22 34 rfl ht infoR2 rfl rfl (off := 0) (B := w.heap.size) (g := w.heap.size) (n := n + n1) hown0 (hS.bl hb0) (fun _ => rfl) (by omega) (by omega) ?_; intro w1 hr1 hb1; have hb01 : Bl w w1 := Below.trans hb0 hb1)
      | ((with_reducible show wpList _ _ _ (⟨some 23, Op.call { callee := Callee.builtin Builtin.copy, args := _, argTypes := _ }, _, _, _, _⟩ :: _) _ _); refine wpList_copyP _ rfl (.tmp 21) (.tmp 22) 22 34 rfl ht infoR2 rfl rfl (off := n) (B := w.heap.size) (g := w.heap.size) (n := n + n1) hr1 (hS1.bl hb01) (fun _ => rfl) (by omega) (by omega) ?_; intro w2 hr2 hb2; have hb02 : Bl w w2 := Below.trans hb01 hb2)
      | (go_at_call 33; have hr3 := hr2; rw [two_copies (n := n) (m := n1) (by simp [madeCells]) HF.out HG.out, ← hfl.out] at hr3; refine (Delete_any w.heap.size (n + n1) (ps ++ qs) w2 w.heap.size hr3.own (by omega)).mono ?_; rintro e w3 ⟨m, rfl, ho3, hb3⟩; have hb03 : Bl w w3 := Below.trans hb02 hb3; have hml := ho3.cap)
      | (go_at_call 34; refine (Sort_any w.heap.size m (n + n1) _ w3 w.heap.size ho3 (by omega)).mono ?_; rintro e w4 ⟨rfl, S, hperm, hsrt, ho4, hb4⟩))
    clear hr1 hr2 hb0 hb1 hb01 hb2 hb02 hown0 hgrow0
    have hSl := ho4.len
    have HSL := hid hSl
    have HSh := hid ho4.sh
    have hfin2 := hid (hfin.out S hperm hsrt)
    have hb04 : Bl w w4 := Below.trans hb03 hb4
    have hmN : m ≤ 134217728 := by omega
    clear hSl ho4 hb4 hb03 ho3 hb3 hperm hsrt hfin hS hS1
    go_loopw [4, 30] (fun a b wr => ∃ (A' : Option Addr) (m' c' k : Nat) (L : List Pr), a = .slice A' m' c' ∧ b = .int .i64 k ∧ k ≤ m ∧ m' ≤ k ∧ Hid (L = mrgs (S.take k)) ∧ OwP wr w4.heap.size 34 A' m' c' L ∧ Bl w4 wr) (fun _ b _ => m - (intOf b).toNat)
    case atStart => exact ⟨none, 0, 0, 0, [], rfl, rfl, by omega, by omega, hid rfl, OwP.none_ _ _ _, Bl.refl _⟩
    case round =>
      obtain ⟨A', m', c', k, L, rfl, rfl, hk, hmk, hL, hoL, hbL⟩ := hrel
      have hszL := hbL.size
      by_cases hlt : k < m
      · obtain ⟨b, o, hA, hbB, hcell⟩ := (HSh.out.bl hbL).2 (by omega)
        injection hA with hA
        injection hA with hA hA2
        subst hA hA2
        have hc1 := (hcell k hlt).1
        have hc2 := (hcell k hlt).2
        rw [Nat.zero_add] at hc1 hc2
        have hsn := hid (show mrgs (S.take (k + 1)) = mrg L (S.getD k (0, 0)) by rw [take_snocP (by rw [HSL.out]; exact hlt), mrgs_snoc, hL.out])
        clear hcell
        generalize S.getD k (0, 0) = r at *
        obtain ⟨x, y⟩ := r
        simp only at hc1 hc2
        have hml := hid hoL.len
        by_cases hm0 : m' = 0
        · subst hm0
          have hst := hid (mrg_app (L := L) (r := (x, y)) (by rw [hml.out]; rintro ⟨h, _⟩; omega))
          have HOL := hid hoL
          have hbA : Bl wr (wr.alloc (.cells #[.int .i64 x, .int .i64 y] 34)) := (Bl.refl wr).alloc _
          clear hoL
          go_wp2_with fail
          go_quiet (fail)
          go_wp2_with (at_builtin; refine wpList_appP_own _ rfl (.tmp 61) (.tmp 63) _ rfl elR rfl ((HOL.out.alloc _).drewN _ |>.alloc _) rfl (ShP.oneAt _ _ _ _ _ (by simp)) (by omega) (by simp; omega) ?_; intro A2 c2 w6 ho6 hb6)
          go_roundw
          case rel => exact ⟨A2, 0 + 1, c2, k + 1, _, rfl, by go_num, by omega, by omega, hid hsn.out.symm, by rw [hst.out]; exact ho6, Below.trans (((hbL.alloc _).drewN _).alloc _) hb6⟩
          case measure => simp [intOf]; omega
        · obtain ⟨j, hj⟩ : ∃ j, m' = j + 1 := ⟨m' - 1, by omega⟩
          subst hj
          obtain ⟨g, rfl, hg, hgl⟩ := hoL.form (by omega)
          by_cases hx : x ≤ (L.getD j (0, 0)).2
          · have hst := hid (mrg_set (L := L) (r := (x, y)) hml.out hx)
            have q1 := (hoL.alloc (.cells #[.int .i64 x, .int .i64 y] 34)).hi (j := j) (by omega)
            have q2 := (hoL.alloc (.cells #[.int .i64 x, .int .i64 y] 34)).free (j * 2 + 1)
            generalize hz' : (L.getD j (0, 0)).2 = z at *
            have hz2 := hid hz'
            have HOL := hid hoL
            clear hoL hz' hm0
            go_wp2_with fail
            go_quiet (fail)
            go_wp2_with fail
            go_region
            go_wp2_with fail
            go_roundw
            case rel => exact ⟨some ⟨g, 0, none⟩, j + 1, c', k + 1, _, rfl, by go_num, by omega, by omega, hid hsn.out.symm, by rw [hst.out]; exact (((HOL.out.alloc _).drewN _).setHi (by omega) _), Below.setCell ((hbL.alloc _).drewN _) hg _⟩
            case measure => simp [intOf]; omega
          · have hst := hid (mrg_app (L := L) (r := (x, y)) (by rw [hml.out]; rintro ⟨_, h⟩; exact hx h))
            have q1 := (hoL.alloc (.cells #[.int .i64 x, .int .i64 y] 34)).hi (j := j) (by omega)
            generalize (L.getD j (0, 0)).2 = z at *
            have t1 : decide (x ≤ z) = false := by simpa using hx
            have HOL := hid hoL
            clear hoL hm0 hx
            go_wp2_with fail
            go_quiet (fail)
            go_wp2_with (at_builtin; refine wpList_appP_own _ rfl (.tmp 61) (.tmp 63) _ rfl elR rfl ((HOL.out.alloc _).drewN _ |>.alloc _) rfl (ShP.oneAt _ _ _ _ _ (by simp)) (by omega) (by simp; omega) ?_; intro A2 c2 w6 ho6 hb6)
            go_roundw
            case rel => exact ⟨A2, j + 1 + 1, c2, k + 1, _, rfl, by go_num, by omega, by omega, hid hsn.out.symm, by rw [hst.out]; exact ho6, Below.trans (((hbL.alloc _).drewN _).alloc _) hb6⟩
            case measure => simp [intOf]; omega
      · obtain rfl : m = k := by omega
        go_wp2_with fail
        go_ret
        have h1 := hL.out
        rw [take_allP (by rw [HSL.out]; exact Nat.le_refl _), hfin2.out] at h1
        rw [← h1]
        exact hoL.out (hb04.trans hbL)

theorem Normal_any (A : Option Addr) (n c : Nat) (ps : List Pr) (w : World) (hS : ShP w w.heap.size A n ps) (hc : n ≤ c) (ho : okp ps) (hm : n ≤ 67108864) :
    Calls Try.prog 16 #[.slice A n c] w (OutP w (nor ps)) := by
  have r := Union_any A n c ps none 0 0 [] w hS (ShP.nil _ _ _) hc (Nat.le_refl _) ho (fun p hp => by cases hp) hm (by omega)
  rw [uni_empty] at r
  generalize nor ps = E at *
  go_enter Try.func16, Try.ntmps16
  go_wp2_with fail
  refine r.mono ?_
  rintro e w2 ⟨A2, c2, rfl, hs2, hc2, hb2⟩
  go_wp2_with fail
  go_ret
  exact ⟨A2, c2, rfl, hs2, hc2, hb2⟩
end Go.Proofs.Ytdfnmohgkjonfaa.Span
