/- Contract of the reference of wire: Int. -/
import Derived.Test.YtlpljhaogmfnkaaWInt
namespace Go.Proofs.Ytlpljhaogmfnkaa.Wire
open Go.RowKit
set_option linter.unusedVariables false

theorem val_drop_le : ∀ (l : List Int) (i : Nat), val (l.drop i) ≤ val l
  | [], i => by simp
  | b :: r, 0 => by simp
  | b :: r, i + 1 => by
    have h := val_drop_le r i
    have h2 := (val_b r).1
    have h3 : val (b :: r) = b % 128 + 128 * val r := rfl
    rw [List.drop_succ_cons, h3]
    omega
theorem val_drop_step {l : List Int} {q : Nat} (h : q < l.length) : val (l.drop q) = l.getD q 0 % 128 + 128 * val (l.drop (q + 1)) := by
  rw [List.drop_eq_getElem_cons h]
  have : l.getD q 0 = l[q] := by simp [List.getD, List.getElem?_eq_getElem h]
  rw [this]
  rfl
theorem take_get {l : List Int} {k j : Nat} (h : j < k) : (l.take k).getD j 0 = l.getD j 0 := by
  simp only [List.getD]
  rw [List.getElem?_take_of_lt h]

set_option maxHeartbeats 1000000 in
theorem RInt_any (A : Option Addr) (n c : Nat) (xs : List Int) (w : World) (B : Nat) (hS : Sh w B .u8 A n xs) (hb : byts xs) (hc : n ≤ c) (hm : n ≤ 140737488355328) :
    Calls Try.prog 12 #[.slice A n c] w fun e w' => e = .returned (.tuple #[.int .i64 (dn xs), .int .i64 (du xs), .int .i64 (de xs)]) ∧ w = w' := by
  have HL := hid hS.len
  go_enter Try.func12, Try.ntmps12
  go_wp2_with fail
  go_loop [5] (fun i => ∃ (k : Nat), i = .int .i64 k ∧ k ≤ n ∧ k ≤ 10 ∧ Hid (∀ j, j < k → 128 ≤ xs.getD j 0)) (fun i => 10 - (intOf i).toNat)
  case atStart => exact ⟨0, rfl, by omega, by omega, hid (fun j hj => by omega)⟩
  case round =>
    obtain ⟨k, rfl, hkn, hk10, Hall⟩ := hrel
    by_cases hkn' : k = n
    · have hr : Hid (run 10 xs = k) := hid (run_of 10 xs k hk10 (by have := HL.out; omega) Hall.out (by have := HL.out; omega))
      subst hkn'
      by_cases hk : k = 10
      · have hd := hid (d3 (dec_form (b := xs) (by have := hr.out; omega)))
        subst hk
        go_wp2_with fail
        go_ret3
        exact ⟨ret3 hd.out.1 hd.out.2.1 hd.out.2.2, rfl⟩
      · have hd := hid (d3 (dec_short (b := xs) (by have := hr.out; omega) (by have := hr.out; have := HL.out; omega)))
        have t1 : ((k : Int) == 10) = false := by simp; omega
        go_wp2_with fail
        go_ret3
        exact ⟨ret3 hd.out.1 hd.out.2.1 hd.out.2.2, rfl⟩
    · have hlt1 : k < n := by omega
      have t0 : ((k : Int) == (n : Int)) = false := by simp; omega
      clear hkn'
      by_cases hk : k = 10
      · have hr : Hid (run 10 xs = k) := hid (run_of 10 xs k hk10 (by have := HL.out; omega) Hall.out (by omega))
        have hd := hid (d3 (dec_form (b := xs) (by have := hr.out; omega)))
        subst hk
        go_wp2_with fail
        go_ret3
        exact ⟨ret3 hd.out.1 hd.out.2.1 hd.out.2.2, rfl⟩
      · have hlt2 : k < 10 := by omega
        have t1 : ((k : Int) == 10) = false := by simp; omega
        clear hk
        obtain ⟨bb, oo, rfl, hbb, hcell⟩ := hS.2 (by omega)
        have hck := hcell k hlt1
        have hx := byts_get hb k
        have hrun : Hid (xs.getD k 0 < 128 → run 10 xs = k) := hid fun h => run_of 10 xs k (by omega) (by have := HL.out; omega) Hall.out (.inr (.inr h))
        have hall' : Hid (128 ≤ xs.getD k 0 → ∀ j, j < k + 1 → 128 ≤ xs.getD j 0) := hid fun h j hj => by
          by_cases e : j = k
          · subst e; exact h
          · exact Hall.out j (by omega)
        have hbad : Hid (bad xs k ↔ ((0 < k ∧ xs.getD k 0 = 0) ∨ (k = 9 ∧ 1 < xs.getD k 0))) := hid Iff.rfl
        have hvok : Hid ((k = 9 → xs.getD k 0 ≤ 1) → 0 ≤ val (xs.take (k + 1)) ∧ val (xs.take (k + 1)) ≤ 18446744073709551615) := hid fun h => val_ok hlt2 hb h (by have := HL.out; omega)
        have HC := hid hcell
        clear hcell
        generalize xs.getD k 0 = x at *
        by_cases hx128 : 128 ≤ x
        · go_wp2_with fail
          go_round
          case rel => exact ⟨k + 1, by go_num, by omega, by omega, hid (hall'.out hx128)⟩
          case measure => simp [intOf]; omega
        · have hr := hid (hrun.out (by omega))
          by_cases hbd : bad xs k
          · have hd := hid (d3 (dec_bad (b := xs) (by have := hr.out; omega) (by have := hr.out; have := HL.out; omega) (by rw [hr.out]; exact hbd)))
            have hbd' := hbad.out.1 hbd
            clear hbd
            rcases hbd' with ⟨g1, g2⟩ | ⟨g1, g2⟩
            · have t1 : decide ((0 : Int) < (k : Int)) = true := by simpa using g1
              have t2 : (x == 0) = true := by simpa using g2
              clear g2
              go_wp2_with fail
              go_ret3
              exact ⟨ret3 hd.out.1 hd.out.2.1 hd.out.2.2, rfl⟩
            · have t1 : decide ((0 : Int) < (k : Int)) = true := by simp; omega
              have t2 : (x == 0) = false := by simp; omega
              have t3 : ((k : Int) == 9) = true := by simp; omega
              have t4 : decide ((1 : Int) < x) = true := by simpa using g2
              have g0 : 0 < k := by omega
              clear g1
              go_wp2_with fail
              go_ret3
              exact ⟨ret3 hd.out.1 hd.out.2.1 hd.out.2.2, rfl⟩
          · have hd := hid (d3 (dec_ok (b := xs) (by have := hr.out; omega) (by have := hr.out; have := HL.out; omega) (by rw [hr.out]; exact hbd)))
            have hbd' : ¬((0 < k ∧ x = 0) ∨ (k = 9 ∧ 1 < x)) := fun h => hbd (hbad.out.2 h)
            have hvv := hid (hvok.out (fun e => by omega))
            clear hbd
            have fin : Hid (zag (val (xs.take (k + 1))) = dn xs ∧ (k : Int) + 1 = du xs ∧ (0 : Int) = de xs) := hid (by
              have := hd.out
              rw [hr.out] at this
              exact this)
            have key : Hid (∀ q, q < k + 1 → ∃ y, w.cell? ⟨bb, oo + q, none⟩ = some (.int .u8 y) ∧ 0 ≤ y ∧ y ≤ 255 ∧ val ((xs.take (k + 1)).drop q) = y % 128 + 128 * val ((xs.take (k + 1)).drop (q + 1)) ∧ val ((xs.take (k + 1)).drop q) ≤ 18446744073709551615) := hid fun q hq => by
              have hl : (xs.take (k + 1)).length = k + 1 := by rw [List.length_take]; have := HL.out; omega
              refine ⟨xs.getD q 0, HC.out q (by omega), (byts_get hb q).1, (byts_get hb q).2, ?_, ?_⟩
              · rw [val_drop_step (by omega), take_get hq]
              · have := val_drop_le (xs.take (k + 1)) q; have := hvv.out; omega
            have hcases : (decide ((0 : Int) < (k : Int)) = false ∧ ¬ 0 < k ∧ ((k : Int) == 9) = false) ∨
                (decide ((0 : Int) < (k : Int)) = true ∧ 0 < k ∧ (x == 0) = false ∧ ((k : Int) == 9) = true ∧ decide ((1 : Int) < x) = false) ∨
                (decide ((0 : Int) < (k : Int)) = true ∧ 0 < k ∧ (x == 0) = false ∧ ((k : Int) == 9) = false) := by
              by_cases hk0 : k = 0
              · left; subst hk0; decide
              · right
                have h0 : x ≠ 0 := fun e => hbd' (.inl ⟨by omega, e⟩)
                by_cases hk9 : k = 9
                · left
                  subst hk9
                  refine ⟨by decide, by decide, by simpa using h0, by decide, ?_⟩
                  have : ¬ 1 < x := fun e => hbd' (.inr ⟨rfl, e⟩)
                  simpa using this
                · right
                  refine ⟨by simp; omega, by omega, by simpa using h0, by simp; omega⟩
            rcases hcases with ⟨s1, g0, s3⟩ | ⟨s1, g0, s2, s3, s4⟩ | ⟨s1, g0, s2, s3⟩
            all_goals
              clear hbd'
              go_wp2_with fail
              go_loop [6, 7] (fun u i => ∃ (j : Nat) (ii u' : Int), u = .int .u64 u' ∧ i = .int .i64 ii ∧ Hid (ii = (j : Int) - 1) ∧ j ≤ k + 1 ∧ 0 ≤ u' ∧ u' ≤ 18446744073709551615 ∧ Hid (u' = val ((xs.take (k + 1)).drop j))) (fun _ i => (intOf i + 1).toNat)
              case atStart =>
                refine ⟨k + 1, k, 0, rfl, rfl, hid (by omega), by omega, by omega, by omega, hid ?_⟩
                rw [List.drop_eq_nil_of_le (by rw [List.length_take]; omega)]; rfl
              case round =>
                obtain ⟨j, ii, u, rfl, rfl, hii, hj, hu0, hu1, HU⟩ := hrel
                by_cases hj0 : j = 0
                · obtain rfl : ii = -1 := by have := hii.out; omega
                  subst hj0
                  have hv : Hid (u = val (xs.take (k + 1))) := hid (by have := HU.out; rwa [List.drop_zero] at this)
                  by_cases he : u % 2 = 0
                  · have t9 : (u % 2 == 0) = true := by simpa using he
                    have HE := hid he
                    clear he
                    go_wp2_with fail
                    go_ret3
                    refine ⟨ret3 ?_ fin.out.2.1 fin.out.2.2, rfl⟩
                    rw [← fin.out.1, ← hv.out]
                    unfold zag
                    rw [if_pos HE.out]
                  · have t9 : (u % 2 == 0) = false := by simpa using he
                    have HE := hid he
                    clear he
                    go_wp2_with fail
                    go_ret3
                    refine ⟨ret3 ?_ fin.out.2.1 fin.out.2.2, rfl⟩
                    rw [← fin.out.1, ← hv.out]
                    unfold zag
                    rw [if_neg HE.out]
                · obtain ⟨q, rfl⟩ : ∃ q, j = q + 1 := ⟨j - 1, by omega⟩
                  obtain rfl : ii = (q : Int) := by have := hii.out; omega
                  obtain ⟨y, hcy, hy0, hy1, hyv, hyb⟩ := key.out q (by omega)
                  rw [← HU.out] at hyv
                  have HV := hid hyv
                  have hsum : y % 128 + 128 * u ≤ 18446744073709551615 := by omega
                  clear hyv hyb hj0 hii
                  go_wp2_with fail
                  go_round
                  case rel => exact ⟨q, (q : Int) - 1, u * 128 + y % 128, by go_num, rfl, hid rfl, by omega, by omega, by omega, hid (by have := HV.out; omega)⟩
                  case measure => simp [intOf]
end Go.Proofs.Ytlpljhaogmfnkaa.Wire
