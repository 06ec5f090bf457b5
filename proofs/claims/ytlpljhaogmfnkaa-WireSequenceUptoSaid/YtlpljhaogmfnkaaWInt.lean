/- Contracts of wire: unfold, Int. -/
import Derived.Test.YtlpljhaogmfnkaaWRPut
namespace Go.Proofs.Ytlpljhaogmfnkaa.Wire
open Go.RowKit
set_option linter.unusedVariables false

theorem compli (y : Int) (h0 : 0 ≤ y) (h : y ≤ 9223372036854775807) : bits .xor .i64 (-1) y = -1 - y := by
  show IntKind.i64.wrap ((BitVec.ofInt 64 (-1) ^^^ BitVec.ofInt 64 y).toNat : Int) = _
  have e : BitVec.ofInt 64 (-1) = BitVec.allOnes 64 := by decide
  rw [e, ← BitVec.not_def, BitVec.toNat_not]
  obtain ⟨z, rfl⟩ := Int.eq_ofNat_of_zero_le h0
  rw [BitVec.ofInt_natCast, BitVec.toNat_ofNat, IntKind.wrap_i64]
  omega
theorem and1 (u : Int) (h0 : 0 ≤ u) (h : u ≤ 18446744073709551615) : bits .and .u64 u 1 = u % 2 := by
  rw [u64_and _ _ h0 (by omega) (by omega) (by omega), show (1 : Int).toNat = 1 by rfl, nat_mask1]
  omega

set_option maxHeartbeats 400000 in
theorem unfold_any (u : Int) (w : World) (h1 : 0 ≤ u) (h2 : u ≤ 18446744073709551615) :
    Calls Try.prog 26 #[.int .u64 u] w fun e w' => e = .returned (.int .i64 (zag u)) ∧ w = w' := by
  by_cases hp : u % 2 = 1
  · have ht : (bits .and .u64 u 1 == 1) = true := by rw [and1 u h1 h2, beq_iff_eq]; exact hp
    have H := hid hp
    clear hp
    go_enter Try.func26, Try.ntmps26
    go_wp2
    go_ret
    refine ⟨retU ?_, rfl⟩
    have := H.out
    rw [compli _ (by omega) (by omega)]
    unfold zag
    rw [if_neg (by omega)]
    omega
  · have ht : (bits .and .u64 u 1 == 1) = false := by rw [and1 u h1 h2, beq_eq_false_iff_ne]; exact hp
    have H := hid hp
    clear hp
    go_enter Try.func26, Try.ntmps26
    go_wp2
    go_ret
    refine ⟨retU ?_, rfl⟩
    have := H.out
    unfold zag
    rw [if_pos (by omega)]

theorem read_val (k : Nat) (x u : Int) (hk : k ≤ 9) (hx : 0 ≤ x) (hx2 : x ≤ 255) (hu : 0 ≤ u) (hu1 : u ≤ 18446744073709551615) :
    ∃ Y Z : Int, IntKind.u64.wrap (x % 128 * 2 ^ (7 * (k : Int)).toNat) = Y ∧ bits .or .u64 u Y = Z ∧ 0 ≤ Y ∧ Y ≤ 18446744073709551615 ∧ 0 ≤ Z ∧ Z ≤ 18446744073709551615 ∧ (u < 128 ^ k → (k ≤ 8 ∨ x ≤ 1) → Z = u + 128 ^ k * (x % 128)) := by
  refine ⟨_, _, rfl, rfl, ?_⟩
  have e1 : (7 * (k : Int)).toNat = 7 * k := by omega
  have e2 : (2 : Int) ^ (7 * k) = 128 ^ k := by rw [Int.pow_mul]; rfl
  rw [e1, e2, IntKind.wrap_u64]
  generalize hy : x % 128 * 128 ^ k = y
  have hy0 : 0 ≤ y := by rw [← hy]; exact Int.mul_nonneg (by omega) (Int.le_of_lt (pow_pos k))
  rw [u64_or _ _ hu (by omega) (by omega) (by omega)]
  refine ⟨by omega, by omega, by omega, ?_, ?_⟩
  · have : u.toNat ||| (y % 18446744073709551616).toNat < 2 ^ 64 := Nat.or_lt_two_pow (by omega) (by omega)
    omega
  · intro hub hkx
    have hyb : y < 18446744073709551616 := by
      rcases hkx with h | h
      · have h1 := pow_mono h
        have h2 : (128 : Int) ^ 8 = 72057594037927936 := by decide
        have h3 := pow_pos k
        have : x % 128 * 128 ^ k ≤ 127 * 72057594037927936 := Int.mul_le_mul (by omega) (by omega) (by omega) (by omega)
        omega
      · have h1 := pow_mono hk
        have h2 : (128 : Int) ^ 9 = 9223372036854775808 := by decide
        have h3 := pow_pos k
        have : x % 128 * 128 ^ k ≤ 1 * 9223372036854775808 := Int.mul_le_mul (by omega) (by omega) (by omega) (by omega)
        omega
    rw [Int.emod_eq_of_lt hy0 hyb]
    have hP : (128 : Int) ^ k = ((128 ^ k : Nat) : Int) := by simp
    have h7 : (2 : Nat) ^ (7 * k) = 128 ^ k := by rw [Nat.pow_mul]
    have hj : y.toNat ||| u.toNat = y.toNat + u.toNat := by
      refine nat_join (7 * k) _ _ ?_ ?_
      · rw [h7, ← hy, hP]
        obtain ⟨q, hq⟩ := Int.eq_ofNat_of_zero_le (show 0 ≤ x % 128 by omega)
        rw [hq, ← Int.natCast_mul, Int.toNat_natCast]
        exact Nat.mul_mod_left _ _
      · rw [h7]; rw [hP] at hub; omega
    rw [Nat.or_comm, hj]
    rw [Int.mul_comm, hy]
    omega

theorem and127 (x : Int) (h0 : 0 ≤ x) (h : x ≤ 255) : bits .and .u8 x 127 = x % 128 := by
  rw [u8_and _ _ h0 (by omega) (by omega) (by omega), show (127 : Int).toNat = 127 by rfl, nat_mask7]
  omega

theorem ret3 {a b c a' b' c' : Int} (h1 : a = a') (h2 : b = b') (h3 : c = c') : Ending.returned (.tuple #[.int .i64 a, .int .i64 b, .int .i64 c]) = .returned (.tuple #[.int .i64 a', .int .i64 b', .int .i64 c']) := by rw [h1, h2, h3]
theorem d3 {b : List Int} {x y z : Int} (h : dec b = (x, y, z)) : x = dn b ∧ y = du b ∧ z = de b := by
  unfold dn du de; rw [h]; exact ⟨rfl, rfl, rfl⟩

set_option maxHeartbeats 600000 in
theorem Int_any (A : Option Addr) (n c : Nat) (xs : List Int) (w : World) (B : Nat) (hS : Sh w B .u8 A n xs) (hb : byts xs) (hc : n ≤ c) (hm : n ≤ 140737488355328) :
    Calls Try.prog 11 #[.slice A n c] w fun e w' => e = .returned (.tuple #[.int .i64 (dn xs), .int .i64 (du xs), .int .i64 (de xs)]) ∧ w = w' := by
  have HL := hid hS.len
  by_cases h10 : n ≤ 10
  all_goals
    go_enter Try.func11, Try.ntmps11
    go_wp2_with fail
    go_loop [5, 14] (fun u i => ∃ (k : Nat) (u' : Int), u = .int .u64 u' ∧ i = .int .i64 k ∧ k ≤ n ∧ k ≤ 10 ∧ 0 ≤ u' ∧ u' ≤ 18446744073709551615 ∧ Hid (k ≤ 9 → u' = val (xs.take k)) ∧ Hid (∀ j, j < k → 128 ≤ xs.getD j 0)) (fun _ i => 10 - (intOf i).toNat)
    case atStart => exact ⟨0, 0, rfl, rfl, by omega, by omega, by omega, by omega, hid (fun _ => by simp [val]), hid (fun j hj => by omega)⟩
    case round =>
      obtain ⟨k, u, rfl, rfl, hkn, hk10, hu0, hu1, Hu, Hall⟩ := hrel
      by_cases hlt : k < n ∧ k < 10
      · obtain ⟨hlt1, hlt2⟩ := hlt
        obtain ⟨bb, oo, rfl, hbb, hcell⟩ := hS.2 (by omega)
        have hck := hcell k hlt1
        have hx := byts_get hb k
        have hrd := read_val k (xs.getD k 0) u (by omega) hx.1 hx.2 hu0 hu1
        have hnext : Hid (∀ Z : Int, (u < 128 ^ k → (k ≤ 8 ∨ xs.getD k 0 ≤ 1) → Z = u + 128 ^ k * (xs.getD k 0 % 128)) → (k ≤ 8 ∨ xs.getD k 0 ≤ 1) → Z = val (xs.take (k + 1))) := hid fun Z hZ hor => by
          have h1 := Hu.out (by omega)
          have h2 := val_take_b xs k
          rw [val_take (by have := HL.out; omega), ← h1]
          exact hZ (by rw [h1]; exact h2.2) hor
        have hrun : Hid (xs.getD k 0 < 128 → run 10 xs = k) := hid fun h => run_of 10 xs k (by omega) (by have := HL.out; omega) Hall.out (.inr (.inr h))
        have hall' : Hid (128 ≤ xs.getD k 0 → ∀ j, j < k + 1 → 128 ≤ xs.getD j 0) := hid fun h j hj => by
          by_cases e : j = k
          · subst e; exact h
          · exact Hall.out j (by omega)
        have hbad : Hid (bad xs k ↔ ((0 < k ∧ xs.getD k 0 = 0) ∨ (k = 9 ∧ 1 < xs.getD k 0))) := hid Iff.rfl
        clear hcell
        generalize xs.getD k 0 = x at *
        obtain ⟨Y, Z, hY, hZ, hY0, hY1, hZ0, hZ1, hZv⟩ := hrd
        have HZ := hid (hnext.out Z hZv)
        clear hZv hnext
        have ha := and127 x hx.1 hx.2
        by_cases hx128 : 128 ≤ x
        · go_wp2_with fail
          go_round
          case rel => exact ⟨k + 1, Z, rfl, by go_num, by omega, by omega, hZ0, hZ1, hid (fun h => HZ.out (.inl (by omega))), hid (hall'.out hx128)⟩
          case measure => simp [intOf]; omega
        · have hr := hid (hrun.out (by omega))
          by_cases hbd : bad xs k
          · have hd := hid (d3 (dec_bad (b := xs) (by have := hr.out; omega) (by have := hr.out; have := HL.out; omega) (by rw [hr.out]; exact hbd)))
            have hbd' := hbad.out.1 hbd
            clear hbd
            rcases hbd' with ⟨g1, g2⟩ | ⟨g1, g2⟩
            · have t1 : decide ((0 : Int) < (k : Int)) = true := by simpa using g1
              have t2 : (x == 0) = true := by simpa using g2
              clear g2
              go_wp2_with fail
              go_ret3
              exact ⟨ret3 hd.out.1 hd.out.2.1 hd.out.2.2, rfl⟩
            · have t1 : decide ((0 : Int) < (k : Int)) = true := by simp; omega
              have t2 : (x == 0) = false := by simp; omega
              have t3 : ((k : Int) == 9) = true := by simp; omega
              have t4 : decide ((1 : Int) < x) = true := by simpa using g2
              have g0 : 0 < k := by omega
              clear g1
              go_wp2_with fail
              go_ret3
              exact ⟨ret3 hd.out.1 hd.out.2.1 hd.out.2.2, rfl⟩
          · have hd := hid (d3 (dec_ok (b := xs) (by have := hr.out; omega) (by have := hr.out; have := HL.out; omega) (by rw [hr.out]; exact hbd)))
            have hbd' : ¬((0 < k ∧ x = 0) ∨ (k = 9 ∧ 1 < x)) := fun h => hbd (hbad.out.2 h)
            clear hbd
            have hZZ := hid (HZ.out (by omega))
            have c1 := hid (fun w => unfold_any Z w hZ0 hZ1)
            have fin : Hid (zag Z = dn xs ∧ (k : Int) + 1 = du xs ∧ (0 : Int) = de xs) := hid (by
              have := hd.out
              rw [hr.out, ← hZZ.out] at this
              exact this)
            by_cases hk0 : k = 0
            · have t1 : decide ((0 : Int) < (k : Int)) = false := by simp; omega
              have g0 : ¬ 0 < k := by omega
              have t3 : ((k : Int) == 9) = false := by simp; omega
              clear hk0
              go_wp2_with fail
              refine (c1.out _).mono ?_
              rintro e w' ⟨rfl, rfl⟩
              go_wp2_with fail
              go_ret3
              exact ⟨ret3 fin.out.1 fin.out.2.1 fin.out.2.2, rfl⟩
            · have t1 : decide ((0 : Int) < (k : Int)) = true := by simp; omega
              have g0 : 0 < k := by omega
              have t2 : (x == 0) = false := by simp; omega
              by_cases hk9 : k = 9
              · have t3 : ((k : Int) == 9) = true := by simp; omega
                have t4 : decide ((1 : Int) < x) = false := by simp; omega
                clear hk9
                go_wp2_with fail
                refine (c1.out _).mono ?_
                rintro e w' ⟨rfl, rfl⟩
                go_wp2_with fail
                go_ret3
                exact ⟨ret3 fin.out.1 fin.out.2.1 fin.out.2.2, rfl⟩
              · have t3 : ((k : Int) == 9) = false := by simp; omega
                go_wp2_with fail
                refine (c1.out _).mono ?_
                rintro e w' ⟨rfl, rfl⟩
                go_wp2_with fail
                go_ret3
                exact ⟨ret3 fin.out.1 fin.out.2.1 fin.out.2.2, rfl⟩
      · have hend : k = n ∨ k = 10 := by omega
        have hr : Hid (run 10 xs = k) := hid (run_of 10 xs k hk10 (by have := HL.out; omega) Hall.out (by have := HL.out; omega))
        by_cases hk : k = 10
        · have hd := hid (d3 (dec_form (b := xs) (by have := hr.out; omega)))
          have hn : 10 ≤ n := by omega
          clear hend
          go_wp2_with fail
          go_ret3
          exact ⟨ret3 hd.out.1 hd.out.2.1 hd.out.2.2, rfl⟩
        · have hd := hid (d3 (dec_short (b := xs) (by have := hr.out; omega) (by have := hr.out; have := HL.out; omega)))
          first
            | (exfalso; omega)
            | (have hn : n < 10 := by omega
               obtain rfl : k = n := by omega
               clear hend
               go_wp2_with fail
               go_ret3
               exact ⟨ret3 hd.out.1 hd.out.2.1 hd.out.2.2, rfl⟩)
end Go.Proofs.Ytlpljhaogmfnkaa.Wire
