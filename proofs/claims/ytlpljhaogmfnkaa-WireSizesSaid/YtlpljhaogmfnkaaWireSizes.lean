/- WireSizes returns true for every integer: it is encoded in as few bytes as its size permits. No condition. -/
import Derived.Test.YtlpljhaogmfnkaaWOut
import Derived.Test.YtlpljhaogmfnkaaWArgs
namespace Go.Proofs.Ytlpljhaogmfnkaa.WireSizes
open Go.ChangeShapes Go.WideShapes Go.ChangeAt Go.RowKit
open Go.ChangeMaps (open_string shut_string)
open Go.Proofs.Ytlpljhaogmfnkaa.Wire
set_option linter.unusedVariables false

theorem size_at (n : Int) (h1 : -9223372036854775808 ≤ n) (h2 : n ≤ 9223372036854775807) (k : Nat) (hk1 : 1 ≤ k) (hk9 : k ≤ 9) :
    ∃ B : Int, wrap64 ((2 : Int) ^ (7 * k - 1)) = B ∧ 64 ≤ B ∧ B ≤ 4611686018427387904 ∧ ((enc n).length ≤ k ↔ (-B ≤ n ∧ n < B)) := by
  have hd := dig_size 9 (zig n) k (zig_b h1 h2).1 (zig_c h1 h2) hk1
  unfold enc
  rw [hd]
  have hz : ∀ C : Int, zig n < 2 * C ↔ (-C ≤ n ∧ n < C) := by
    intro C; unfold zig; split <;> omega
  have hp : (128 : Int) ^ k = 2 * 2 ^ (7 * k - 1) := by
    have e : 7 * k - 1 + 1 = 7 * k := by omega
    have e2 : (2 : Int) ^ (7 * k) = 128 ^ k := by rw [Int.pow_mul]; rfl
    rw [← e2, ← e, Int.pow_succ, Int.mul_comm]; rfl
  rw [hp, hz]
  have hm : 7 * k - 1 ≤ 62 := by omega
  have hm6 : 6 ≤ 7 * k - 1 := by omega
  generalize 7 * k - 1 = m at *
  have q1 : (2 : Nat) ^ 6 ≤ 2 ^ m := Nat.pow_le_pow_right (by omega) hm6
  have q2 : (2 : Nat) ^ m ≤ 2 ^ 62 := Nat.pow_le_pow_right (by omega) hm
  have q3 : (2 : Int) ^ m = ((2 ^ m : Nat) : Int) := by simp
  generalize (2 : Int) ^ m = B at *
  exact ⟨B, by unfold wrap64; omega, by omega, by omega, Iff.rfl⟩

set_option maxRecDepth 100000 in
set_option maxHeartbeats 1000000 in
theorem walk (a0 : Int) (w : World) (w0 : (Lit.int .i64 a0).wf = true) :
    Calls Try.prog 9 #[.int .i64 a0] w fun e w' => e = .returned (.bool true) ∧ Bl w w' := by
  have hN := wf_i64 w0
  have c3 := hid (putInt none 0 0 [] a0 w (Sh.nil _ _ _ _) hN.1 hN.2 (Nat.le_refl _) (by omega))
  have hs := hid (size_at a0 hN.1 hN.2)
  have he := enc_len a0
  rw [List.nil_append] at c3
  generalize enc a0 = zs at *
  generalize hm : zs.length = m at *
  have HM := hid hm
  clear hm
  go_enter Try.func9, Try.ntmps9
  go_wp2_with fail
  refine c3.out.mono ?_
  rintro e w1 ⟨A1, c1, rfl, hs1, hc1, hb1⟩
  rw [HM.out]
  clear hs1 hc1
  go_wp2_with fail
  go_loopw [4] (fun i wr => ∃ k : Nat, i = .int .i64 k ∧ 1 ≤ k ∧ k ≤ 10 ∧ Bl w wr) (fun i _ => 10 - (intOf i).toNat)
  case atStart => exact ⟨1, rfl, by omega, by omega, hb1⟩
  case round =>
    clear hb1
    obtain ⟨k, rfl, hk1, hk10, hb⟩ := hrel
    by_cases hk : k ≤ 9
    · obtain ⟨B, hB, hB0, hB1, hiff⟩ := hs.out k hk1 hk
      by_cases hle : m ≤ k
      · obtain ⟨g1, g2⟩ := hiff.1 hle
        clear hiff
        go_wp2_with fail
        go_roundw
        case rel => exact ⟨k + 1, by go_num, by omega, by omega, hb⟩
        case measure => simp [intOf]; omega
      · have hnot : ¬(-B ≤ a0 ∧ a0 < B) := fun h => hle (hiff.2 h)
        clear hiff
        by_cases g1 : -B ≤ a0
        · have g2 : B ≤ a0 := by omega
          clear hnot
          go_wp2_with fail
          go_roundw
          case rel => exact ⟨k + 1, by go_num, by omega, by omega, hb⟩
          case measure => simp [intOf]; omega
        · have g2 : a0 < -B := by omega
          clear hnot
          go_wp2_with fail
          go_roundw
          case rel => exact ⟨k + 1, by go_num, by omega, by omega, hb⟩
          case measure => simp [intOf]; omega
    · obtain rfl : k = 10 := by omega
      have t1 : decide ((1 : Int) ≤ (m : Int)) = true := by simp; omega
      have t2 : decide ((m : Int) ≤ 10) = true := by simp; omega
      go_wp2_with fail
      refine (awake_any _).mono ?_
      rintro e w4 ⟨rfl, hb4⟩
      have hb5 := hb.trans hb4
      clear hb hb4
      go_wp2_with fail
      go_ret
      exact ⟨rfl, hb5⟩

set_option maxRecDepth 100000 in
theorem lifted (os : Os) (started : os.Started) (H : Type) (enc : TypeId × Value → H) :
    ReturnsInHanded {} Try.checked os 9 .any (Rows.wireSizesSpec.pre6 enc Try.prog Try.f9 Rows.wireSizesRow.domain false) (Rows.wireSizesSpec.post enc Try.prog Try.f9 false true false false) := by
  refine returnsInHanded_of_change (C := Try.checked) own started (by kernel_rfl) Try.func9
    (ChangeSpec.witness6 (enc := enc) (C := Try.checked) false ⟨#[], #[.int .i64 0], []⟩ 8 (by kernel_rfl) (by kernel_rfl) (by kernel_rfl) (by kernel_rfl)) ?_
  intro W base args ds gs before hval0 hW _ _
  have hval : ∀ (j : Nat) t v, Try.f9.params[j]? = some t → args[j]? = some v → Value.okWide Try.prog W .any base t v := hval0
  have hW' := hW
  obtain ⟨p, q, hA0, hV, rfl, hfz, hnd⟩ := hW
  have hA : DataW.TrodAll enc Try.prog W 0 (fun _ => true) true Try.f9.params.toList args.toList ds p := hA0
  rw [Try.params9] at hA hval
  obtain ⟨v0, vs0, d0, ds0, p0, q0, hargs, rfl, rfl, h0, r0⟩ := trodAll_cons hA
  obtain ⟨rfl, rfl, rfl⟩ := trodAll_nil r0
  obtain rfl : args = #[v0] := by cases args; simp_all
  obtain ⟨rfl, rfl⟩ := trodVars_none hV
  obtain ⟨a0, rfl, rfl, rfl, w0⟩ := open_int Try.underlying3 (hval 0 3 v0 rfl rfl) h0
  clear hA0 hval0
  refine (walk a0 W w0).mono fun e W' ⟨he, bel⟩ => ?_
  subst he
  exact ⟨_, rfl, _, _, _, [], _, [], hW', trodAll_mk1 (shut_bool Try.underlying4 _), (trodAll_cons_mk (shut_int Try.underlying3 w0) trodAll_mk0), rfl, Below.frame bel _, fun h => by cases h⟩

theorem holds : Rows.WireSizesSaid :=
  OpenClaim.holds_of_wide 9 Try.f9 rfl rfl rfl rfl rfl rfl rfl ⟨rfl, rfl, rfl, rfl, rfl⟩ rfl rfl rfl rfl rfl (by kernel_rfl) Try.func9 (by kernel_rfl)
    (of_decide_eq_true (by kernel_rfl)) (by unfold Func.isWrapper; first | (rw [if_pos (by decide +kernel)]; kernel_rfl) | (rw [if_neg (by decide +kernel)]; exact ⟨rfl, rfl⟩))
    (fun os started H enc _ => lifted os started H enc)
end Go.Proofs.Ytlpljhaogmfnkaa.WireSizes
