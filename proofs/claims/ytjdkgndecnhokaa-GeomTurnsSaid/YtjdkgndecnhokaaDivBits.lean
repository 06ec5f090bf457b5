/- The contract of math/bits.Div64: the quotient of 128 bits by 64 bits, by two half steps. -/
import Derived.Test.YtjdkgndecnhokaaBits
import Derived.Test.YtjdkgndecnhokaaHalf
import Derived.Test.YtjdkgndecnhokaaNorm
import Derived.Deep.DeepCutAuto
import Derived.Deep.CutBlock
namespace Go.Proofs.Ytjdkgndecnhokaa.Num
open Go.RowKit
set_option linter.unusedVariables false

set_option maxRecDepth 100000 in
set_option maxHeartbeats 4000000 in
theorem div64_core (hi lo y s Y H y1 y0 u l c1 c0 t q1 r1 v q2 r2 t2 R : Int) (w : World) (h0 : 1 ≤ hi) (h1 : hi < y) (hy : y ≤ 18446744073709551615) (hl0 : 0 ≤ lo) (hl : lo ≤ 18446744073709551615) (s0 : 0 ≤ s) (s1 : s ≤ 63)
    (hs : Hid (∀ w, Calls Try.prog 56 #[.int .u64 y] w fun e w' => e = .returned (.int .i64 s) ∧ w = w'))
    (e1 : IntKind.u64.wrap (y * 2 ^ s.toNat) = Y) (e2 : Y / 4294967296 = y1) (e3 : bits .and .u64 Y 4294967295 = y0)
    (e4 : IntKind.u64.wrap (hi * 2 ^ s.toNat) = H) (e5 : bits .or .u64 H (lo / 2 ^ (64 - s).toNat) = u)
    (e6 : IntKind.u64.wrap (lo * 2 ^ s.toNat) = l) (e7 : l / 4294967296 = c1) (e8 : bits .and .u64 l 4294967295 = c0)
    (a1 : 2147483648 ≤ y1) (a2 : y1 < 4294967296) (a3 : 0 ≤ y0) (a4 : y0 < 4294967296) (a5 : 0 ≤ c1) (a6 : c1 < 4294967296) (a7 : 0 ≤ c0) (a8 : c0 < 4294967296) (a9 : 0 ≤ u) (a10 : u ≤ 18446744073709551615)
    (e9 : u / y1 = q1) (e10 : IntKind.u64.wrap (u - IntKind.u64.wrap (q1 * y1)) = r1) (b1 : 0 ≤ q1) (b2 : q1 ≤ 4294967297) (b3 : 0 ≤ r1) (b4 : r1 < 4294967296) (hE : Hid (Est u y1 y0 c1 q1 r1))
    (hh : Hid (Half u y1 y0 c1)) (ht : Hid (t = hq u y1 y0 c1)) (t1 : 0 ≤ t ∧ t ≤ 4294967295)
    (e11 : IntKind.u64.wrap (IntKind.u64.wrap (IntKind.u64.wrap (u * 4294967296) + c1) - IntKind.u64.wrap (t * Y)) = v) (v0 : 0 ≤ v) (v1 : v ≤ 18446744073709551615)
    (e12 : v / y1 = q2) (e13 : IntKind.u64.wrap (v - IntKind.u64.wrap (q2 * y1)) = r2) (d1 : 0 ≤ q2) (d2 : q2 ≤ 4294967297) (d3 : 0 ≤ r2) (d4 : r2 < 4294967296) (hE2 : Hid (Est v y1 y0 c0 q2 r2))
    (hh2 : Hid (Half v y1 y0 c0)) (ht2 : Hid (t2 = hq v y1 y0 c0)) (t3 : 0 ≤ t2 ∧ t2 ≤ 4294967295)
    (e14 : IntKind.u64.wrap (IntKind.u64.wrap (IntKind.u64.wrap (v * 4294967296) + c0) - IntKind.u64.wrap (t2 * Y)) = R) (R0 : 0 ≤ R) (R1 : R ≤ 18446744073709551615) :
    Calls Try.prog 55 #[.int .u64 hi, .int .u64 lo, .int .u64 y] w fun e w' => e = .returned (.tuple #[.int .u64 (t * 4294967296 + t2), .int .u64 (R / 2 ^ s.toNat)]) ∧ Q w w' := by
  go_enter Try.func55, Try.ntmps55
  go_wp2_with fail
  refine (hs.out _).mono ?_
  rintro e w' ⟨rfl, rfl⟩
  go_upto_block 0 with fail
  go_cut [15, 16] (fun q r wx => q = .int .u64 t ∧ wx = w)
  case first =>
    clear e1 e2 e3 e4 e5 e6 e7 e8 e10 e11 e12 e13 e14
    go_wp2_with fail
    go_loop [15, 16] (fun q r => ∃ x z : Int, q = .int .u64 x ∧ r = .int .u64 z ∧ Hid (Est u y1 y0 c1 x z) ∧ 0 ≤ x ∧ x ≤ 4294967297 ∧ 0 ≤ z ∧ z < 4294967296) (fun q _ => (intOf q).toNat)
    case atStart => exact ⟨q1, r1, by rw [e9], rfl, hE, b1, b2, b3, b4⟩
    case round =>
      obtain ⟨x, z, rfl, rfl, hx, x1, x2, z1, z2⟩ := hrel
      clear e9
      by_cases hc : 4294967296 ≤ x
      · have hn := hid (est_step hh.out hx.out (.inl hc))
        by_cases hb : 4294967296 ≤ z + y1
        · have hd := hid ((est_break hh.out hn.out (by omega) hb).trans ht.out.symm)
          go_wp2
          go_meet
          exact ⟨by rw [hd.out], rfl⟩
        · go_wp2
          go_round
          case rel => exact ⟨x - 1, z + y1, rfl, rfl, hn, by omega, by omega, by omega, by omega⟩
          case measure => simp [intOf]; omega
      · obtain ⟨d1, d2⟩ := digits' x y0 x1 (by omega) a3 a4
        by_cases hg : 4294967296 * z + c1 < x * y0
        · have hn := hid (est_step hh.out hx.out (.inr hg))
          have hp : 1 ≤ x := by
            by_cases hx0 : x = 0
            · subst hx0; omega
            · omega
          by_cases hb : 4294967296 ≤ z + y1
          · have hd := hid ((est_break hh.out hn.out (by omega) hb).trans ht.out.symm)
            go_wp2
            go_meet
            exact ⟨by rw [hd.out], rfl⟩
          · go_wp2
            go_round
            case rel => exact ⟨x - 1, z + y1, rfl, rfl, hn, by omega, by omega, by omega, by omega⟩
            case measure => simp [intOf]; omega
        · have hd := hid ((est_exit hh.out hx.out (by omega)).trans ht.out.symm)
          go_wp2
          go_meet
          exact ⟨by rw [hd.out], rfl⟩
  case rest =>
    obtain ⟨rfl, rfl⟩ := hcut
    go_upto_block 2 with fail
    go_cut [18, 16] (fun q r wx => q = .int .u64 t2 ∧ wx = wc)
    case first =>
      clear e1 e2 e3 e4 e5 e6 e7 e8 e9 e10 e11 e13 e14
      go_wp2_with fail
      go_loop [18, 16] (fun q r => ∃ x z : Int, q = .int .u64 x ∧ r = .int .u64 z ∧ Hid (Est v y1 y0 c0 x z) ∧ 0 ≤ x ∧ x ≤ 4294967297 ∧ 0 ≤ z ∧ z < 4294967296) (fun q _ => (intOf q).toNat)
      case atStart => exact ⟨q2, r2, by rw [e12], rfl, hE2, d1, d2, d3, d4⟩
      case round =>
        obtain ⟨x, z, rfl, rfl, hx, x1, x2, z1, z2⟩ := hrel
        clear e12
        by_cases hc : 4294967296 ≤ x
        · have hn := hid (est_step hh2.out hx.out (.inl hc))
          by_cases hb : 4294967296 ≤ z + y1
          · have hd := hid ((est_break hh2.out hn.out (by omega) hb).trans ht2.out.symm)
            go_wp2
            go_meet
            exact ⟨by rw [hd.out], rfl⟩
          · go_wp2
            go_round
            case rel => exact ⟨x - 1, z + y1, rfl, rfl, hn, by omega, by omega, by omega, by omega⟩
            case measure => simp [intOf]; omega
        · obtain ⟨d1, d2⟩ := digits' x y0 x1 (by omega) a3 a4
          by_cases hg : 4294967296 * z + c0 < x * y0
          · have hn := hid (est_step hh2.out hx.out (.inr hg))
            have hp : 1 ≤ x := by
              by_cases hx0 : x = 0
              · subst hx0; omega
              · omega
            by_cases hb : 4294967296 ≤ z + y1
            · have hd := hid ((est_break hh2.out hn.out (by omega) hb).trans ht2.out.symm)
              go_wp2
              go_meet
              exact ⟨by rw [hd.out], rfl⟩
            · go_wp2
              go_round
              case rel => exact ⟨x - 1, z + y1, rfl, rfl, hn, by omega, by omega, by omega, by omega⟩
              case measure => simp [intOf]; omega
          · have hd := hid ((est_exit hh2.out hx.out (by omega)).trans ht2.out.symm)
            go_wp2
            go_meet
            exact ⟨by rw [hd.out], rfl⟩
    case rest =>
      obtain ⟨rfl, rfl⟩ := hcut
      go_wp2
      go_ret2
      exact ⟨rfl, Q.refl _⟩

/-- the quotient of a uint64 pair hi, lo by y, for hi less than y -/
theorem div64_any (hi lo y : Int) (w : World) (h0 : 0 ≤ hi) (h1 : hi < y) (hy : y ≤ 18446744073709551615) (hl0 : 0 ≤ lo) (hl : lo ≤ 18446744073709551615) :
    Calls Try.prog 55 #[.int .u64 hi, .int .u64 lo, .int .u64 y] w fun e w' => e = .returned (.tuple #[.int .u64 ((hi * 18446744073709551616 + lo) / y), .int .u64 ((hi * 18446744073709551616 + lo) % y)]) ∧ Q w w' := by
  by_cases hz : hi = 0
  · subst hz
    have hq := hid (Int.ediv_nonneg hl0 (Int.le_of_lt h1))
    have hle := Int.ediv_le_self y hl0
    have hm := hid (Int.tmod_eq_emod_of_nonneg (b := y) hl0)
    have hwr : IntKind.u64.wrap (lo / y) = lo / y := by
      have := hq.out
      rw [IntKind.wrap_u64]; omega
    have hw' := hid hwr
    clear hwr
    have hyz : y ≠ 0 := by omega
    go_enter Try.func55, Try.ntmps55
    go_wp2
    go_quiet (fail)
    go_wp2
    go_ret2
    exact ⟨ret2 (by rw [Int.zero_mul, Int.zero_add]) (by rw [Int.zero_mul, Int.zero_add]), Q.drewN (Q.refl _) _⟩
  obtain ⟨k, hk, hkl, n1, n2⟩ := norm_of y (by omega) hy
  obtain ⟨g1, g2, g3, g4, g5, g6⟩ := norm_parts hi lo y k (by omega) h1 hl0 hl hk n1 n2
  have hs : ∀ w, Calls Try.prog 56 #[.int .u64 y] w fun e w' => e = .returned (.int .i64 (k : Int)) ∧ w = w' := by
    intro w
    refine (lead64_any y w (by omega) hy).mono fun e w' ⟨he, hw⟩ => ⟨?_, hw⟩
    rw [he]
    exact ret1 (by omega)
  have hSp : (0 : Int) < 2 ^ k := Int.pow_pos (by omega)
  obtain ⟨Y, hY⟩ : ∃ Y : Int, Y = y * 2 ^ k := ⟨_, rfl⟩
  obtain ⟨l, hl'⟩ : ∃ l : Int, l = lo * 2 ^ k % 18446744073709551616 := ⟨_, rfl⟩
  obtain ⟨u, hu⟩ : ∃ u : Int, u = hi * 2 ^ k + lo / 2 ^ (64 - k) := ⟨_, rfl⟩
  rw [← hY] at g1 n1 n2
  rw [← hl'] at g4 g5
  rw [← hu] at g3 g5 g6
  have l0 : 0 ≤ l := by omega
  have l1 : l < 18446744073709551616 := by omega
  have H1 := half_first _ u l y Y _ g5 hY (by omega) hSp l0 l1 g6 n1 n2
  have y1e : Y / 4294967296 * 4294967296 + Y % 4294967296 = Y := by omega
  obtain ⟨S1, S2⟩ := est_start H1
  have T1 := hq_bd H1
  have V1 := hq_rest H1
  rw [y1e] at V1
  obtain ⟨t, ht⟩ : ∃ t : Int, t = hq u (Y / 4294967296) (Y % 4294967296) (l / 4294967296) := ⟨_, rfl⟩
  rw [← ht] at T1 V1
  obtain ⟨v, hv⟩ : ∃ v : Int, v = u * 4294967296 + l / 4294967296 - t * Y := ⟨_, rfl⟩
  rw [← hv] at V1
  have H2 : Half v (Y / 4294967296) (Y % 4294967296) (l % 4294967296) := by unfold Half; omega
  obtain ⟨S3, S4⟩ := est_start H2
  have T2 := hq_bd H2
  have V2 := hq_rest H2
  rw [y1e] at V2
  obtain ⟨t2, ht2⟩ : ∃ t : Int, t = hq v (Y / 4294967296) (Y % 4294967296) (l % 4294967296) := ⟨_, rfl⟩
  rw [← ht2] at T2 V2
  obtain ⟨R, hR⟩ : ∃ R : Int, R = v * 4294967296 + l % 4294967296 - t2 * Y := ⟨_, rfl⟩
  rw [← hR] at V2
  have hE := read_off (hi * 18446744073709551616 + lo) (2 ^ k) y Y (t * 4294967296 + t2) R hSp hY (by rw [← g5, Int.add_mul, Int.mul_right_comm]; omega) V2.1 V2.2
  have hu1 : u ≤ 18446744073709551615 := by
    have := H1
    unfold Half at this
    omega
  have ek : (k : Int).toNat = k := rfl
  have ek2 : (64 - (k : Int)).toNat = 64 - k := by omega
  refine (div64_core hi lo y (k : Int) Y (hi * 2 ^ k) (Y / 4294967296) (Y % 4294967296) u l (l / 4294967296) (l % 4294967296) t (u / (Y / 4294967296)) (u - u / (Y / 4294967296) * (Y / 4294967296)) v (v / (Y / 4294967296)) (v - v / (Y / 4294967296) * (Y / 4294967296)) t2 R w
    (by omega) h1 hy hl0 hl (by omega) (by omega) (hid hs) (by rw [ek]; rw [hY] at g1 ⊢; exact g1) rfl (and_low32 Y (by omega) (by omega)) (by rw [ek]; exact g2) (by rw [ek2]; exact g3) (by rw [ek]; exact g4) rfl (and_low32 l l0 l1)
    (by omega) (by omega) (by omega) (by omega) (by omega) (by omega) (by omega) (by omega) g6 hu1 rfl (start_wrap _ _ _ _ rfl S1.2.2.2.1 (by omega)) S1.2.1 S1.2.2.1 S1.2.2.2.1 S2 (hid S1) (hid H1) (hid ht) T1
    (half_wrap _ _ _ _ _ hv V1.1 (by omega)) V1.1 (by omega) rfl (start_wrap _ _ _ _ rfl S3.2.2.2.1 (by omega)) S3.2.1 S3.2.2.1 S3.2.2.2.1 S4 (hid S3) (hid H2) (hid ht2) T2 (half_wrap _ _ _ _ _ hR V2.1 (by omega)) V2.1 (by omega)).mono ?_
  rintro e w' ⟨rfl, hq⟩
  rw [ek]
  exact ⟨ret2 hE.1 hE.2, hq⟩
end Go.Proofs.Ytjdkgndecnhokaa.Num
