/- Contracts of the library's Compare (lists of numbers, strings), Equal and Or that names call. (Each is here for a program that calls it: a text that lacks one of these functions in the dump is cut.) -/
import Derived.Test.YtjbkpiimjkekgaaDoorShelf
import Derived.Test.YtjbkpiimjkekgaaDoorNRef5
import Derived.Shelf.RegionOpenPlain
namespace Go.Proofs.YtjbkpiimjkekgaaDoor.Name
open Go.RowKit
open Go.Proofs.YtjbkpiimjkekgaaDoor.Wire
open Go.Proofs.YtjbkpiimjkekgaaDoor.Glyph
set_option linter.unusedVariables false

theorem num_bytes : ∀ s t : List UInt8, Lib.compareBytes s t = num (s.map fun b => (b.toNat : Int)) (t.map fun b => (b.toNat : Int))
  | [], [] => rfl
  | [], _ :: _ => rfl
  | _ :: _, [] => rfl
  | a :: s, b :: t => by
    have h := num_bytes s t
    simp only [Lib.compareBytes, List.map_cons, num, h, UInt8.lt_iff_toNat_lt, Int.ofNat_lt]
theorem StrCmp_any (a b : ByteArray) (w : World) :
    Calls Tryd.prog 33 #[.string a, .string b] w fun e w' => e = .returned (.int .i64 (num (sb a) (sb b))) ∧ w = w' := by
  refine (Tryd.strings_Compare a b w).mono ?_
  rintro e w' ⟨rfl, rfl⟩
  exact ⟨by rw [num_bytes]; rfl, rfl⟩
set_option maxHeartbeats 1000000 in
theorem Compare_any (A : Option Addr) (n c : Nat) (xs : List Int) (A1 : Option Addr) (n1 c1 : Nat) (ys : List Int) (w : World) (B B1 : Nat) (hS : Sh w B .i64 A n xs) (hS1 : Sh w B1 .i64 A1 n1 ys) (hm : n ≤ 1099511627776) (hm1 : n1 ≤ 1099511627776) :
    Calls Tryd.prog 32 #[.slice A n c, .slice A1 n1 c1] w fun e w' => e = .returned (.int .i64 (num xs ys)) ∧ Q w w' := by
  have hl := hid hS.len
  have hl1 := hid hS1.len
  go_enter Tryd.func32, Tryd.ntmps32
  go_wp2_with fail
  go_loopw [11, 5, 6, 7, 8] (fun i _ _ _ _ wr => ∃ (k : Nat), i = .int .i64 k ∧ k ≤ n ∧ k ≤ n1 ∧ Hid (xs.take k = ys.take k) ∧ Q w wr) (fun i _ _ _ _ _ => n - (intOf i).toNat)
  case atStart => exact ⟨0, rfl, by omega, by omega, hid rfl, Q.refl _⟩
  case round =>
    obtain ⟨k, rfl, hk, hk1, hp, hq⟩ := hrel
    by_cases hlt : k < n
    · obtain ⟨b, o, rfl, _, hcell⟩ := (hS.below (hq.below B)).2 (by omega)
      have hc1 := hcell k hlt
      clear hcell
      by_cases hlt1 : k < n1
      · obtain ⟨b', o', rfl, _, hcell'⟩ := (hS1.below (hq.below B1)).2 (by omega)
        have hc2 := hcell' k hlt1
        have sn := hid (take_snoc (l := xs) (i := k) (by rw [hl.out]; omega))
        have sn' := hid (take_snoc (l := ys) (i := k) (by rw [hl1.out]; omega))
        have f1 := hid (fun (h : xs.getD k 0 < ys.getD k 0) => num_lt hp.out (by rw [hl.out]; omega) (by rw [hl1.out]; omega) h)
        have f2 := hid (fun (h : ys.getD k 0 < xs.getD k 0) => num_gt hp.out (by rw [hl.out]; omega) (by rw [hl1.out]; omega) h)
        clear hcell'
        generalize xs.getD k 0 = x at *
        generalize ys.getD k 0 = y at *
        have cC := fun w' => Tryd.cmp_Compare_int x y w'
        unfold Lib.compareInt at cC
        by_cases h1 : x < y
        · have fin := hid (f1.out h1)
          rw [if_pos h1] at cC
          have cC := hid cC
          clear f1 f2
          go_wp2_with (go_at_call 48; refine (cC.out _).mono ?_; rintro e w3 ⟨rfl, rfl⟩)
          go_ret
          exact ⟨ret1 fin.out.symm, hq⟩
        · rw [if_neg h1] at cC
          by_cases h2 : y < x
          · have fin := hid (f2.out h2)
            rw [if_pos h2] at cC
            have cC := hid cC
            clear f1 f2
            go_wp2_with (go_at_call 48; refine (cC.out _).mono ?_; rintro e w3 ⟨rfl, rfl⟩)
            go_ret
            exact ⟨ret1 fin.out.symm, hq⟩
          · obtain rfl : x = y := by omega
            rw [if_neg h2] at cC
            have cC := hid cC
            have ht := hid (show xs.take (k + 1) = ys.take (k + 1) by rw [sn.out, sn'.out, hp.out])
            clear f1 f2 sn sn'
            go_wp2_with (go_at_call 48; refine (cC.out _).mono ?_; rintro e w3 ⟨rfl, rfl⟩)
            go_roundw
            case rel => exact ⟨k + 1, by go_num, by omega, by omega, ht, hq⟩
            case measure => simp [intOf]; omega
      · obtain rfl : n1 = k := by omega
        have fin := hid (num_len hp.out (by rw [hl.out]; exact hk) (by rw [hl1.out]; exact Nat.le_refl _) (.inr hl1.out.symm))
        rw [hl.out, hl1.out, if_neg (by omega), if_pos hlt] at fin
        go_wp2_with fail
        go_ret
        exact ⟨ret1 fin.out.symm, hq⟩
    · obtain rfl : n = k := by omega
      have fin := hid (num_len hp.out (by rw [hl.out]; exact Nat.le_refl _) (by rw [hl1.out]; exact hk1) (.inl hl.out.symm))
      rw [hl.out, hl1.out] at fin
      by_cases hlt1 : n < n1
      · rw [if_pos hlt1] at fin
        go_wp2_with fail
        go_ret
        exact ⟨ret1 fin.out.symm, hq⟩
      · obtain rfl : n1 = n := by omega
        rw [if_neg (by omega), if_neg (by omega)] at fin
        go_wp2_with fail
        go_ret
        exact ⟨ret1 fin.out.symm, hq⟩
theorem Equal_any (A : Option Addr) (n c : Nat) (xs : List Int) (A1 : Option Addr) (c1 : Nat) (ys : List Int) (w : World) (B B1 : Nat) (hS : Sh w B .i64 A n xs) (hS1 : Sh w B1 .i64 A1 n ys) (hm : n ≤ 1099511627776) :
    Calls Tryd.prog 36 #[.slice A n c, .slice A1 n c1] w fun e w' => e = .returned (.bool (decide (xs = ys))) ∧ Q w w' := by
  have hl := hS.len
  have hl1 := hS1.len
  by_cases h0 : n = 0
  · subst h0
    refine (Tryd.slices_Equal_int_empty A A1 c 0 c1 w (by omega)).mono ?_
    rintro e w' ⟨rfl, rfl⟩
    rw [List.length_eq_zero_iff.1 hl, List.length_eq_zero_iff.1 hl1]
    exact ⟨rfl, Q.refl _⟩
  · obtain ⟨b, o, rfl, _, hc⟩ := hS.2 (by omega)
    obtain ⟨b1, o1, rfl, _, hc1⟩ := hS1.2 (by omega)
    refine (Tryd.slices_Equal_int b o n c b1 o1 n c1 xs ys w (by omega) (by omega) (by omega) (by omega) (fun j hj => hc j (by omega)) (fun j hj => hc1 j (by omega))).mono ?_
    rintro e w' ⟨rfl, q, rfl⟩
    refine ⟨?_, (Q.refl _).drewN _⟩
    rw [List.take_of_length_le (by omega), List.take_of_length_le (by omega)]
    congr 2
    by_cases h : xs = ys
    · subst h; simp
    · rw [decide_eq_false h]; exact beq_eq_false_iff_ne.2 h
set_option maxHeartbeats 1000000 in
/-- the first of two numbers that is not 0 -/
theorem Or2_any (A : Option Addr) (c : Nat) (x y : Int) (w : World) (B : Nat) (hS : Sh w B .i64 A 2 [x, y]) :
    Calls Tryd.prog 31 #[.slice A 2 c] w fun e w' => e = .returned (.int .i64 (if x = 0 then y else x)) ∧ w = w' := by
  obtain ⟨b, o, rfl, _, hc⟩ := hS.2 (by omega)
  have h1 : w.cell? ⟨b, o, none⟩ = some (.int .i64 x) := hc 0 (by omega)
  have h2 : w.cell? ⟨b, o + 1, none⟩ = some (.int .i64 y) := hc 1 (by omega)
  clear hc hS
  go_enter Tryd.func31, Tryd.ntmps31
  go_wp2_with fail
  go_loopw [8, 5] (fun i _ wr => ∃ (k : Nat), i = .int .i64 k ∧ k ≤ 2 ∧ (1 ≤ k → x = 0) ∧ (2 ≤ k → y = 0) ∧ wr = w) (fun i _ _ => 2 - (intOf i).toNat)
  case atStart => exact ⟨0, rfl, by omega, fun h => by omega, fun h => by omega, rfl⟩
  case round =>
    obtain ⟨k, rfl, hk, z1, z2, rfl⟩ := hrel
    rcases (show k = 0 ∨ k = 1 ∨ k = 2 by omega) with rfl | rfl | rfl
    · by_cases hx : x = 0
      · subst hx
        go_wp2_with fail
        go_roundw
        case rel => refine ⟨1, by go_num, by omega, ?_, ?_, ?_⟩ <;> simp
        case measure => simp [intOf]
      · have t : (x == 0) = false := beq_eq_false_iff_ne.2 hx
        go_wp2_with fail
        go_ret
        exact ⟨rfl, rfl⟩
    · obtain rfl := z1 (by omega)
      by_cases hy : y = 0
      · subst hy
        go_wp2_with fail
        go_roundw
        case rel => refine ⟨2, by go_num, by omega, ?_, ?_, ?_⟩ <;> simp
        case measure => simp [intOf]
      · have t : (y == 0) = false := beq_eq_false_iff_ne.2 hy
        go_wp2_with fail
        go_ret
        exact ⟨rfl, rfl⟩
    · obtain rfl := z1 (by omega)
      obtain rfl := z2 (by omega)
      go_wp2_with fail
      go_ret
      exact ⟨rfl, rfl⟩
theorem Or2_at (A : Option Addr) (c : Nat) (x y Z : Int) (w : World) (B : Nat) (hz : Z = if x = 0 then y else x) (hS : Sh w B .i64 A 2 [x, y]) :
    Calls Tryd.prog 31 #[.slice A 2 c] w fun e w' => e = .returned (.int .i64 Z) ∧ w = w' := by
  subst hz
  exact Or2_any A c x y w B hS
end Go.Proofs.YtjbkpiimjkekgaaDoor.Name
