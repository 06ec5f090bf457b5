/- Contracts of the reference of name: mark, common, blanks, numbers, bytes. -/
import Derived.Test.YtjbkpiimjkekgaaDoorYRef7
import Derived.Test.YtjbkpiimjkekgaaDoorNPlain
import Derived.BigQuiet
namespace Go.Proofs.YtjbkpiimjkekgaaDoor.Name
open Go.RowKit
open Go.Proofs.YtjbkpiimjkekgaaDoor.Wire
open Go.Proofs.YtjbkpiimjkekgaaDoor.Glyph
set_option linter.unusedVariables false

theorem RMark_any (r : Int) (w : World) :
    Calls Tryd.prog 27 #[.int .i64 r] w fun e w' => e = .returned (.bool (mrk r)) ∧ w = w' := by
  have hm := hid (show mrk r = decide (r = 32 ∨ r = 39 ∨ r = 40 ∨ r = 41 ∨ r = 45 ∨ r = 46) from rfl)
  generalize mrk r = M at *
  by_cases h1 : r = 32
  · subst h1
    go_enter Tryd.func27, Tryd.ntmps27
    go_wp2_with fail
    go_ret
    exact ⟨retB (by rw [hm.out]; decide), rfl⟩
  have t1 : (r == 32) = false := by simpa using h1
  by_cases h2 : r = 39
  · subst h2
    go_enter Tryd.func27, Tryd.ntmps27
    go_wp2_with fail
    go_ret
    exact ⟨retB (by rw [hm.out]; decide), rfl⟩
  have t2 : (r == 39) = false := by simpa using h2
  by_cases h3 : r = 40
  · subst h3
    go_enter Tryd.func27, Tryd.ntmps27
    go_wp2_with fail
    go_ret
    exact ⟨retB (by rw [hm.out]; decide), rfl⟩
  have t3 : (r == 40) = false := by simpa using h3
  by_cases h4 : r = 41
  · subst h4
    go_enter Tryd.func27, Tryd.ntmps27
    go_wp2_with fail
    go_ret
    exact ⟨retB (by rw [hm.out]; decide), rfl⟩
  have t4 : (r == 41) = false := by simpa using h4
  by_cases h5 : r = 45
  · subst h5
    go_enter Tryd.func27, Tryd.ntmps27
    go_wp2_with fail
    go_ret
    exact ⟨retB (by rw [hm.out]; decide), rfl⟩
  have t5 : (r == 45) = false := by simpa using h5
  by_cases h6 : r = 46
  · subst h6
    go_enter Tryd.func27, Tryd.ntmps27
    go_wp2_with fail
    go_ret
    exact ⟨retB (by rw [hm.out]; decide), rfl⟩
  have t6 : (r == 46) = false := by simpa using h6
  go_enter Tryd.func27, Tryd.ntmps27
  go_wp2_with fail
  go_ret
  exact ⟨retB (by rw [hm.out, decide_eq_false]; omega), rfl⟩

theorem com_snoc (l : List Int) (x : Int) : com (l ++ [x]) = (com l && decide (scr x = 0)) := by unfold com; simp [List.all_append]
theorem com_no {l : List Int} {x : Int} (hx : x ∈ l) (h : scr x ≠ 0) : com l = false := by
  unfold com
  rw [List.all_eq_false]
  exact ⟨x, hx, by simpa using h⟩
theorem getD_mem {l : List Int} {k : Nat} (h : k < l.length) : l.getD k 0 ∈ l := by
  have : l.getD k 0 = l[k] := by simp [List.getD, List.getElem?_eq_getElem h]
  rw [this]; exact List.getElem_mem _
set_option maxHeartbeats 600000 in
theorem RCommon_any (A : Option Addr) (n c : Nat) (xs : List Int) (w : World) (B : Nat) (hS : Sh w B .i64 A n xs) (hm : n ≤ 1099511627776) :
    Calls Tryd.prog 30 #[.slice A n c] w fun e w' => e = .returned (.bool (com xs)) ∧ w = w' := by
  have hl := hid hS.len
  go_enter Tryd.func30, Tryd.ntmps30
  go_wp2_with fail
  go_loop [3] (fun i => ∃ (k : Nat), i = .int .i64 k ∧ k ≤ n ∧ Hid (com (xs.take k) = true)) (fun i => n - (intOf i).toNat)
  case atStart => exact ⟨0, rfl, by omega, hid rfl⟩
  case round =>
    obtain ⟨k, rfl, hk, hp⟩ := hrel
    by_cases hlt : k < n
    · obtain ⟨b, o, rfl, _, hcell⟩ := hS.2 (by omega)
      have hc1 := hcell k hlt
      have hsn := hid (take_snoc (l := xs) (i := k) (by rw [hl.out]; omega))
      have hmem := hid (getD_mem (l := xs) (k := k) (by rw [hl.out]; omega))
      clear hcell
      generalize xs.getD k 0 = x at *
      have c1 := RScript_any x w
      by_cases hx : scr x = 0
      · have fin := hid (show com (xs.take (k + 1)) = true by rw [hsn.out, com_snoc, hp.out, hx]; rfl)
        rw [hx] at c1
        have C1 := hid c1
        clear c1 hx
        go_wp2_with fail
        refine C1.out.mono ?_
        rintro e w' ⟨rfl, rfl⟩
        go_wp2_with fail
        go_round
        case rel => exact ⟨k + 1, by go_num, by omega, fin⟩
        case measure => simp [intOf]; omega
      · have fin := hid (com_no hmem.out hx)
        generalize scr x = S at *
        have t : (S == 0) = false := by simpa using hx
        have C1 := hid c1
        clear c1
        go_wp2_with fail
        refine C1.out.mono ?_
        rintro e w' ⟨rfl, rfl⟩
        go_wp2_with fail
        go_ret
        exact ⟨retB fin.out.symm, rfl⟩
    · obtain rfl : n = k := by omega
      go_wp2_with fail
      go_ret
      have := hp.out
      rw [take_all (by rw [hl.out]; omega)] at this
      exact ⟨retB this.symm, rfl⟩

theorem twice_iff : ∀ l : List Int, twice l = true ↔ ∃ i, i + 1 < l.length ∧ l.getD i 0 = 32 ∧ l.getD (i + 1) 0 = 32
  | [] => by simp [twice]
  | [a] => by simp [twice]
  | a :: b :: l => by
    simp only [twice, Bool.or_eq_true, decide_eq_true_eq]
    rw [twice_iff (b :: l)]
    constructor
    · rintro (⟨h1, h2⟩ | ⟨i, h1, h2, h3⟩)
      · exact ⟨0, by simp, h1, h2⟩
      · exact ⟨i + 1, by simpa using h1, by simpa [List.getD] using h2, by simpa [List.getD] using h3⟩
    · rintro ⟨i, h1, h2, h3⟩
      cases i with
      | zero => exact .inl ⟨h2, h3⟩
      | succ i => exact .inr ⟨i, by simpa using h1, by simpa [List.getD] using h2, by simpa [List.getD] using h3⟩
theorem blk_first {l : List Int} (h : l.getD 0 0 = 32) : blk l = true := by unfold blk; rw [h]; simp
theorem blk_last {l : List Int} (h : l.getD (l.length - 1) 0 = 32) : blk l = true := by unfold blk; rw [h]; simp
theorem blk_two {l : List Int} {i : Nat} (h : i + 1 < l.length) (h1 : l.getD i 0 = 32) (h2 : l.getD (i + 1) 0 = 32) : blk l = true := by
  unfold blk; rw [(twice_iff l).2 ⟨i, h, h1, h2⟩]; simp
theorem blk_none {l : List Int} (h1 : l.getD 0 0 ≠ 32) (h2 : l.getD (l.length - 1) 0 ≠ 32) (h : ∀ i, i + 1 < l.length → ¬ (l.getD i 0 = 32 ∧ l.getD (i + 1) 0 = 32)) : blk l = false := by
  unfold blk
  rw [decide_eq_false h1, decide_eq_false h2]
  cases ht : twice l with
  | false => rfl
  | true =>
    obtain ⟨i, a, b, c⟩ := (twice_iff l).1 ht
    exact absurd ⟨b, c⟩ (h i a)
set_option maxHeartbeats 1000000 in
theorem RBlanks_any (A : Option Addr) (n c : Nat) (xs : List Int) (w : World) (B : Nat) (hS : Sh w B .i64 A n xs) (h0 : 0 < n) (hm : n ≤ 1099511627776) :
    Calls Tryd.prog 29 #[.slice A n c] w fun e w' => e = .returned (.bool (blk xs)) ∧ w = w' := by
  have hl := hid hS.len
  obtain ⟨b, o, rfl, _, hcell⟩ := hS.2 h0
  have hc0 := hcell 0 h0
  have hcn := hcell (n - 1) (by omega)
  rw [Nat.add_zero] at hc0
  have HC := hid hcell
  clear hcell
  have i1 : (0 : Int) ≤ (n : Int) - 1 := by omega
  have i2 : (n : Int) - 1 < (n : Int) := by omega
  have i3 : ((n : Int) - 1).toNat = n - 1 := by omega
  by_cases hf : xs.getD 0 0 = 32
  · have fin := hid (blk_first hf)
    rw [hf] at hc0
    go_enter Tryd.func29, Tryd.ntmps29
    go_wp2_with fail
    go_ret
    exact ⟨retB fin.out.symm, rfl⟩
  · have HF := hid hf
    generalize hx0 : xs.getD 0 0 = x0 at hc0 hf
    have t0 : (x0 == 32) = false := by simpa using hf
    clear hx0
    by_cases hg : xs.getD (n - 1) 0 = 32
    · have fin := hid (blk_last (l := xs) (by rw [hl.out]; exact hg))
      rw [hg] at hcn
      go_enter Tryd.func29, Tryd.ntmps29
      go_wp2_with fail
      go_ret
      exact ⟨retB fin.out.symm, rfl⟩
    · have HG := hid hg
      generalize hx1 : xs.getD (n - 1) 0 = x1 at hcn hg
      have t1 : (x1 == 32) = false := by simpa using hg
      clear hx1
      go_enter Tryd.func29, Tryd.ntmps29
      go_wp2_with fail
      go_loop [3] (fun i => ∃ (k : Nat), i = .int .i64 ((k : Int) + 1) ∧ k < n ∧ Hid (∀ i, i < k → i + 1 < n → ¬ (xs.getD i 0 = 32 ∧ xs.getD (i + 1) 0 = 32))) (fun i => n + 1 - (intOf i).toNat)
      case atStart => exact ⟨0, rfl, h0, hid (fun i h => by omega)⟩
      case round =>
        obtain ⟨k, rfl, hk, hp⟩ := hrel
        by_cases hlt : k + 1 < n
        · have hc1 := HC.out k (by omega)
          have hc2 := HC.out (k + 1) hlt
          have j1 : (0 : Int) ≤ (k : Int) + 1 := by omega
          have j2 : (k : Int) + 1 < (n : Int) := by omega
          have j3 : ((k : Int) + 1).toNat = k + 1 := by omega
          have hlen := hid (show k + 1 < xs.length by rw [hl.out]; exact hlt)
          by_cases hx : xs.getD (k + 1) 0 = 32
          · by_cases hy : xs.getD k 0 = 32
            · have fin := hid (blk_two hlen.out hy hx)
              rw [hx] at hc2
              rw [hy] at hc1
              go_wp2_with fail
              go_ret
              exact ⟨retB fin.out.symm, rfl⟩
            · have hp' := hid (show ∀ i, i < k + 1 → i + 1 < n → ¬ (xs.getD i 0 = 32 ∧ xs.getD (i + 1) 0 = 32) from fun i h1 h2 => by
                by_cases e : i = k
                · subst e; exact fun h => hy h.1
                · exact hp.out i (by omega) h2)
              rw [hx] at hc2
              generalize xs.getD k 0 = y at hc1 hy
              have t2 : (y == 32) = false := by simpa using hy
              go_wp2_with fail
              go_round
              case rel => exact ⟨k + 1, by go_num, by omega, hp'⟩
              case measure => simp [intOf]; omega
          · have hp' := hid (show ∀ i, i < k + 1 → i + 1 < n → ¬ (xs.getD i 0 = 32 ∧ xs.getD (i + 1) 0 = 32) from fun i h1 h2 => by
              by_cases e : i = k
              · subst e; exact fun h => hx h.2
              · exact hp.out i (by omega) h2)
            generalize xs.getD (k + 1) 0 = x at hc2 hx
            have t2 : (x == 32) = false := by simpa using hx
            go_wp2_with fail
            go_round
            case rel => exact ⟨k + 1, by go_num, by omega, hp'⟩
            case measure => simp [intOf]; omega
        · have fin := hid (blk_none (l := xs) HF.out (by rw [hl.out]; exact HG.out) (fun i hi => hp.out i (by have := hl.out; omega) (by have := hl.out; omega)))
          go_wp2_with fail
          go_ret
          exact ⟨retB fin.out.symm, rfl⟩
end Go.Proofs.YtjbkpiimjkekgaaDoor.Name
