/- Contract of the statements' own function count; how many Hebrew code points. -/
import Derived.Test.YtajcalmjdfhedaaDoorYAwake
namespace Go.Proofs.YtajcalmjdfhedaaDoor.Glyph
open Go.RowKit
open Go.Proofs.YtajcalmjdfhedaaDoor.Wire
set_option linter.unusedVariables false

set_option maxHeartbeats 600000 in
theorem count_any (A : Option Addr) (n c : Nat) (xs : List Int) (N : Int) (w : World) (B : Nat) (hS : Sh w B .i64 A n xs) (hm : n ≤ 17592186044416) :
    Calls Tryd.prog 26 #[.slice A n c, .int .i64 N] w fun e w' => e = .returned (.int .i64 (cnt xs N)) ∧ w = w' := by
  have hl := hid hS.len
  go_enter Tryd.func26, Tryd.ntmps26
  go_wp2_with fail
  go_loop [5, 6] (fun v i => ∃ (k C : Nat), v = .int .i64 C ∧ i = .int .i64 k ∧ k ≤ n ∧ C ≤ k ∧ Hid (C = cnt (xs.take k) N)) (fun _ i => n - (intOf i).toNat)
  case atStart => exact ⟨0, 0, rfl, rfl, by omega, by omega, hid rfl⟩
  case round =>
    obtain ⟨k, C, rfl, rfl, hk, hC, he⟩ := hrel
    by_cases hlt : k < n
    · obtain ⟨b, o, rfl, _, hcell⟩ := hS.2 (by omega)
      have hc1 := hcell k hlt
      have hsn := hid (take_snoc (l := xs) (i := k) (by rw [hl.out]; omega))
      clear hcell
      generalize xs.getD k 0 = x at *
      have hcs := hid (cnt_snoc (xs.take k) x N)
      by_cases hx : x = N
      · have fin := hid (show C + 1 = cnt (xs.take (k + 1)) N by rw [hsn.out, hcs.out, if_pos hx, he.out])
        subst hx
        go_wp2_with fail
        go_round
        case rel => exact ⟨k + 1, C + 1, by go_num, by go_num, by omega, by omega, fin⟩
        case measure => simp [intOf]; omega
      · have fin := hid (show C = cnt (xs.take (k + 1)) N by rw [hsn.out, hcs.out, if_neg hx, he.out]; rfl)
        have t : (x == N) = false := beq_eq_false_iff_ne.2 hx
        go_wp2_with fail
        go_round
        case rel => exact ⟨k + 1, C, rfl, by go_num, by omega, by omega, fin⟩
        case measure => simp [intOf]; omega
    · obtain rfl : k = n := by omega
      have fin := hid (show C = cnt xs N by rw [he.out, take_all (by rw [hl.out]; exact Nat.le_refl _)])
      go_wp2_with fail
      go_ret
      exact ⟨ret1 (by rw [fin.out]), rfl⟩

def heb (r : Int) : Bool := decide (1488 ≤ r ∧ r ≤ 1514)
def hbc (l : List Int) : Nat := l.countP heb
theorem hbc_snoc (l : List Int) (r : Int) : hbc (l ++ [r]) = hbc l + if heb r then 1 else 0 := by
  unfold hbc
  rw [List.countP_append, List.countP_singleton]
theorem hbc_zero {l : List Int} (h : hbc l = 0) : ord l = l := by
  refine ord_id fun r hr hx => ?_
  have := List.countP_eq_zero.1 h r hr
  exact this (decide_eq_true hx)
theorem hbc_all {l : List Int} (h : hbc l = l.length) : ord l = l.reverse := by
  refine ord_rev fun r hr => ?_
  have := List.countP_eq_length.1 h r hr
  exact of_decide_eq_true this
theorem hbc_le (l : List Int) : hbc l ≤ l.length := List.countP_le_length
theorem rev_at {l : List Int} {i : Nat} (h : i < l.length) : l.reverse.getD i 0 = l.getD (l.length - 1 - i) 0 := by
  simp only [List.getD]
  rw [List.getElem?_reverse h]
end Go.Proofs.YtajcalmjdfhedaaDoor.Glyph
