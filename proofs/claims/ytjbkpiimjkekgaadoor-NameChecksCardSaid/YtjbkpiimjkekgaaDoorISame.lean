/- Same of the reference of idset: are two lists equal? -/
import Derived.Test.YtjbkpiimjkekgaaDoorGKit
namespace Go.Proofs.YtjbkpiimjkekgaaDoor.Idset
open Go.RowKit
open Go.Proofs.YtjbkpiimjkekgaaDoor.Wire
set_option linter.unusedVariables false

theorem elI : El Tryd.prog 24 3 .i64 8 := ⟨Tryd.underlying24, info_parts (by kernel_rfl)⟩
/-- two lists are equal -/
def eqb (xs ys : List Int) : Bool := decide (xs = ys)
theorem eqb_yes {xs ys : List Int} (h : xs = ys) : eqb xs ys = true := by simp [eqb, h]
theorem eqb_no {xs ys : List Int} (h : xs ≠ ys) : eqb xs ys = false := by simp [eqb, h]
set_option maxHeartbeats 600000 in
theorem Same_any (A A' : Option Addr) (n n' c c' : Nat) (xs ys : List Int) (w : World) (B B' : Nat) (hS : Sh w B .i64 A n xs) (hS' : Sh w B' .i64 A' n' ys) (hm : n ≤ 17592186044416) (hm' : n' ≤ 17592186044416) :
    Calls Tryd.prog 16 #[.slice A n c, .slice A' n' c'] w fun e w' => e = .returned (.bool (eqb xs ys)) ∧ Q w w' := by
  have hl := hid hS.len
  have hl' := hid hS'.len
  by_cases hn : n = n'
  · subst hn
    go_enter Tryd.func16, Tryd.ntmps16
    go_wp2_with fail
    go_loopw [5] (fun i wr => ∃ (k : Nat), i = .int .i64 k ∧ k ≤ n ∧ Hid (xs.take k = ys.take k) ∧ Q w wr) (fun i _ => n - (intOf i).toNat)
    case atStart => exact ⟨0, rfl, by omega, hid rfl, Q.refl _⟩
    case round =>
      obtain ⟨k, rfl, hk, he, hq⟩ := hrel
      by_cases hlt : k < n
      · obtain ⟨b, o, rfl, _, hcell⟩ := (hS.below (hq.below B)).2 (by omega)
        obtain ⟨b', o', rfl, _, hcell'⟩ := (hS'.below (hq.below B')).2 (by omega)
        have hc1 := hcell k hlt
        have hc2 := hcell' k hlt
        have t1 := hid (take_snoc (l := xs) (i := k) (by rw [hl.out]; omega))
        have t2 := hid (take_snoc (l := ys) (i := k) (by rw [hl'.out]; omega))
        clear hcell hcell'
        by_cases hxy : xs.getD k 0 = ys.getD k 0
        · rw [hxy] at hc1 t1
          generalize ys.getD k 0 = y at *
          clear hxy
          go_wp2_with fail
          go_quiet (fail)
          go_wp2_with fail
          go_roundw
          case rel => exact ⟨k + 1, by go_num, by omega, hid (by rw [t1.out, t2.out, he.out]), hq.drewN _⟩
          case measure => simp [intOf]; omega
        · have hne : xs ≠ ys := fun e => hxy (by rw [e])
          have fin := hid (eqb_no hne)
          clear hne
          generalize xs.getD k 0 = x at *
          generalize ys.getD k 0 = y at *
          have t : (x == y) = false := by simpa using hxy
          go_wp2_with fail
          go_quiet (fail)
          go_wp2_with fail
          go_ret
          exact ⟨retB fin.out.symm, hq.drewN _⟩
      · obtain rfl : k = n := by omega
        go_wp2_with fail
        go_ret
        have := he.out
        rw [take_all (by rw [hl.out]; omega), take_all (by rw [hl'.out]; omega)] at this
        exact ⟨retB (eqb_yes this).symm, hq⟩
  · have hne : xs ≠ ys := fun e => hn (by rw [← hl.out, ← hl'.out, e])
    have fin := hid (eqb_no hne)
    clear hne
    have t : ((n : Int) == (n' : Int)) = false := by simp; omega
    go_enter Tryd.func16, Tryd.ntmps16
    go_wp2_with fail
    go_ret
    exact ⟨retB fin.out.symm, Q.refl _⟩


theorem Same_yes (A A' : Option Addr) (n n' c c' : Nat) (xs ys : List Int) (w : World) (hS : Sh w w.heap.size .i64 A n xs) (hS' : Sh w w.heap.size .i64 A' n' ys) (hm : n ≤ 17592186044416) (hm' : n' ≤ 17592186044416) (h : xs = ys) :
    Calls Tryd.prog 16 #[.slice A n c, .slice A' n' c'] w fun e w' => e = .returned (.bool true) ∧ Q w w' := by
  have := Same_any A A' n n' c c' xs ys w _ _ hS hS' hm hm'
  rwa [eqb_yes h] at this
end Go.Proofs.YtjbkpiimjkekgaaDoor.Idset
