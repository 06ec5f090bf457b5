/- Contracts of the reference of idset: Has, Valid, Same; few. -/
import Derived.Test.YtofjfnpfcibbeaaGKit
import Derived.Test.YtofjfnpfcibbeaaIPlain
namespace Go.Proofs.Ytofjfnpfcibbeaa.Idset
open Go.RowKit
open Go.Proofs.Ytofjfnpfcibbeaa.Wire
set_option linter.unusedVariables false

theorem elI : El Try.prog 22 3 .i64 8 := ⟨Try.underlying22, info_parts (by kernel_rfl)⟩
def oks (l : List Int) : Prop := ∀ x ∈ l, -9223372036854775808 ≤ x ∧ x ≤ 9223372036854775807
theorem oks_at {l : List Int} (h : oks l) (k : Nat) : -9223372036854775808 ≤ l.getD k 0 ∧ l.getD k 0 ≤ 9223372036854775807 := by
  rcases Nat.lt_or_ge k l.length with g | g
  · have : l.getD k 0 = l[k] := by simp [List.getD, List.getElem?_eq_getElem g]
    rw [this]; exact h _ (List.getElem_mem _)
  · have : l.getD k 0 = 0 := by simp [List.getD, List.getElem?_eq_none g]
    rw [this]; decide
theorem getD_mem {l : List Int} {k : Nat} (h : k < l.length) : l.getD k 0 ∈ l := by
  have : l.getD k 0 = l[k] := by simp [List.getD, List.getElem?_eq_getElem h]
  rw [this]; exact List.getElem_mem _

set_option maxHeartbeats 600000 in
theorem RHas_any (A : Option Addr) (n c : Nat) (xs : List Int) (N : Int) (w : World) (B : Nat) (hS : Sh w B .i64 A n xs) (hm : n ≤ 17592186044416) :
    Calls Try.prog 14 #[.slice A n c, .int .i64 N] w fun e w' => e = .returned (.bool (hasb xs N)) ∧ w = w' := by
  have hl := hid hS.len
  go_enter Try.func14, Try.ntmps14
  go_wp2_with fail
  go_loop [5] (fun i => ∃ (k : Nat), i = .int .i64 k ∧ k ≤ n ∧ Hid (¬ N ∈ xs.take k)) (fun i => n - (intOf i).toNat)
  case atStart => exact ⟨0, rfl, by omega, hid (by simp)⟩
  case round =>
    obtain ⟨k, rfl, hk, hn⟩ := hrel
    by_cases hlt : k < n
    · obtain ⟨b, o, rfl, _, hcell⟩ := hS.2 (by omega)
      have hc1 := hcell k hlt
      have hsn := hid (take_snoc (l := xs) (i := k) (by rw [hl.out]; omega))
      have hgm := hid (getD_mem (l := xs) (k := k) (by rw [hl.out]; omega))
      clear hcell
      generalize xs.getD k 0 = x at *
      by_cases hx : x = N
      · subst hx
        go_wp2_with fail
        go_ret
        exact ⟨retB (by unfold hasb; rw [decide_eq_true hgm.out]), rfl⟩
      · have t : (x == N) = false := by simpa using hx
        go_wp2_with fail
        go_round
        case rel => exact ⟨k + 1, by go_num, by omega, hid (by rw [hsn.out]; simp only [List.mem_append, List.mem_singleton]; rintro (h | h); exact hn.out h; exact hx h.symm)⟩
        case measure => simp [intOf]; omega
    · obtain rfl : k = n := by omega
      go_wp2_with fail
      go_ret
      have := hn.out
      rw [take_all (by rw [hl.out]; omega)] at this
      exact ⟨retB (by unfold hasb; rw [decide_eq_false this]), rfl⟩

set_option maxHeartbeats 600000 in
theorem RValid_any (A : Option Addr) (n c : Nat) (xs : List Int) (w : World) (B : Nat) (hS : Sh w B .i64 A n xs) (hm : n ≤ 17592186044416) :
    Calls Try.prog 12 #[.slice A n c] w fun e w' => e = .returned (.bool (vld xs)) ∧ Q w w' := by
  have hl := hid hS.len
  go_enter Try.func12, Try.ntmps12
  go_wp2_with fail
  go_loopw [3] (fun i wr => ∃ (k : Nat), i = .int .i64 ((k : Int) + 1) ∧ k ≤ n ∧ Hid (∀ i, i < k → i + 1 < n → xs.getD i 0 < xs.getD (i + 1) 0) ∧ Q w wr) (fun i _ => n + 1 - (intOf i).toNat)
  case atStart => exact ⟨0, rfl, by omega, hid (fun i h => by omega), Q.refl _⟩
  case round =>
    obtain ⟨k, rfl, hk, hp, hq⟩ := hrel
    by_cases hlt : k + 1 < n
    · obtain ⟨b, o, rfl, _, hcell⟩ := (hS.below (hq.below B)).2 (by omega)
      have hc1 := hcell k (by omega)
      have hc2 := hcell (k + 1) hlt
      clear hcell
      have i1 : (0 : Int) ≤ (k : Int) + 1 := by omega
      have i2 : (k : Int) + 1 < (n : Int) := by omega
      have i3 : ((k : Int) + 1).toNat = k + 1 := by omega
      by_cases hxy : xs.getD k 0 < xs.getD (k + 1) 0
      · have hp' := hid (show ∀ i, i < k + 1 → i + 1 < n → xs.getD i 0 < xs.getD (i + 1) 0 from fun i h1 h2 => by
          by_cases e : i = k
          · subst e; exact hxy
          · exact hp.out i (by omega) h2)
        generalize xs.getD k 0 = x at hc1 hxy
        generalize xs.getD (k + 1) 0 = y at hc2 hxy
        go_wp2_with fail
        go_quiet (fail)
        go_wp2_with fail
        go_roundw
        case rel => exact ⟨k + 1, by go_num, by omega, hp', hq.drewN _⟩
        case measure => simp [intOf]; omega
      · have fin := hid (show vld xs = false by
          unfold vld
          rw [decide_eq_false]
          intro h
          exact hxy ((asc_step xs).1 h k (by rw [hl.out]; exact hlt)))
        generalize xs.getD k 0 = x at hc1 hxy
        generalize xs.getD (k + 1) 0 = y at hc2 hxy
        have hyx : y ≤ x := by omega
        go_wp2_with fail
        go_quiet (fail)
        go_wp2_with fail
        go_ret
        exact ⟨retB fin.out.symm, hq.drewN _⟩
    · have fin := hid (show vld xs = true by
        unfold vld
        rw [decide_eq_true]
        exact (asc_step xs).2 fun i hi => hp.out i (by have := hl.out; omega) (by have := hl.out; omega))
      go_wp2_with fail
      go_ret
      exact ⟨retB fin.out.symm, hq⟩
/-- two lists are equal -/
def eqb (xs ys : List Int) : Bool := decide (xs = ys)
theorem eqb_yes {xs ys : List Int} (h : xs = ys) : eqb xs ys = true := by simp [eqb, h]
theorem eqb_no {xs ys : List Int} (h : xs ≠ ys) : eqb xs ys = false := by simp [eqb, h]
set_option maxHeartbeats 600000 in
theorem Same_any (A A' : Option Addr) (n n' c c' : Nat) (xs ys : List Int) (w : World) (B B' : Nat) (hS : Sh w B .i64 A n xs) (hS' : Sh w B' .i64 A' n' ys) (hm : n ≤ 17592186044416) (hm' : n' ≤ 17592186044416) :
    Calls Try.prog 16 #[.slice A n c, .slice A' n' c'] w fun e w' => e = .returned (.bool (eqb xs ys)) ∧ Q w w' := by
  have hl := hid hS.len
  have hl' := hid hS'.len
  by_cases hn : n = n'
  · subst hn
    go_enter Try.func16, Try.ntmps16
    go_wp2_with fail
    go_loopw [5] (fun i wr => ∃ (k : Nat), i = .int .i64 k ∧ k ≤ n ∧ Hid (xs.take k = ys.take k) ∧ Q w wr) (fun i _ => n - (intOf i).toNat)
    case atStart => exact ⟨0, rfl, by omega, hid rfl, Q.refl _⟩
    case round =>
      obtain ⟨k, rfl, hk, he, hq⟩ := hrel
      by_cases hlt : k < n
      · obtain ⟨b, o, rfl, _, hcell⟩ := (hS.below (hq.below B)).2 (by omega)
        obtain ⟨b', o', rfl, _, hcell'⟩ := (hS'.below (hq.below B')).2 (by omega)
        have hc1 := hcell k hlt
        have hc2 := hcell' k hlt
        have t1 := hid (take_snoc (l := xs) (i := k) (by rw [hl.out]; omega))
        have t2 := hid (take_snoc (l := ys) (i := k) (by rw [hl'.out]; omega))
        clear hcell hcell'
        by_cases hxy : xs.getD k 0 = ys.getD k 0
        · rw [hxy] at hc1 t1
          generalize ys.getD k 0 = y at *
          clear hxy
          go_wp2_with fail
          go_quiet (fail)
          go_wp2_with fail
          go_roundw
          case rel => exact ⟨k + 1, by go_num, by omega, hid (by rw [t1.out, t2.out, he.out]), hq.drewN _⟩
          case measure => simp [intOf]; omega
        · have hne : xs ≠ ys := fun e => hxy (by rw [e])
          have fin := hid (eqb_no hne)
          clear hne
          generalize xs.getD k 0 = x at *
          generalize ys.getD k 0 = y at *
          have t : (x == y) = false := by simpa using hxy
          go_wp2_with fail
          go_quiet (fail)
          go_wp2_with fail
          go_ret
          exact ⟨retB fin.out.symm, hq.drewN _⟩
      · obtain rfl : k = n := by omega
        go_wp2_with fail
        go_ret
        have := he.out
        rw [take_all (by rw [hl.out]; omega), take_all (by rw [hl'.out]; omega)] at this
        exact ⟨retB (eqb_yes this).symm, hq⟩
  · have hne : xs ≠ ys := fun e => hn (by rw [← hl.out, ← hl'.out, e])
    have fin := hid (eqb_no hne)
    clear hne
    have t : ((n : Int) == (n' : Int)) = false := by simp; omega
    go_enter Try.func16, Try.ntmps16
    go_wp2_with fail
    go_ret
    exact ⟨retB fin.out.symm, Q.refl _⟩


theorem Same_yes (A A' : Option Addr) (n n' c c' : Nat) (xs ys : List Int) (w : World) (hS : Sh w w.heap.size .i64 A n xs) (hS' : Sh w w.heap.size .i64 A' n' ys) (hm : n ≤ 17592186044416) (hm' : n' ≤ 17592186044416) (h : xs = ys) :
    Calls Try.prog 16 #[.slice A n c, .slice A' n' c'] w fun e w' => e = .returned (.bool true) ∧ Q w w' := by
  have := Same_any A A' n n' c c' xs ys w _ _ hS hS' hm hm'
  rwa [eqb_yes h] at this
end Go.Proofs.Ytofjfnpfcibbeaa.Idset
