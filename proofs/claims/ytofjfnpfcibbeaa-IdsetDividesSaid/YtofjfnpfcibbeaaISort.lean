/- The library's Grow, Concat, Sort and Compact at lists of integers, and the set of some lists. -/
import Derived.Test.YtofjfnpfcibbeaaIRefs
import Derived.Test.YtofjfnpfcibbeaaShelf
import Derived.Sort.OwnSortedInts
import Derived.Lib.OwnBridge
import Derived.Lib.AppendZerosOnto
namespace Go.Proofs.Ytofjfnpfcibbeaa.Idset
open Go.RowKit
open Go.Proofs.Ytofjfnpfcibbeaa.Wire
set_option linter.unusedVariables false

/-! plain: what is left of a sorted list -/
theorem upto_mem {d : Array Int} : ∀ m, m ≤ d.size → ∀ x, x ∈ Lib.compactUpTo d m ↔ ∃ j, j < m ∧ d[j]! = x := by
  intro m
  induction m with
  | zero => intro _ x; simp [Lib.compactUpTo]
  | succ m ih =>
    intro hm x
    rw [Lib.compactUpTo_succ, List.mem_append, ih (by omega)]
    constructor
    · rintro (⟨j, hj, h⟩ | h)
      · exact ⟨j, by omega, h⟩
      · split at h
        · exact ⟨m, by omega, (List.mem_singleton.1 h).symm⟩
        · simp at h
    · rintro ⟨j, hj, h⟩
      by_cases hjm : j = m
      · subst hjm
        by_cases hk : Lib.keeps d j = true
        · right; rw [if_pos hk]; exact List.mem_singleton.2 h.symm
        · left
          have h0 : 0 < j := by
            rcases Nat.eq_zero_or_pos j with e | e
            · subst e; exact absurd (Lib.keeps_lt_one d 0 (by omega)) hk
            · exact e
          refine ⟨j - 1, by omega, ?_⟩
          rw [← h]
          by_cases he : d[j]! = d[j - 1]!
          · exact he.symm
          · exact absurd (Lib.keeps_pos he) hk
      · exact .inl ⟨j, by omega, h⟩
theorem upto_asc {d : Array Int} (hs : ∀ i j, i < j → j < d.size → d[i]! ≤ d[j]!) : ∀ m, m ≤ d.size → asc (Lib.compactUpTo d m) := by
  intro m
  induction m with
  | zero => intro _; simp [Lib.compactUpTo, asc]
  | succ m ih =>
    intro hm
    rw [Lib.compactUpTo_succ, asc_app]
    refine ⟨ih (by omega), ?_, ?_⟩
    · split
      · simp [asc]
      · exact asc_nil
    · intro x hx y hy
      split at hy
      · rename_i hk
        obtain rfl := List.mem_singleton.1 hy
        obtain ⟨j, hj, rfl⟩ := (upto_mem m (by omega) x).1 hx
        have h1 : d[m]! ≠ d[m - 1]! := by
          intro e
          rw [Lib.keeps_neg (by omega) e] at hk
          cases hk
        have h2 := hs (m - 1) m (by omega) (by omega)
        have h3 : d[j]! ≤ d[m - 1]! := by
          by_cases e : j = m - 1
          · rw [e]; exact Int.le_refl _
          · exact hs j (m - 1) (by omega) (by omega)
        omega
      · simp at hy
theorem compact_sorted (l : List Int) : Lib.compact (l.mergeSort fun x y => decide (x ≤ y)) = nrm l := by
  have hp : (l.mergeSort fun x y => decide (x ≤ y)).Pairwise (· ≤ ·) := by
    have := List.pairwise_mergeSort (le := fun x y : Int => decide (x ≤ y)) (fun a b c h1 h2 => by simp at *; omega) (fun a b => by simp; omega) l
    exact this.imp (by intro a b h; simpa using h)
  have hm : ∀ x, x ∈ (l.mergeSort fun x y => decide (x ≤ y)) ↔ x ∈ l := fun x => List.mem_mergeSort
  generalize (l.mergeSort fun x y => decide (x ≤ y)) = s at *
  unfold Lib.compact
  refine asc_ext (upto_asc ?_ _ (by simp)) (nrm_asc l) fun x => ?_
  · intro i j hij hj
    have hj' : j < s.length := by simpa using hj
    have := List.pairwise_iff_getElem.1 hp i j (by omega) hj' hij
    simpa [getElem!_pos, show i < s.length by omega, hj'] using this
  · rw [upto_mem _ (by simp), nrm_mem, ← hm x, List.mem_iff_getElem]
    constructor
    · rintro ⟨j, hj, h⟩
      exact ⟨j, hj, by simpa [getElem!_pos, hj] using h⟩
    · rintro ⟨j, hj, h⟩
      exact ⟨j, hj, by simpa [getElem!_pos, hj] using h⟩

/-! some lists one behind the other -/
def tot (N : Nat → Nat) : Nat → Nat
  | 0 => 0
  | k + 1 => tot N k + N k
def cat (X : Nat → List Int) : Nat → List Int
  | 0 => []
  | k + 1 => cat X k ++ X k
theorem tot_le (N : Nat → Nat) {m : Nat} : ∀ k, k ≤ m → tot N k ≤ tot N m := by
  induction m with
  | zero => intro k hk; obtain rfl : k = 0 := by omega
            exact Nat.le_refl _
  | succ m ih =>
    intro k hk
    by_cases h : k = m + 1
    · subst h; exact Nat.le_refl _
    · have := ih k (by omega); simp only [tot]; omega

theorem Grow_nil (n : Nat) (w : World) (hm : n ≤ 1099511627776) :
    Calls Try.prog 33 #[.slice none 0 0, .int .i64 n] w fun e w' => ∃ A c, e = .returned (.slice A 0 c) ∧ Ow w' w.heap.size 3 .i64 A 0 c [] ∧ Bl w w' := by
  by_cases h0 : n = 0
  · subst h0
    go_enter Try.func33, Try.ntmps33
    go_wp2_with fail
    go_ret
    exact ⟨none, 0, rfl, Ow.none_ _ _ _ _, Bl.refl _⟩
  · obtain ⟨ht, i, hi, hz, hs, hb⟩ := elI
    obtain ⟨G, hG⟩ : ∃ G, G = grownCap w n 0 3 := ⟨_, rfl⟩
    have hGn : n ≤ G := by rw [hG]; exact grownCap_ge w _ _ _
    have hG63 : G ≤ maxLen := by rw [hG]; exact grownCap_le_maxLen w _ _ _ (by unfold maxLen; omega)
    obtain ⟨cs, hcs⟩ : ∃ cs : Array Value, cs = (#[] : Array Value) ++ Builtin.zeroCells (Value.int .i64 0).cells n ++ Builtin.zeroCells (Value.int .i64 0).cells (G - n) := ⟨_, rfl⟩
    have hsz : cs.size = G * 1 := by
      rw [hcs]
      simp only [Array.size_append, size_zeroCells, Array.size_empty]
      have : (Value.int .i64 0).cells.size = 1 := rfl
      rw [this]; omega
    have hrz : ∀ ty, (Builtin.append_ #[22, 3] ty #[.slice none 0 0, .int .i64 n]).run Try.prog w = .ok (.slice (some ⟨w.heap.size, 0, none⟩) n G) (w.drew.alloc (.cells cs 3)) := fun ty => by
      have h := Lib.run_append_grow_zeros (P := Try.prog) w 22 3 ty 3 i (.int .i64 0) .i64 .i64 Try.underlying22 Try.underlying3 hi hz none 0 0 [] (run_firstCells_none w.drew i.size 0 0 0) n (by omega) (by omega) (by omega) (by omega) (by rw [hb]; omega)
        (growslice_fits (by omega) (by rw [hb]; omega))
      rw [Nat.zero_add, ← hG] at h
      rw [hcs]
      exact h
    have HO : Hid (Ow (w.drew.alloc (.cells cs 3)) w.heap.size 3 .i64 (some ⟨w.heap.size, 0, none⟩) 0 G []) := hid (World.ownsRow_made w.drew cs G (Nat.le_refl _) hG63 hsz)
    clear hsz hcs hG
    go_enter Try.func33, Try.ntmps33
    go_wp2_with (at_builtin; refine Lib.wpList_append_run _ rfl _ _ _ _ rfl _ _ rfl rfl _ _ (hrz _) ?_)
    go_ret
    exact ⟨_, _, rfl, HO.out, (Bl.refl w).drew.alloc _⟩
end Go.Proofs.Ytofjfnpfcibbeaa.Idset
