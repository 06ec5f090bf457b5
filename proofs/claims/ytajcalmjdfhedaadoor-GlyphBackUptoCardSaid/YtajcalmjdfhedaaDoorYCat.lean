/- slices.Concat of some lists of ints, one behind the other. -/
import Derived.Test.YtajcalmjdfhedaaDoorYRow
import Derived.Test.YtajcalmjdfhedaaDoorYRef
import Derived.Lib.AppendZerosOnto
namespace Go.Proofs.YtajcalmjdfhedaaDoor.Glyph
open Go.RowKit
open Go.Proofs.YtajcalmjdfhedaaDoor.Wire
set_option linter.unusedVariables false

def tot (N : Nat → Nat) : Nat → Nat
  | 0 => 0
  | k + 1 => tot N k + N k
def cat (X : Nat → List Int) : Nat → List Int
  | 0 => []
  | k + 1 => cat X k ++ X k
theorem tot_le (N : Nat → Nat) {m : Nat} : ∀ k, k ≤ m → tot N k ≤ tot N m := by
  induction m with
  | zero => intro k hk; obtain rfl : k = 0 := by omega
            exact Nat.le_refl _
  | succ m ih =>
    intro k hk
    by_cases h : k = m + 1
    · subst h; exact Nat.le_refl _
    · have := ih k (by omega); simp only [tot]; omega

theorem Grow_nil (n : Nat) (w : World) (hm : n ≤ 1099511627776) :
    Calls Tryd.prog 53 #[.slice none 0 0, .int .i64 n] w fun e w' => ∃ A c, e = .returned (.slice A 0 c) ∧ Ow w' w.heap.size 3 .i64 A 0 c [] ∧ Bl w w' := by
  by_cases h0 : n = 0
  · subst h0
    go_enter Tryd.func53, Tryd.ntmps53
    go_wp2_with fail
    go_ret
    exact ⟨none, 0, rfl, Ow.none_ _ _ _ _, Bl.refl _⟩
  · obtain ⟨ht, i, hi, hz, hs, hb⟩ := elI
    obtain ⟨G, hG⟩ : ∃ G, G = grownCap w n 0 3 := ⟨_, rfl⟩
    have hGn : n ≤ G := by rw [hG]; exact grownCap_ge w _ _ _
    have hG63 : G ≤ maxLen := by rw [hG]; exact grownCap_le_maxLen w _ _ _ (by unfold maxLen; omega)
    obtain ⟨cs, hcs⟩ : ∃ cs : Array Value, cs = (#[] : Array Value) ++ Builtin.zeroCells (Value.int .i64 0).cells n ++ Builtin.zeroCells (Value.int .i64 0).cells (G - n) := ⟨_, rfl⟩
    have hsz : cs.size = G * 1 := by
      rw [hcs]
      simp only [Array.size_append, size_zeroCells, Array.size_empty]
      have : (Value.int .i64 0).cells.size = 1 := rfl
      rw [this]; omega
    have hrz : ∀ ty, (Builtin.append_ #[22, 3] ty #[.slice none 0 0, .int .i64 n]).run Tryd.prog w = .ok (.slice (some ⟨w.heap.size, 0, none⟩) n G) (w.drew.alloc (.cells cs 3)) := fun ty => by
      have h := Lib.run_append_grow_zeros (P := Tryd.prog) w 22 3 ty 3 i (.int .i64 0) .i64 .i64 Tryd.underlying22 Tryd.underlying3 hi hz none 0 0 [] (run_firstCells_none w.drew i.size 0 0 0) n (by omega) (by omega) (by omega) (by omega) (by rw [hb]; omega)
        (growslice_fits (by omega) (by rw [hb]; omega))
      rw [Nat.zero_add, ← hG] at h
      rw [hcs]
      exact h
    have HO : Hid (Ow (w.drew.alloc (.cells cs 3)) w.heap.size 3 .i64 (some ⟨w.heap.size, 0, none⟩) 0 G []) := hid (World.ownsRow_made w.drew cs G (Nat.le_refl _) hG63 hsz)
    clear hsz hcs hG
    go_enter Tryd.func53, Tryd.ntmps53
    go_wp2_with (at_builtin; refine Lib.wpList_append_run _ rfl _ _ _ _ rfl _ _ rfl rfl _ _ (hrz _) ?_)
    go_ret
    exact ⟨_, _, rfl, HO.out, (Bl.refl w).drew.alloc _⟩
/-- some slices, one behind the other in a block, and what they show -/
structure Ls (w : World) (b m : Nat) (A : Nat → Option Addr) (N C : Nat → Nat) (X : Nat → List Int) : Prop where
  lt : b < w.heap.size
  cell : ∀ i, i < m → w.cell? ⟨b, i, none⟩ = some (.slice (A i) (N i) (C i))
  sh : ∀ i, i < m → Sh w w.heap.size .i64 (A i) (N i) (X i)

set_option maxHeartbeats 1000000 in
theorem Concat_any (b m c : Nat) (A : Nat → Option Addr) (N C : Nat → Nat) (X : Nat → List Int) (w : World) (hL : Ls w b m A N C X) (hm : m ≤ 1000) (hT : tot N m ≤ 1099511627776) :
    Calls Tryd.prog 40 #[.slice (some ⟨b, 0, none⟩) m c] w fun e w' => ∃ A' c', e = .returned (.slice A' (tot N m) c') ∧ Ow w' w.heap.size 3 .i64 A' (tot N m) c' (cat X m) ∧ Bl w w' := by
  have HL := hid hL
  clear hL
  have hG := hid (Grow_nil (tot N m) w hT)
  go_enter Tryd.func40, Tryd.ntmps40
  go_wp2_with fail
  go_loop [3, 11] (fun s i => ∃ (k : Nat), s = .int .i64 (tot N k : Nat) ∧ i = .int .i64 k ∧ k ≤ m) (fun _ i => m - (intOf i).toNat)
  case atStart => exact ⟨0, rfl, rfl, by omega⟩
  case round =>
    obtain ⟨k, rfl, rfl, hk⟩ := hrel
    by_cases hlt : k < m
    · have hc1 := HL.out.cell k hlt
      have e1 : tot N (k + 1) = tot N k + N k := rfl
      have e2 := tot_le N (m := m) (k + 1) (by omega)
      have E1 := hid e1
      clear e1
      have e3 : tot N k + N k ≤ 1099511627776 := by have := E1.out; omega
      clear e2
      generalize A k = Ak at *
      generalize C k = Ck at *
      have hNk := hid (Eq.refl (N k))
      generalize tot N k = t at *
      generalize N k = nk at *
      go_wp2_with fail
      go_round
      case rel => exact ⟨k + 1, by rw [E1.out]; go_num, by go_num, by omega⟩
      case measure => simp [intOf]; omega
    · obtain rfl : m = k := by omega
      go_wp2_with fail
      refine hG.out.mono ?_
      rintro e w1 ⟨A1, c1, rfl, ho1, hb1⟩
      go_wp2_with fail
      go_loopw [6, 27] (fun s i wr => ∃ (A' : Option Addr) (c' k : Nat), s = .slice A' (tot N k) c' ∧ i = .int .i64 k ∧ k ≤ m ∧ Ow wr w.heap.size 3 .i64 A' (tot N k) c' (cat X k) ∧ Bl w wr) (fun _ i _ => m - (intOf i).toNat)
      case atStart => exact ⟨A1, c1, 0, rfl, rfl, by omega, ho1, hb1⟩
      case round =>
        clear ho1
        obtain ⟨A', c', j, rfl, rfl, hj, ho, hb⟩ := hrel
        by_cases hlt : j < m
        · have hc1 := (Below.cell hb (p := ⟨b, j, none⟩) HL.out.lt).trans (HL.out.cell j hlt)
          have hs := (HL.out.sh j hlt).bl hb
          have e1 : tot N (j + 1) = tot N j + N j := rfl
          have e2 := tot_le N (m := m) (j + 1) (by omega)
          have f1 : cat X (j + 1) = cat X j ++ X j := rfl
          have e3 : tot N j + N j ≤ 1099511627776 := by omega
          have E1 := hid e1
          have F1 := hid f1
          clear e1 f1 e2
          generalize A j = Aj at *
          generalize C j = Cj at *
          generalize tot N j = t at *
          generalize N j = nj at *
          go_wp2_with (at_builtin; refine wpList_app_own _ rfl (.tmp 31) (.tmp 32) _ rfl elI rfl ho rfl hs (by omega) (by omega) hb.size ?_; intro A2 c2 w2 ho2 hb2)
          go_roundw
          case rel => exact ⟨A2, c2, j + 1, by rw [E1.out], by go_num, by omega, by rw [E1.out, F1.out]; exact ho2, Below.trans hb hb2⟩
          case measure => simp [intOf]; omega
        · obtain rfl : m = j := by omega
          go_wp2_with fail
          go_ret
          exact ⟨A', c', rfl, ho, hb⟩


theorem Concat_nil (w : World) :
    Calls Tryd.prog 40 #[.slice none 0 0] w fun e w' => ∃ A' c', e = .returned (.slice A' 0 c') ∧ Ow w' w.heap.size 3 .i64 A' 0 c' [] ∧ Bl w w' := by
  have hG := hid (Grow_nil 0 w (by omega))
  go_enter Tryd.func40, Tryd.ntmps40
  go_wp2_with fail
  go_loop [3, 11] (fun s i => s = .int .i64 0 ∧ i = .int .i64 0) (fun _ i => 0)
  case atStart => exact ⟨rfl, rfl⟩
  case round =>
    obtain ⟨rfl, rfl⟩ := hrel
    go_wp2_with fail
    refine hG.out.mono ?_
    rintro e w1 ⟨A1, c1, rfl, ho1, hb1⟩
    go_wp2_with fail
    go_loop [6, 27] (fun s i => s = .slice A1 0 c1 ∧ i = .int .i64 0) (fun _ i => 0)
    case atStart => exact ⟨rfl, rfl⟩
    case round =>
      obtain ⟨rfl, rfl⟩ := hrel
      go_wp2_with fail
      go_ret
      exact ⟨A1, c1, rfl, ho1, hb1⟩
end Go.Proofs.YtajcalmjdfhedaaDoor.Glyph
