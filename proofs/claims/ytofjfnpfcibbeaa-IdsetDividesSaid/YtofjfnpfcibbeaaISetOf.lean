/- slices.Concat of some lists; setOf: the set of some lists. -/
import Derived.Test.YtofjfnpfcibbeaaISort
namespace Go.Proofs.Ytofjfnpfcibbeaa.Idset
open Go.RowKit
open Go.Proofs.Ytofjfnpfcibbeaa.Wire
set_option linter.unusedVariables false

/-- some slices, one behind the other in a block, and what they show -/
structure Ls (w : World) (b m : Nat) (A : Nat → Option Addr) (N C : Nat → Nat) (X : Nat → List Int) : Prop where
  lt : b < w.heap.size
  cell : ∀ i, i < m → w.cell? ⟨b, i, none⟩ = some (.slice (A i) (N i) (C i))
  sh : ∀ i, i < m → Sh w w.heap.size .i64 (A i) (N i) (X i)

set_option maxHeartbeats 1000000 in
theorem Concat_any (b m c : Nat) (A : Nat → Option Addr) (N C : Nat → Nat) (X : Nat → List Int) (w : World) (hL : Ls w b m A N C X) (hm : m ≤ 1000) (hT : tot N m ≤ 1099511627776) :
    Calls Try.prog 29 #[.slice (some ⟨b, 0, none⟩) m c] w fun e w' => ∃ A' c', e = .returned (.slice A' (tot N m) c') ∧ Ow w' w.heap.size 3 .i64 A' (tot N m) c' (cat X m) ∧ Bl w w' := by
  have HL := hid hL
  clear hL
  have hG := hid (Grow_nil (tot N m) w hT)
  go_enter Try.func29, Try.ntmps29
  go_wp2_with fail
  go_loop [3, 11] (fun s i => ∃ (k : Nat), s = .int .i64 (tot N k : Nat) ∧ i = .int .i64 k ∧ k ≤ m) (fun _ i => m - (intOf i).toNat)
  case atStart => exact ⟨0, rfl, rfl, by omega⟩
  case round =>
    obtain ⟨k, rfl, rfl, hk⟩ := hrel
    by_cases hlt : k < m
    · have hc1 := HL.out.cell k hlt
      have e1 : tot N (k + 1) = tot N k + N k := rfl
      have e2 := tot_le N (m := m) (k + 1) (by omega)
      have E1 := hid e1
      clear e1
      have e3 : tot N k + N k ≤ 1099511627776 := by have := E1.out; omega
      clear e2
      generalize A k = Ak at *
      generalize C k = Ck at *
      have hNk := hid (Eq.refl (N k))
      generalize tot N k = t at *
      generalize N k = nk at *
      go_wp2_with fail
      go_round
      case rel => exact ⟨k + 1, by rw [E1.out]; go_num, by go_num, by omega⟩
      case measure => simp [intOf]; omega
    · obtain rfl : m = k := by omega
      go_wp2_with fail
      refine hG.out.mono ?_
      rintro e w1 ⟨A1, c1, rfl, ho1, hb1⟩
      go_wp2_with fail
      go_loopw [6, 27] (fun s i wr => ∃ (A' : Option Addr) (c' k : Nat), s = .slice A' (tot N k) c' ∧ i = .int .i64 k ∧ k ≤ m ∧ Ow wr w.heap.size 3 .i64 A' (tot N k) c' (cat X k) ∧ Bl w wr) (fun _ i _ => m - (intOf i).toNat)
      case atStart => exact ⟨A1, c1, 0, rfl, rfl, by omega, ho1, hb1⟩
      case round =>
        clear ho1
        obtain ⟨A', c', j, rfl, rfl, hj, ho, hb⟩ := hrel
        by_cases hlt : j < m
        · have hc1 := (Below.cell hb (p := ⟨b, j, none⟩) HL.out.lt).trans (HL.out.cell j hlt)
          have hs := (HL.out.sh j hlt).bl hb
          have e1 : tot N (j + 1) = tot N j + N j := rfl
          have e2 := tot_le N (m := m) (j + 1) (by omega)
          have f1 : cat X (j + 1) = cat X j ++ X j := rfl
          have e3 : tot N j + N j ≤ 1099511627776 := by omega
          have E1 := hid e1
          have F1 := hid f1
          clear e1 f1 e2
          generalize A j = Aj at *
          generalize C j = Cj at *
          generalize tot N j = t at *
          generalize N j = nj at *
          go_wp2_with (at_builtin; refine wpList_app_own _ rfl (.tmp 31) (.tmp 32) _ rfl elI rfl ho rfl hs (by omega) (by omega) hb.size ?_; intro A2 c2 w2 ho2 hb2)
          go_roundw
          case rel => exact ⟨A2, c2, j + 1, by rw [E1.out], by go_num, by omega, by rw [E1.out, F1.out]; exact ho2, Below.trans hb hb2⟩
          case measure => simp [intOf]; omega
        · obtain rfl : m = j := by omega
          go_wp2_with fail
          go_ret
          exact ⟨A', c', rfl, ho, hb⟩

set_option maxHeartbeats 1000000 in
theorem setOf_any (b m c : Nat) (A : Nat → Option Addr) (N C : Nat → Nat) (X : Nat → List Int) (w : World) (hL : Ls w b m A N C X) (hm : m ≤ 1000) (hT : tot N m ≤ 1099511627776) :
    Calls Try.prog 25 #[.slice (some ⟨b, 0, none⟩) m c] w (Out2 w .i64 (nrm (cat X m))) := by
  have r := Concat_any b m c A N C X w hL hm hT
  generalize tot N m = n at *
  generalize cat X m = xs at *
  clear hL
  have hc := compact_sorted xs
  have HN := hid hc
  clear hc
  have R := hid r
  clear r
  go_enter Try.func25, Try.ntmps25
  go_wp2_with fail
  refine R.out.mono ?_
  rintro e w1 ⟨A1, c1, rfl, ho, hb⟩
  have hl := ho.len
  by_cases h0 : n = 0
  · subst h0
    have hx : xs = [] := List.eq_nil_of_length_eq_zero hl
    subst hx
    clear HN
    go_wp2_with fail
    refine (Try.slices_Sort_int_none A1 c1 w1).mono ?_
    rintro e w2 ⟨rfl, rfl⟩
    go_wp2_with fail
    refine (Try.slices_Compact_int_empty A1 c1 w2).mono ?_
    rintro e w3 ⟨rfl, rfl⟩
    go_wp2_with fail
    go_ret
    exact ho.out hb
  · have hv : (Value.slice A1 n c1) ≠ .slice none 0 0 := by intro h; injection h with _ h2 _; exact h0 h2
    obtain ⟨g, cap, hv1, hbg, hgl, hncap, hcm, _, hH⟩ := Lib.holds_of_ownsRow ho hv
    injection hv1 with hA1 _ hc1
    subst hA1 hc1
    have hsort := Try.slices_Sort_int g 0 c1 xs w1 hH hgl (by omega)
    have hl2 : (xs.mergeSort fun x y => decide (x ≤ y)).length = n := by rw [List.length_mergeSort]; exact hl
    have HB := hid ho
    rw [hl] at hsort
    generalize (xs.mergeSort fun x y => decide (x ≤ y)) = ss at *
    have SO := hid hsort
    have HH := hid hH
    have HL := hid hl
    have HS := hid hl2
    clear ho hH hl hl2 hsort hv
    go_wp2_with fail
    refine SO.out.mono ?_
    rintro e w2 ⟨rfl, nn, os, hw2⟩
    have hH2 : Sort.Holds (Value.int .i64) w2 g 0 ss.toArray := by
      rw [hw2]
      exact Sort.holds_grow (Value.int .i64) _ os g 0 _ (by simpa [Sort.putRow, Sort.mapBlock, Sort.ahead] using hgl) (Sort.holds_putRow (Value.int .i64) _ g 0 _ _ (Sort.holds_ahead (Value.int .i64) w1 nn g 0 _ HH.out) (by simp [HS.out, HL.out]))
    have ho2 : Ow w2 w.heap.size 3 .i64 (some ⟨g, 0, none⟩) n c1 ss := by
      rcases HB.out.2 with ⟨h0', _⟩ | ⟨g', cap', cur, hv, hbase, hbk, q1, q2, q3, q4⟩
      · cases h0'
      · injection hv with hv1 _ hv3
        injection hv1 with hv1
        injection hv1 with hv1
        subst hv1 hv3
        have := ownsRow_sortedI (n := nn) (os := os) (ss := xs) (ts := ss) (by rw [HS.out, HL.out]) hbase hbk (by rw [HL.out]; exact q1) q2 q3
        rw [HL.out, ← hw2] at this
        exact this
    have hb2 : Bl w w2 := by
      rw [hw2]
      exact hb.grown (grownBy_sortedI _) hb.size (fun j hj => by cases hj; exact hbg)
    have hcomp := Try.slices_Compact_int g 0 c1 ss w2 hH2 (by rw [HS.out]; omega) (by rw [HS.out]; exact hncap)
    have hle : (Lib.compact ss).length ≤ n := by rw [HN.out]; have := nrm_len xs; rw [HL.out] at this; exact this
    rw [HN.out, HS.out] at hcomp
    rw [HN.out] at hle
    generalize nrm xs = ys at *
    have CO := hid hcomp
    clear hcomp hw2 HN
    go_wp2_with fail
    refine CO.out.mono ?_
    rintro e w3 ⟨rfl, q, hw3⟩
    have hc := Lib.ownsRow_putRow (q := q) (k := ys.length) (ys := ys ++ List.replicate (n - ys.length) 0) ho2 (by simp; omega) (by omega)
    rw [List.take_left, ← hw3] at hc
    have hb3 : Bl w w3 := by rw [hw3]; exact Lib.below_putRow hb2 hbg
    clear hw3
    go_wp2_with fail
    go_ret
    exact Ow.out hc hb3

theorem Ls.one {w : World} {A : Option Addr} {n c : Nat} {xs : List Int} (hS : Sh w w.heap.size .i64 A n xs) (T : TypeId) : Ls (w.alloc (.cells #[.slice A n c] T)) w.heap.size 1 (fun _ => A) (fun _ => n) (fun _ => c) (fun _ => xs) :=
  ⟨by simp, fun i hi => by
    obtain rfl : i = 0 := by omega
    rw [cell_of_row _ _ _ _ _ _ (heap_alloc_new w _)]; rfl, fun i hi => hS.al _⟩
theorem Ls.two {w : World} {A A1 : Option Addr} {n c n1 c1 : Nat} {xs ys : List Int} (hS : Sh w w.heap.size .i64 A n xs) (hS1 : Sh w w.heap.size .i64 A1 n1 ys) (T : TypeId) :
    Ls (w.alloc (.cells #[.slice A n c, .slice A1 n1 c1] T)) w.heap.size 2 (fun i => if i = 0 then A else A1) (fun i => if i = 0 then n else n1) (fun i => if i = 0 then c else c1) (fun i => if i = 0 then xs else ys) :=
  ⟨by simp, fun i hi => by
    rcases (show i = 0 ∨ i = 1 by omega) with rfl | rfl
    · rw [cell_of_row _ _ _ _ _ _ (heap_alloc_new w _)]; rfl
    · rw [cell_of_row _ _ _ _ _ _ (heap_alloc_new w _)]; rfl, fun i hi => by
    rcases (show i = 0 ∨ i = 1 by omega) with rfl | rfl
    · exact hS.al _
    · exact hS1.al _⟩
theorem uni_app (xs ys : List Int) : nrm (xs ++ ys) = uni xs ys := asc_ext (nrm_asc _) (uni_asc _ _) fun x => by rw [nrm_mem, uni_mem, List.mem_append]
theorem setOf_one (A : Option Addr) (n c : Nat) (xs : List Int) (w : World) (T : TypeId) (hS : Sh w w.heap.size .i64 A n xs) (hm : n ≤ 1099511627776) :
    Calls Try.prog 25 #[.slice (some ⟨w.heap.size, 0, none⟩) 1 1] (w.alloc (.cells #[.slice A n c] T)) (Out2 (w.alloc (.cells #[.slice A n c] T)) .i64 (nrm xs)) := by
  have := setOf_any w.heap.size 1 1 _ _ _ _ _ (Ls.one (c := c) hS T) (by omega) (by simp only [tot]; omega)
  simpa only [cat, List.nil_append] using this
theorem setOf_two (A A1 : Option Addr) (n c n1 c1 : Nat) (xs ys : List Int) (w : World) (T : TypeId) (hS : Sh w w.heap.size .i64 A n xs) (hS1 : Sh w w.heap.size .i64 A1 n1 ys) (hm : n + n1 ≤ 1099511627776) :
    Calls Try.prog 25 #[.slice (some ⟨w.heap.size, 0, none⟩) 2 2] (w.alloc (.cells #[.slice A n c, .slice A1 n1 c1] T)) (Out2 (w.alloc (.cells #[.slice A n c, .slice A1 n1 c1] T)) .i64 (uni xs ys)) := by
  have := setOf_any w.heap.size 2 2 _ _ _ _ _ (Ls.two (c := c) (c1 := c1) hS hS1 T) (by omega) (by simp [tot]; omega)
  rw [← uni_app]
  simpa [cat] using this
end Go.Proofs.Ytofjfnpfcibbeaa.Idset
