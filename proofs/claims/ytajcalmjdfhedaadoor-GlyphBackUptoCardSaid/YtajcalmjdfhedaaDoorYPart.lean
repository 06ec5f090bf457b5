/- glyph.parts, at each of its two closures. -/
import Derived.Test.YtajcalmjdfhedaaDoorYRow
import Derived.Test.YtajcalmjdfhedaaDoorYPt
namespace Go.Proofs.YtajcalmjdfhedaaDoor.Glyph
open Go.RowKit
open Go.Proofs.YtajcalmjdfhedaaDoor.Wire
set_option linter.unusedVariables false

/-- a part of a slice as a value -/
def pv (b o c : Nat) (p : Nat × Nat) : Value := .slice (some ⟨b, o + p.1, none⟩) (p.2 - p.1) (c - p.1)
theorem infoS : (Tryd.prog.info? 22).map (fun i => (i.zero, i.size, i.bytes)) = some (some (.slice none 0 0), 1, 24) := by kernel_rfl
/-- what parts leaves -/
def PartOut (J : Nat → Bool) (b o n c : Nat) (w : World) (e : Ending) (w' : World) : Prop :=
  ∃ (P : List (Nat × Nat)) (A' : Option Addr) (m c' : Nat), e = .returned (.slice A' m c') ∧ m = P.length ∧ m ≤ n ∧ Pt J n P n ∧ Vw w' w.heap.size 22 A' m c' (P.map (pv b o c)) ∧ Bl w w'

set_option maxHeartbeats 1000000 in
theorem partsO_any (J : Nat → Bool) (A : Option Addr) (b o n c r : Nat) (w : World) (hA : 0 < n → A = some ⟨b, o, none⟩) (hnc : n ≤ c) (hm : n ≤ 1048576)
    (hJ : ∀ (i : Nat) (w' : World), 1 ≤ i → i < n → Bl w w' → Calls Tryd.prog 37 #[.int .i64 (i : Nat), .pointer (some ⟨r, 0, none⟩)] w' fun e w'' => e = .returned (.bool (J i)) ∧ Bl w' w'') :
    Calls Tryd.prog 36 #[.slice A n c, .func (.func 37) #[] #[.pointer (some ⟨r, 0, none⟩)]] w (PartOut J b o n c w) := by
  have HJ := hid hJ
  clear hJ
  obtain ⟨ti, hi, hz0, hz1, hz2⟩ := info_parts infoS
  go_enter Tryd.func36, Tryd.ntmps36
  go_wp2_with fail
  go_loopw [4, 5, 6] (fun fo st iv' wr => ∃ (A' : Option Addr) (m c' s i : Nat) (P : List (Nat × Nat)), fo = .slice A' m c' ∧ st = .int .i64 (s : Nat) ∧ iv' = .int .i64 (i : Nat) ∧ 1 ≤ i ∧ i ≤ n + 1 ∧ s < i ∧ m ≤ s ∧ Hid (m = P.length) ∧ Hid (Pt J n P s) ∧ Hid (∀ k, s < k → k < i → J k = true) ∧ (i = n + 1 → s = n) ∧ Vw wr w.heap.size 22 A' m c' (P.map (pv b o c)) ∧ Bl w wr) (fun _ _ i _ => n + 1 - (intOf i).toNat)
  case atStart => exact ⟨none, 0, 0, 0, 1, [], rfl, rfl, rfl, by omega, by omega, by omega, by omega, hid rfl, hid .nil, hid (fun k _ _ => by omega), by omega, Vw.none_ _ _ _, Bl.refl _⟩
  case round =>
    obtain ⟨A', m, c', s, i, P, rfl, rfl, rfl, h1, h2, hsi, hms, hP, hPt, hjo, hend, hV, hb⟩ := hrel
    by_cases hlt : i ≤ n
    · have hAs := hA (by omega)
      subst hAs
      have hcs : s < c := by omega
      have k2 : (decide (s ≤ i)) = true := decide_eq_true (by omega)
      by_cases hin : i = n
      · subst hin
        have t1 : ((i : Int) == (i : Int)) = true := beq_self_eq_true _
        go_wp2_with (at_builtin; refine wpList_app_one _ rfl (.tmp 23) (.tmp 28) _ rfl Tryd.underlying59 hi hz0 hz1 hz2 rfl rfl (hV.alloc _) (pv b o c (s, i)) rfl rfl (cell_of_row _ _ _ _ _ _ (heap_alloc_new _ _)) (by omega) (by omega) (by have := hb.size; simp; omega) ?_; intro A2 c2 w4 hV4 hb4)
        go_roundw
        case rel => exact ⟨A2, m + 1, c2, i, i + 1, P ++ [(s, i)], rfl, by go_num, by go_num, by omega, by omega, by omega, by omega, hid (by rw [List.length_append, ← hP.out, List.length_singleton]), hid (.snoc hPt.out (by omega) (by omega) hjo.out (by omega)), hid (fun k _ _ => by omega), by omega, by rw [List.map_append]; exact hV4, Below.trans (hb.alloc _) hb4⟩
        case measure => simp [intOf]
      · have t1 : ((i : Int) == (n : Int)) = false := beq_eq_false_iff_ne.2 (by omega)
        have cJ := hid (HJ.out i wr h1 (by omega) hb)
        cases hj : J i
        · rw [hj] at cJ
          go_wp2_with (first
            | (go_at_call 37; refine cJ.out.mono ?_; rintro e w3 ⟨rfl, hb3⟩; have hV3 := hV.bl hb3; have hbb := hb.trans hb3)
            | (at_builtin; refine wpList_app_one _ rfl (.tmp 23) (.tmp 28) _ rfl Tryd.underlying59 hi hz0 hz1 hz2 rfl rfl (hV3.alloc _) (pv b o c (s, i)) rfl rfl (cell_of_row _ _ _ _ _ _ (heap_alloc_new _ _)) (by omega) (by omega) (by have := hbb.size; simp; omega) ?_; intro A2 c2 w4 hV4 hb4))
          go_roundw
          case rel => exact ⟨A2, m + 1, c2, i, i + 1, P ++ [(s, i)], rfl, by go_num, by go_num, by omega, by omega, by omega, by omega, hid (by rw [List.length_append, ← hP.out, List.length_singleton]), hid (.snoc hPt.out (by omega) (by omega) hjo.out (fun _ => hj)), hid (fun k _ _ => by omega), by omega, by rw [List.map_append]; exact hV4, Below.trans (hbb.alloc _) hb4⟩
          case measure => simp [intOf]; omega
        · rw [hj] at cJ
          go_wp2_with (go_at_call 37; refine cJ.out.mono ?_; rintro e w3 ⟨rfl, hb3⟩; have hV3 := hV.bl hb3; have hbb := hb.trans hb3)
          go_roundw
          case rel => exact ⟨A', m, c', s, i + 1, P, rfl, rfl, by go_num, by omega, by omega, by omega, by omega, hP, hPt, hid (fun k hk1 hk2 => by rcases Nat.lt_or_ge k i with g | g; exact hjo.out k hk1 g; rw [show k = i by omega]; exact hj), by omega, hV3, hbb⟩
          case measure => simp [intOf]; omega
    · obtain rfl : i = n + 1 := by omega
      obtain rfl : s = n := hend rfl
      go_wp2_with fail
      go_ret
      exact ⟨P, A', m, c', rfl, hP.out, by omega, hPt.out, hV, hb⟩

set_option maxHeartbeats 1000000 in
theorem partsD_any (J : Nat → Bool) (A : Option Addr) (b o n c r : Nat) (w : World) (hA : 0 < n → A = some ⟨b, o, none⟩) (hnc : n ≤ c) (hm : n ≤ 1048576)
    (hJ : ∀ (i : Nat) (w' : World), 1 ≤ i → i < n → Bl w w' → Calls Tryd.prog 52 #[.int .i64 (i : Nat), .pointer (some ⟨r, 0, none⟩)] w' fun e w'' => e = .returned (.bool (J i)) ∧ Bl w' w'') :
    Calls Tryd.prog 36 #[.slice A n c, .func (.func 52) #[] #[.pointer (some ⟨r, 0, none⟩)]] w (PartOut J b o n c w) := by
  have HJ := hid hJ
  clear hJ
  obtain ⟨ti, hi, hz0, hz1, hz2⟩ := info_parts infoS
  go_enter Tryd.func36, Tryd.ntmps36
  go_wp2_with fail
  go_loopw [4, 5, 6] (fun fo st iv' wr => ∃ (A' : Option Addr) (m c' s i : Nat) (P : List (Nat × Nat)), fo = .slice A' m c' ∧ st = .int .i64 (s : Nat) ∧ iv' = .int .i64 (i : Nat) ∧ 1 ≤ i ∧ i ≤ n + 1 ∧ s < i ∧ m ≤ s ∧ Hid (m = P.length) ∧ Hid (Pt J n P s) ∧ Hid (∀ k, s < k → k < i → J k = true) ∧ (i = n + 1 → s = n) ∧ Vw wr w.heap.size 22 A' m c' (P.map (pv b o c)) ∧ Bl w wr) (fun _ _ i _ => n + 1 - (intOf i).toNat)
  case atStart => exact ⟨none, 0, 0, 0, 1, [], rfl, rfl, rfl, by omega, by omega, by omega, by omega, hid rfl, hid .nil, hid (fun k _ _ => by omega), by omega, Vw.none_ _ _ _, Bl.refl _⟩
  case round =>
    obtain ⟨A', m, c', s, i, P, rfl, rfl, rfl, h1, h2, hsi, hms, hP, hPt, hjo, hend, hV, hb⟩ := hrel
    by_cases hlt : i ≤ n
    · have hAs := hA (by omega)
      subst hAs
      have hcs : s < c := by omega
      have k2 : (decide (s ≤ i)) = true := decide_eq_true (by omega)
      by_cases hin : i = n
      · subst hin
        have t1 : ((i : Int) == (i : Int)) = true := beq_self_eq_true _
        go_wp2_with (at_builtin; refine wpList_app_one _ rfl (.tmp 23) (.tmp 28) _ rfl Tryd.underlying59 hi hz0 hz1 hz2 rfl rfl (hV.alloc _) (pv b o c (s, i)) rfl rfl (cell_of_row _ _ _ _ _ _ (heap_alloc_new _ _)) (by omega) (by omega) (by have := hb.size; simp; omega) ?_; intro A2 c2 w4 hV4 hb4)
        go_roundw
        case rel => exact ⟨A2, m + 1, c2, i, i + 1, P ++ [(s, i)], rfl, by go_num, by go_num, by omega, by omega, by omega, by omega, hid (by rw [List.length_append, ← hP.out, List.length_singleton]), hid (.snoc hPt.out (by omega) (by omega) hjo.out (by omega)), hid (fun k _ _ => by omega), by omega, by rw [List.map_append]; exact hV4, Below.trans (hb.alloc _) hb4⟩
        case measure => simp [intOf]
      · have t1 : ((i : Int) == (n : Int)) = false := beq_eq_false_iff_ne.2 (by omega)
        have cJ := hid (HJ.out i wr h1 (by omega) hb)
        cases hj : J i
        · rw [hj] at cJ
          go_wp2_with (first
            | (go_at_call 52; refine cJ.out.mono ?_; rintro e w3 ⟨rfl, hb3⟩; have hV3 := hV.bl hb3; have hbb := hb.trans hb3)
            | (at_builtin; refine wpList_app_one _ rfl (.tmp 23) (.tmp 28) _ rfl Tryd.underlying59 hi hz0 hz1 hz2 rfl rfl (hV3.alloc _) (pv b o c (s, i)) rfl rfl (cell_of_row _ _ _ _ _ _ (heap_alloc_new _ _)) (by omega) (by omega) (by have := hbb.size; simp; omega) ?_; intro A2 c2 w4 hV4 hb4))
          go_roundw
          case rel => exact ⟨A2, m + 1, c2, i, i + 1, P ++ [(s, i)], rfl, by go_num, by go_num, by omega, by omega, by omega, by omega, hid (by rw [List.length_append, ← hP.out, List.length_singleton]), hid (.snoc hPt.out (by omega) (by omega) hjo.out (fun _ => hj)), hid (fun k _ _ => by omega), by omega, by rw [List.map_append]; exact hV4, Below.trans (hbb.alloc _) hb4⟩
          case measure => simp [intOf]; omega
        · rw [hj] at cJ
          go_wp2_with (go_at_call 52; refine cJ.out.mono ?_; rintro e w3 ⟨rfl, hb3⟩; have hV3 := hV.bl hb3; have hbb := hb.trans hb3)
          go_roundw
          case rel => exact ⟨A', m, c', s, i + 1, P, rfl, rfl, by go_num, by omega, by omega, by omega, by omega, hP, hPt, hid (fun k hk1 hk2 => by rcases Nat.lt_or_ge k i with g | g; exact hjo.out k hk1 g; rw [show k = i by omega]; exact hj), by omega, hV3, hbb⟩
          case measure => simp [intOf]; omega
    · obtain rfl : i = n + 1 := by omega
      obtain rfl : s = n := hend rfl
      go_wp2_with fail
      go_ret
      exact ⟨P, A', m, c', rfl, hP.out, by omega, hPt.out, hV, hb⟩
end Go.Proofs.YtajcalmjdfhedaaDoor.Glyph
