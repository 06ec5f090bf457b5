/- Contracts of the reference of glyph: strong, Same, base, direction. -/
import Derived.Test.YtajcalmjdfhedaaDoorYRef
import Derived.Deep.RegionHeld3
namespace Go.Proofs.YtajcalmjdfhedaaDoor.Glyph
open Go.RowKit
open Go.Proofs.YtajcalmjdfhedaaDoor.Wire
set_option linter.unusedVariables false

set_option maxHeartbeats 1000000 in
theorem strong_any (r : Int) (w : World) :
    Calls Tryd.prog 54 #[.int .i64 r] w fun e w' => e = .returned (.int .i64 (st r)) ∧ w = w' := by
  have hs := RScript_any r w
  have hw := hid (show st r = if scr r = 0 then 0 else if scr r = 4 then -1 else 1 from rfl)
  generalize st r = W at hw ⊢
  generalize scr r = S at *
  have HS := hid hs
  clear hs
  by_cases c0 : S = 0
  · subst c0
    go_enter Tryd.func54, Tryd.ntmps54
    go_wp2_with fail
    refine HS.out.mono ?_
    rintro e w' ⟨rfl, rfl⟩
    go_wp2_with fail
    go_ret
    exact ⟨ret1 (by rw [hw.out, if_pos trivial]), rfl⟩
  have c0' : (S == 0) = false := by simpa using c0
  by_cases c4 : S = 4
  · subst c4
    go_enter Tryd.func54, Tryd.ntmps54
    go_wp2_with fail
    refine HS.out.mono ?_
    rintro e w' ⟨rfl, rfl⟩
    go_wp2_with fail
    go_ret
    exact ⟨ret1 (by rw [hw.out]; rfl), rfl⟩
  · have c4' : (S == 4) = false := by simpa using c4
    go_enter Tryd.func54, Tryd.ntmps54
    go_wp2_with fail
    refine HS.out.mono ?_
    rintro e w' ⟨rfl, rfl⟩
    go_wp2_with fail
    go_ret
    exact ⟨ret1 (by rw [hw.out, if_neg c0, if_neg c4]), rfl⟩
/-- two lists are equal -/
def eqb (xs ys : List Int) : Bool := decide (xs = ys)
theorem eqb_yes {xs ys : List Int} (h : xs = ys) : eqb xs ys = true := by simp [eqb, h]
theorem eqb_no {xs ys : List Int} (h : xs ≠ ys) : eqb xs ys = false := by simp [eqb, h]
set_option maxHeartbeats 600000 in
theorem Same_any (A A' : Option Addr) (n n' c c' : Nat) (xs ys : List Int) (w : World) (B B' : Nat) (hS : Sh w B .i64 A n xs) (hS' : Sh w B' .i64 A' n' ys) (hm : n ≤ 17592186044416) (hm' : n' ≤ 17592186044416) :
    Calls Tryd.prog 14 #[.slice A n c, .slice A' n' c'] w fun e w' => e = .returned (.bool (eqb xs ys)) ∧ Q w w' := by
  have hl := hid hS.len
  have hl' := hid hS'.len
  by_cases hn : n = n'
  · subst hn
    go_enter Tryd.func14, Tryd.ntmps14
    go_wp2_with fail
    go_loopw [5] (fun i wr => ∃ (k : Nat), i = .int .i64 k ∧ k ≤ n ∧ Hid (xs.take k = ys.take k) ∧ Q w wr) (fun i _ => n - (intOf i).toNat)
    case atStart => exact ⟨0, rfl, by omega, hid rfl, Q.refl _⟩
    case round =>
      obtain ⟨k, rfl, hk, he, hq⟩ := hrel
      by_cases hlt : k < n
      · obtain ⟨b, o, rfl, _, hcell⟩ := (hS.below (hq.below B)).2 (by omega)
        obtain ⟨b', o', rfl, _, hcell'⟩ := (hS'.below (hq.below B')).2 (by omega)
        have hc1 := hcell k hlt
        have hc2 := hcell' k hlt
        have t1 := hid (take_snoc (l := xs) (i := k) (by rw [hl.out]; omega))
        have t2 := hid (take_snoc (l := ys) (i := k) (by rw [hl'.out]; omega))
        clear hcell hcell'
        by_cases hxy : xs.getD k 0 = ys.getD k 0
        · rw [hxy] at hc1 t1
          generalize ys.getD k 0 = y at *
          clear hxy
          go_wp2_with fail
          go_quiet (fail)
          go_wp2_with fail
          go_roundw
          case rel => exact ⟨k + 1, by go_num, by omega, hid (by rw [t1.out, t2.out, he.out]), hq.drewN _⟩
          case measure => simp [intOf]; omega
        · have hne : xs ≠ ys := fun e => hxy (by rw [e])
          have fin := hid (eqb_no hne)
          clear hne
          generalize xs.getD k 0 = x at *
          generalize ys.getD k 0 = y at *
          have t : (x == y) = false := by simpa using hxy
          go_wp2_with fail
          go_quiet (fail)
          go_wp2_with fail
          go_ret
          exact ⟨retB fin.out.symm, hq.drewN _⟩
      · obtain rfl : k = n := by omega
        go_wp2_with fail
        go_ret
        have := he.out
        rw [take_all (by rw [hl.out]; omega), take_all (by rw [hl'.out]; omega)] at this
        exact ⟨retB (eqb_yes this).symm, hq⟩
  · have hne : xs ≠ ys := fun e => hn (by rw [← hl.out, ← hl'.out, e])
    have fin := hid (eqb_no hne)
    clear hne
    have t : ((n : Int) == (n' : Int)) = false := by simp; omega
    go_enter Tryd.func14, Tryd.ntmps14
    go_wp2_with fail
    go_ret
    exact ⟨retB fin.out.symm, Q.refl _⟩
theorem Same_yes (A A' : Option Addr) (n n' c c' : Nat) (xs ys : List Int) (w : World) (hS : Sh w w.heap.size .i64 A n xs) (hS' : Sh w w.heap.size .i64 A' n' ys) (hm : n ≤ 17592186044416) (hm' : n' ≤ 17592186044416) (h : xs = ys) :
    Calls Tryd.prog 14 #[.slice A n c, .slice A' n' c'] w fun e w' => e = .returned (.bool true) ∧ Q w w' := by
  have := Same_any A A' n n' c c' xs ys w _ _ hS hS' hm hm'
  rwa [eqb_yes h] at this

set_option maxHeartbeats 600000 in
theorem base_any (A : Option Addr) (n c : Nat) (xs : List Int) (w : World) (B : Nat) (hS : Sh w B .i64 A n xs) (hm : n ≤ 17592186044416) :
    Calls Tryd.prog 43 #[.slice A n c] w fun e w' => e = .returned (.int .i64 (bas xs)) ∧ w = w' := by
  have hl := hid hS.len
  go_enter Tryd.func43, Tryd.ntmps43
  go_wp2_with fail
  go_loop [3] (fun i => ∃ (k : Nat), i = .int .i64 k ∧ k ≤ n ∧ Hid (bas xs = fst' 1 (xs.drop k))) (fun i => n - (intOf i).toNat)
  case atStart => exact ⟨0, rfl, by omega, hid rfl⟩
  case round =>
    obtain ⟨k, rfl, hk, hb⟩ := hrel
    by_cases hlt : k < n
    · obtain ⟨b, o, rfl, _, hcell⟩ := hS.2 (by omega)
      have hc1 := hcell k hlt
      have hda := hid (drop_at (l := xs) (k := k) (by rw [hl.out]; omega))
      clear hcell
      generalize xs.getD k 0 = x at *
      have c1 := strong_any x
      by_cases hz : st x = 0
      · have fin := hid (show bas xs = fst' 1 (xs.drop (k + 1)) by rw [hb.out, hda.out, fst', if_neg (by rw [hz]; decide)])
        rw [hz] at c1
        have C1 := hid c1
        clear hz c1 hda hb
        go_wp2_with fail
        refine (C1.out _).mono ?_
        rintro e w' ⟨rfl, rfl⟩
        go_wp2_with fail
        go_round
        case rel => exact ⟨k + 1, by go_num, by omega, fin⟩
        case measure => simp [intOf]; omega
      · have fin := hid (show bas xs = st x by rw [hb.out, hda.out, fst', if_pos hz])
        have t : (st x != 0) = true := by simpa using hz
        generalize st x = S at *
        have C1 := hid c1
        clear hz c1 hda hb
        go_wp2_with fail
        refine (C1.out _).mono ?_
        rintro e w' ⟨rfl, rfl⟩
        go_wp2_with fail
        refine (C1.out _).mono ?_
        rintro e w' ⟨rfl, rfl⟩
        go_wp2_with fail
        go_ret
        exact ⟨ret1 fin.out.symm, rfl⟩
    · obtain rfl : k = n := by omega
      have fin := hid (show bas xs = 1 by rw [hb.out, List.drop_eq_nil_of_le (by rw [hl.out]; exact Nat.le_refl _)]; rfl)
      clear hb
      go_wp2_with fail
      go_ret
      exact ⟨ret1 fin.out.symm, rfl⟩

set_option maxHeartbeats 1000000 in
theorem direction_any (A : Option Addr) (n c : Nat) (xs : List Int) (i : Nat) (w : World) (B : Nat) (hS : Sh w B .i64 A n xs) (hm : n ≤ 17592186044416) (hi : i < n) :
    Calls Tryd.prog 41 #[.slice A n c, .int .i64 i] w fun e w' => e = .returned (.int .i64 (dr xs i)) ∧ w = w' := by
  have hl := hid hS.len
  have hdr := hid (show dr xs i = if st (xs.getD i 0) ≠ 0 then st (xs.getD i 0) else if lst' (bas xs) (xs.take i) = fst' (bas xs) (xs.drop (i + 1)) then lst' (bas xs) (xs.take i) else bas xs from rfl)
  have hB := hid (fun w' hS' => base_any A n c xs w' B hS' hm)
  obtain ⟨b, o, rfl, _, hcell'⟩ := hS.2 (by omega)
  have hci := hcell' i hi
  have hcell := hid hcell'
  clear hcell'
  generalize bas xs = D0 at *
  generalize hx0 : xs.getD i 0 = x0 at *
  clear hx0
  have c0 := strong_any x0
  by_cases hz : st x0 = 0
  · rw [hz] at c0
    have C0 := hid c0
    have hdr2 := hid (show dr xs i = if lst' D0 (xs.take i) = fst' D0 (xs.drop (i + 1)) then lst' D0 (xs.take i) else D0 by rw [hdr.out, if_neg (by rw [hz]; decide)])
    clear c0 hdr hz
    generalize dr xs i = R at *
    go_enter Tryd.func41, Tryd.ntmps41
    go_wp2_with fail
    refine (C0.out _).mono ?_
    rintro e w' ⟨rfl, rfl⟩
    go_wp2_with fail
    refine (hB.out _ hS).mono ?_
    rintro e w' ⟨rfl, rfl⟩
    go_wp2_with fail
    go_loop [5, 6] (fun d i' => ∃ (k : Nat) (D : Int), d = .int .i64 D ∧ i' = .int .i64 k ∧ k ≤ i ∧ Hid (D = lst' D0 (xs.take k))) (fun _ i' => i - (intOf i').toNat)
    case atStart => exact ⟨0, D0, rfl, rfl, by omega, hid rfl⟩
    case round =>
      obtain ⟨k, D, rfl, rfl, hk, hD⟩ := hrel
      by_cases hlt : k < i
      · have hc1 := hcell.out k (by omega)
        have hsn := hid (take_snoc (l := xs) (i := k) (by rw [hl.out]; omega))
        generalize xs.getD k 0 = x at *
        have c1 := strong_any x
        by_cases hz : st x = 0
        · have fin := hid (show D = lst' D0 (xs.take (k + 1)) by rw [hsn.out, lst_snoc, if_neg (by rw [hz]; decide)]; exact hD.out)
          rw [hz] at c1
          have C1 := hid c1
          clear hz c1 hsn hD hcell
          go_wp2_with fail
          refine (C1.out _).mono ?_
          rintro e w' ⟨rfl, rfl⟩
          go_wp2_with fail
          go_round
          case rel => exact ⟨k + 1, D, rfl, by go_num, by omega, fin⟩
          case measure => simp [intOf]; omega
        · have fin := hid (show st x = lst' D0 (xs.take (k + 1)) by rw [hsn.out, lst_snoc, if_pos hz])
          have t : (st x != 0) = true := by simpa using hz
          generalize st x = S at *
          have C1 := hid c1
          clear hz c1 hsn hD hcell
          go_wp2_with fail
          refine (C1.out _).mono ?_
          rintro e w' ⟨rfl, rfl⟩
          go_wp2_with fail
          refine (C1.out _).mono ?_
          rintro e w' ⟨rfl, rfl⟩
          go_wp2_with fail
          go_round
          case rel => exact ⟨k + 1, S, rfl, by go_num, by omega, fin⟩
          case measure => simp [intOf]; omega
      · obtain rfl : k = i := by omega
        go_wp2_with fail
        refine (hB.out _ hS).mono ?_
        rintro e w' ⟨rfl, rfl⟩
        go_wp2_with fail
        go_loop [7, 8] (fun d i' => ∃ (p : Nat) (D' : Int), d = .int .i64 D' ∧ i' = .int .i64 p ∧ k ≤ p ∧ p < n ∧ Hid (D' = fst' D0 (xs.drop (p + 1)))) (fun _ i' => (intOf i').toNat)
        case atStart => exact ⟨n - 1, D0, rfl, by go_num, by omega, by omega, hid (by rw [List.drop_eq_nil_of_le (by rw [hl.out]; omega)]; rfl)⟩
        case round =>
          obtain ⟨p, D', rfl, rfl, hp1, hp2, hD'⟩ := hrel
          by_cases hlt : k < p
          · have hc1 := hcell.out p hp2
            have hda := hid (drop_at (l := xs) (k := p) (by rw [hl.out]; omega))
            have hpp : p - 1 + 1 = p := by omega
            generalize xs.getD p 0 = x at *
            have c1 := strong_any x
            by_cases hz : st x = 0
            · have fin := hid (show D' = fst' D0 (xs.drop (p - 1 + 1)) by rw [hpp, hda.out, fst', if_neg (by rw [hz]; decide)]; exact hD'.out)
              rw [hz] at c1
              have C1 := hid c1
              clear hz c1 hda hD' hcell hpp
              go_wp2_with fail
              refine (C1.out _).mono ?_
              rintro e w' ⟨rfl, rfl⟩
              go_wp2_with fail
              go_round
              case rel => exact ⟨p - 1, D', rfl, by congr 1; omega, by omega, by omega, fin⟩
              case measure => simp [intOf]; omega
            · have fin := hid (show st x = fst' D0 (xs.drop (p - 1 + 1)) by rw [hpp, hda.out, fst', if_pos hz])
              have t : (st x != 0) = true := by simpa using hz
              generalize st x = S at *
              have C1 := hid c1
              clear hz c1 hda hD' hcell hpp
              go_wp2_with fail
              refine (C1.out _).mono ?_
              rintro e w' ⟨rfl, rfl⟩
              go_wp2_with fail
              refine (C1.out _).mono ?_
              rintro e w' ⟨rfl, rfl⟩
              go_wp2_with fail
              go_round
              case rel => exact ⟨p - 1, S, rfl, by congr 1; omega, by omega, by omega, fin⟩
              case measure => simp [intOf]; omega
          · obtain rfl : p = k := by omega
            have hf := hid (show R = if D = D' then D else D0 by rw [hdr2.out, ← hD.out, ← hD'.out])
            clear hdr2 hD hD' hcell
            by_cases he : D = D'
            · subst he
              go_wp2_with fail
              go_ret
              exact ⟨ret1 (by rw [hf.out]; simp), rfl⟩
            · have t : (D == D') = false := by simpa using he
              go_wp2_with fail
              refine (hB.out _ hS).mono ?_
              rintro e w' ⟨rfl, rfl⟩
              go_wp2_with fail
              go_ret
              exact ⟨ret1 (by rw [hf.out, if_neg he]), rfl⟩
  · have fin := hid (show dr xs i = st x0 by rw [hdr.out, if_pos hz])
    have t : (st x0 != 0) = true := by simpa using hz
    clear hdr hz
    generalize st x0 = S at *
    have C0 := hid c0
    clear c0
    go_enter Tryd.func41, Tryd.ntmps41
    go_wp2_with fail
    refine (C0.out _).mono ?_
    rintro e w' ⟨rfl, rfl⟩
    go_wp2_with fail
    refine (C0.out _).mono ?_
    rintro e w' ⟨rfl, rfl⟩
    go_wp2_with fail
    go_ret
    exact ⟨ret1 fin.out.symm, rfl⟩
end Go.Proofs.YtajcalmjdfhedaaDoor.Glyph
