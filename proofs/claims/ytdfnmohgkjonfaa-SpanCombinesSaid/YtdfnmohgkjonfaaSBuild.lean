/- Contracts of the reference of span: bounds, build and what is made of it; Same. -/
import Derived.Test.YtdfnmohgkjonfaaSRef
import Derived.Deep.QuietTactic
import Derived.BigQuiet
namespace Go.Proofs.Ytdfnmohgkjonfaa.Span
open Go.RowKit
open Go.Proofs.Ytdfnmohgkjonfaa.Wire
open Go.Proofs.Ytdfnmohgkjonfaa.Idset
set_option linter.unusedVariables false

theorem add_two (l m : List Int) (x y : Int) : add l (m ++ [x, y]) = ins y (ins x (add l m)) := by
  rw [show m ++ [x, y] = (m ++ [x]) ++ [y] by simp, add_snoc, add_snoc]

set_option maxHeartbeats 2000000 in
theorem bounds_any (A : Option Addr) (n c : Nat) (ps : List Pr) (A1 : Option Addr) (n1 c1 : Nat) (qs : List Pr) (w : World) (hS : ShP w w.heap.size A n ps) (hS1 : ShP w w.heap.size A1 n1 qs) (hm : n + n1 ≤ 68719476736) :
    Calls Try.prog 38 #[.slice A n c, .slice A1 n1 c1] w (OutN w .i64 (bds ps qs).length (bds ps qs)) := by
  have hl := hid hS.len
  have hl1 := hid hS1.len
  go_enter Try.func38, Try.ntmps38
  go_wp2_with fail
  go_loopw [5, 6] (fun b i wr => ∃ (A' : Option Addr) (m c' k : Nat) (L : List Int), b = .slice A' m c' ∧ i = .int .i64 k ∧ k ≤ n ∧ m ≤ 2 * k ∧ m ≤ c' ∧ Hid (L = nrm (bl (ps.take k))) ∧ Sh wr wr.heap.size .i64 A' m L ∧ Bl w wr) (fun _ i _ => n - (intOf i).toNat)
  case atStart => exact ⟨none, 0, 0, 0, [], rfl, rfl, by omega, by omega, by omega, hid rfl, Sh.nil _ _ _ _, Bl.refl _⟩
  case round =>
    skip
    obtain ⟨A', m, c', k, L, rfl, rfl, hk, hmk, hmc, hL, hs, hb⟩ := hrel
    by_cases hlt : k < n
    · obtain ⟨b, o, rfl, hbB, hcell⟩ := hS.2 (by omega)
      have hc1 := (Below.cell hb (p := ⟨b, o + k * 2, none⟩) hbB).trans (hcell k hlt).1
      have hc2 := (Below.cell hb (p := ⟨b, o + k * 2 + 1, none⟩) hbB).trans (hcell k hlt).2
      have hsn := hid (take_snocP (l := ps) (i := k) (by rw [hl.out]; omega))
      clear hcell
      generalize ps.getD k (0, 0) = p at *
      obtain ⟨x, y⟩ := p
      simp only at hc1 hc2
      have ha : asc L := by rw [hL.out]; exact nrm_asc _
      have hi1 := ins_len x L
      have hi2 := ins_len y (ins x L)
      have hml := hs.len
      have r1 := hid (with_any A' m c' L x wr.drew hs (by omega) ha)
      have r2 := hid (fun w1 A2 c2 (h : Sh w1 w1.heap.size .i64 A2 (ins x L).length (ins x L)) => with_any A2 (ins x L).length c2 (ins x L) y w1 h (by omega) (asc_ins _ _ ha))
      have fin : Hid (ins y (ins x L) = nrm (bl (ps.take (k + 1)))) := hid (by rw [hsn.out, bl_snoc, hL.out]; unfold nrm; rw [add_two])
      have HM := hid hml
      clear ha hml
      generalize ins y (ins x L) = L2 at *
      generalize ins x L = L1 at *
      have hB : Bl wr wr.drew := (Bl.refl wr).drew
      have hwb : b < wr.heap.size := Nat.lt_of_lt_of_le hbB hb.size
      have i0 : (0 : Int) ≤ (k : Int) := by omega
      have i1 : (k : Int) < (n : Int) := by omega
      go_wp2_with fail
      go_region_held3 (fun w' => w'.cell? ⟨b, o + k * 2, none⟩ = some (.int .i64 x) ∧ w'.cell? ⟨b, o + k * 2 + 1, none⟩ = some (.int .i64 y))
        (first
          | go_keep
          | (exact ⟨(Below.cell hW1 (p := ⟨b, o + k * 2, none⟩) hwb).trans hc1, (Below.cell hW1 (p := ⟨b, o + k * 2 + 1, none⟩) hwb).trans hc2⟩)
          | (exact ⟨(Below.cell hW2 (p := ⟨b, o + k * 2, none⟩) hwb).trans hc1, (Below.cell hW2 (p := ⟨b, o + k * 2 + 1, none⟩) hwb).trans hc2⟩))
        (first
          | (go_at_call 45; (with_reducible refine r1.out.mono ?_); rintro e w1 ⟨A2, c2, rfl, hs2, hcc2, hb2⟩; have hW1 : Bl wr w1 := Bl.trans hB hb2)
          | (go_at_call 45; (with_reducible refine (r2.out _ _ _ hs2).mono ?_); rintro e w2 ⟨A3, c3, rfl, hs3, hcc3, hb3⟩; have hW2 : Bl wr w2 := Bl.trans hW1 hb3))
      go_wp2_with fail
      go_roundw
      case rel => exact ⟨A3, L2.length, c3, k + 1, L2, rfl, by go_num, by omega, by have := HM.out; omega, hcc3, fin, hs3, Bl.trans hb hW2⟩
      case measure => simp [intOf]; omega
    · obtain rfl : k = n := by omega
      have HX := hid (show L = nrm (bl ps) by have := hL.out; rwa [take_allP (by rw [hl.out]; omega)] at this)
      clear hL
      have hs0 := hs
      have hb0 := hb
      have h0c := hmc
      have h0m := hmk
      clear hs hb hmc hmk
      go_wp2_with fail
      go_loopw [5, 7] (fun b i wr => ∃ (A' : Option Addr) (m' c' k' : Nat) (L : List Int), b = .slice A' m' c' ∧ i = .int .i64 k' ∧ k' ≤ n1 ∧ m' ≤ m + 2 * k' ∧ m' ≤ c' ∧ Hid (L = add (nrm (bl ps)) (bl (qs.take k'))) ∧ Sh wr wr.heap.size .i64 A' m' L ∧ Bl w wr) (fun _ i _ => n1 - (intOf i).toNat)
      case atStart => exact ⟨A', m, c', 0, L, rfl, rfl, by omega, by omega, h0c, HX, hs0, hb0⟩
      case round =>
        clear hs0
        obtain ⟨A9, m9, c9, j, L9, rfl, rfl, hk, hmk, hmc, hL, hs, hb⟩ := hrel
        by_cases hlt : j < n1
        · obtain ⟨b, o, rfl, hbB, hcell⟩ := hS1.2 (by omega)
          have hc1 := (Below.cell hb (p := ⟨b, o + j * 2, none⟩) hbB).trans (hcell j hlt).1
          have hc2 := (Below.cell hb (p := ⟨b, o + j * 2 + 1, none⟩) hbB).trans (hcell j hlt).2
          have hsn := hid (take_snocP (l := qs) (i := j) (by rw [hl1.out]; omega))
          clear hcell
          generalize qs.getD j (0, 0) = p at *
          obtain ⟨x, y⟩ := p
          simp only at hc1 hc2
          have ha : asc L9 := by rw [hL.out]; exact add_asc _ _ (nrm_asc _)
          have hi1 := ins_len x L9
          have hi2 := ins_len y (ins x L9)
          have hml := hs.len
          have r1 := hid (with_any A9 m9 c9 L9 x wr.drew hs (by omega) ha)
          have r2 := hid (fun w1 A2 c2 (h : Sh w1 w1.heap.size .i64 A2 (ins x L9).length (ins x L9)) => with_any A2 (ins x L9).length c2 (ins x L9) y w1 h (by omega) (asc_ins _ _ ha))
          have fin : Hid (ins y (ins x L9) = add (nrm (bl ps)) (bl (qs.take (j + 1)))) := hid (by rw [hsn.out, bl_snoc, hL.out]; rw [add_two])
          have HM := hid hml
          clear ha hml
          generalize ins y (ins x L9) = L2 at *
          generalize ins x L9 = L1 at *
          have hB : Bl wr wr.drew := (Bl.refl wr).drew
          have hwb : b < wr.heap.size := Nat.lt_of_lt_of_le hbB hb.size
          have i0 : (0 : Int) ≤ (j : Int) := by omega
          have i1 : (j : Int) < (n1 : Int) := by omega
          go_wp2_with fail
          go_region_held3 (fun w' => w'.cell? ⟨b, o + j * 2, none⟩ = some (.int .i64 x) ∧ w'.cell? ⟨b, o + j * 2 + 1, none⟩ = some (.int .i64 y))
            (first
              | go_keep
              | (exact ⟨(Below.cell hW1 (p := ⟨b, o + j * 2, none⟩) hwb).trans hc1, (Below.cell hW1 (p := ⟨b, o + j * 2 + 1, none⟩) hwb).trans hc2⟩)
              | (exact ⟨(Below.cell hW2 (p := ⟨b, o + j * 2, none⟩) hwb).trans hc1, (Below.cell hW2 (p := ⟨b, o + j * 2 + 1, none⟩) hwb).trans hc2⟩))
            (first
              | (go_at_call 45; (with_reducible refine r1.out.mono ?_); rintro e w1 ⟨A2, c2, rfl, hs2, hcc2, hb2⟩; have hW1 : Bl wr w1 := Bl.trans hB hb2)
              | (go_at_call 45; (with_reducible refine (r2.out _ _ _ hs2).mono ?_); rintro e w2 ⟨A3, c3, rfl, hs3, hcc3, hb3⟩; have hW2 : Bl wr w2 := Bl.trans hW1 hb3))
          go_wp2_with fail
          go_roundw
          case rel => exact ⟨A3, L2.length, c3, j + 1, L2, rfl, by go_num, by omega, by have := HM.out; omega, hcc3, fin, hs3, Bl.trans hb hW2⟩
          case measure => simp [intOf]; omega
        · obtain rfl : j = n1 := by omega
          have HY := hid (show L9 = bds ps qs by have := hL.out; rwa [take_allP (by rw [hl1.out]; omega)] at this)
          clear hL
          go_wp2_with fail
          go_ret
          have hz := hs.len
          rw [HY.out] at hs hz
          subst hz
          exact ⟨A9, c9, rfl, hs, hmc, hb⟩
end Go.Proofs.Ytdfnmohgkjonfaa.Span
