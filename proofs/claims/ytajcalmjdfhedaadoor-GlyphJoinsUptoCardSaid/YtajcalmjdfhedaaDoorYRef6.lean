/- Contracts of the reference of glyph: Encode. -/
import Derived.Test.YtajcalmjdfhedaaDoorYRef5
namespace Go.Proofs.YtajcalmjdfhedaaDoor.Glyph
open Go.RowKit
open Go.Proofs.YtajcalmjdfhedaaDoor.Wire
set_option linter.unusedVariables false

set_option maxHeartbeats 1000000 in
theorem REncode_any (A : Option Addr) (n c : Nat) (xs : List Int) (w : World) (hS : Sh w w.heap.size .i64 A n xs) (hm : n ≤ 17592186044416) :
    Calls Tryd.prog 17 #[.slice A n c] w fun e w' => e = .returned (.tuple #[.string (encS xs), .int .i64 (encE xs)]) ∧ Bl w w' := by
  have hl := hid hS.len
  go_enter Tryd.func17, Tryd.ntmps17
  go_wp2_with fail
  go_loopw [4, 5] (fun s i wr => ∃ (k : Nat) (S : ByteArray), s = .string S ∧ i = .int .i64 k ∧ k ≤ n ∧ S.size ≤ 3 * k ∧ Hid (S = strOfNums (enc (xs.take k))) ∧ Hid (okl (xs.take k)) ∧ Bl w wr) (fun _ i _ => n - (intOf i).toNat)
  case atStart => exact ⟨0, _, rfl, rfl, by omega, by decide, hid rfl, hid okl_nil, Bl.refl _⟩
  case round =>
    obtain ⟨k, S, rfl, rfl, hk, hsz, hs, ho, hb⟩ := hrel
    by_cases hlt : k < n
    · obtain ⟨b, o, rfl, _, hcell⟩ := (hS.bl hb).2 (by omega)
      have hc1 := hcell k hlt
      have hsn := hid (take_snoc (l := xs) (i := k) (by rw [hl.out]; omega))
      have hmem := hid (show xs.getD k 0 ∈ xs by
        have : xs.getD k 0 = xs[k]'(by rw [hl.out]; exact hlt) := by simp [List.getD, List.getElem?_eq_getElem (show k < xs.length by rw [hl.out]; exact hlt)]
        rw [this]; exact List.getElem_mem _)
      clear hcell
      generalize xs.getD k 0 = x at *
      have c1 := RScript_any x wr
      by_cases hx : scr x < 0
      · have hno : ¬ okl xs := fun h => by have := h x hmem.out; omega
        have f1 := hid (show encS xs = ⟨#[]⟩ by unfold encS; rw [if_neg hno])
        have f2 := hid (show encE xs = 4 by unfold encE; rw [if_neg hno])
        generalize scr x = X at *
        have C1 := hid c1
        clear c1 hno
        go_wp2_with fail
        refine C1.out.mono ?_
        rintro e w' ⟨rfl, rfl⟩
        go_wp2_with fail
        go_ret2
        exact ⟨ret2 f1.out.symm f2.out.symm, hb⟩
      · have hr := scr_range (r := x) (by omega)
        have ho2 := hid (show okl (xs.take (k + 1)) by rw [hsn.out]; exact okl_snoc.2 ⟨ho.out, by omega⟩)
        have hs2 := hid (show S ++ strOfNums (un x) = strOfNums (enc (xs.take (k + 1))) by rw [hsn.out, enc_snoc, hs.out, strOf_app])
        have hus : (strOfNums (un x)).size ≤ 3 := by rw [strOfNums_size]; exact (un_len x).2
        have c2 := unit_any x wr (by omega) (by omega)
        generalize scr x = X at *
        generalize strOfNums (un x) = U at *
        have C1 := hid c1
        have C2 := hid c2
        clear c1 c2 hsn ho hs
        go_wp2_with fail
        refine C1.out.mono ?_
        rintro e w' ⟨rfl, rfl⟩
        go_wp2_with fail
        refine C2.out.mono ?_
        rintro e w2 ⟨rfl, hb2⟩
        go_wp2_with fail
        go_roundw
        case rel => exact ⟨k + 1, _, rfl, by go_num, by omega, by rw [ByteArray.size_append]; omega, hs2, ho2, hb.trans hb2⟩
        case measure => simp [intOf]; omega
    · obtain rfl : k = n := by omega
      have hto := hid (take_all (l := xs) (n := k) (by rw [hl.out]; exact Nat.le_refl _))
      rw [hto.out] at ho hs
      have f1 := hid (show encS xs = S by unfold encS; rw [if_pos ho.out, hs.out])
      have f2 := hid (show encE xs = 0 by unfold encE; rw [if_pos ho.out])
      clear hto hs
      go_wp2_with fail
      go_ret2
      exact ⟨ret2 f1.out.symm f2.out.symm, hb⟩
end Go.Proofs.YtajcalmjdfhedaaDoor.Glyph
