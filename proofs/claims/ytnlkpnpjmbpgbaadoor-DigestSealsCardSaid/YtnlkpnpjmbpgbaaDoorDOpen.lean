/- Contracts of digest and its reference: the reference of Seal; Open and its reference. -/
import Derived.Test.YtnlkpnpjmbpgbaaDoorDSeal
import Derived.Deep.RegionHeld3
namespace Go.Proofs.YtnlkpnpjmbpgbaaDoor.Digest
open Go.RowKit
open Go.Proofs.YtnlkpnpjmbpgbaaDoor.Wire
set_option linter.unusedVariables false

set_option maxHeartbeats 1000000 in
theorem RSeal_any (A : Option Addr) (n c : Nat) (xs : List Int) (w : World) (hS : Sh w w.heap.size .u8 A n xs) (hb : byts xs) (hn : n + 4 ≤ 140737488355328) :
    Calls Tryd.prog 23 #[.slice A n c] w (Out2 w .u8 (isld xs)) := by
  have hC := icrc_b hb
  have hxs := hid (show xs ++ ibeb 4 (icrc xs) = isld xs from rfl)
  have c1 := hid (fun w' (h : Bl w w') => RCrc_any A n c xs w' _ (hS.bl h) hb (by omega))
  generalize icrc xs = C at *
  have r2 := hid (fun w' => RBytes4 C w' hC.1 (by omega))
  generalize ibeb 4 C = zs at *
  go_enter Tryd.func23, Tryd.ntmps23
  go_wp2_with (at_builtin; refine wpList_app_own _ rfl (.tmp 4) (.tmp 5) _ rfl el8 (B := w.heap.size) (xs := []) rfl (Ow.none_ w _ _ _) rfl hS (by omega) (by omega) (Nat.le_refl _) ?_; intro A2 c2 w2 ho2 hb2)
  simp only [List.nil_append, Nat.zero_add] at ho2
  refine (c1.out _ hb2).mono ?_
  rintro e w' ⟨rfl, rfl⟩
  go_wp2_with fail
  refine (r2.out _).mono ?_
  rintro e w3 ⟨A3, c3, rfl, hS3, hc3, hb3⟩
  have ho3 := ho2.below hb3
  have hb03 : Bl w w3 := Bl.trans (show Bl w w2 from hb2) hb3
  clear ho2 hb2 hb3
  go_wp2_with (at_builtin; refine wpList_app_own _ rfl (.tmp 7) (.tmp 11) _ rfl el8 rfl ho3 rfl hS3 (by omega) (by omega) hb03.size ?_; intro A4 c4 w4 ho4 hb4)
  go_ret
  rw [hxs.out] at ho4
  exact ho4.out (Below.trans hb03 hb4)

/-- what Open answers -/
def oe (xs : List Int) : Int := if xs.length < 4 then 5 else if eqb (isld (xs.take (xs.length - 4))) xs then 0 else 6
def oc (xs : List Int) : List Int := if oe xs = 0 then xs.take (xs.length - 4) else []
theorem oe_short {xs : List Int} (h : xs.length < 4) : oe xs = 5 ∧ oc xs = [] := by
  have e : oe xs = 5 := by unfold oe; rw [if_pos h]
  exact ⟨e, by unfold oc; rw [e]; rfl⟩
theorem oe_sum {xs : List Int} (h : ¬ xs.length < 4) (g : eqb (isld (xs.take (xs.length - 4))) xs = false) : oe xs = 6 ∧ oc xs = [] := by
  have e : oe xs = 6 := by unfold oe; rw [if_neg h, if_neg (by rw [g]; decide)]
  exact ⟨e, by unfold oc; rw [e]; rfl⟩
theorem oe_ok {xs : List Int} (h : ¬ xs.length < 4) (g : eqb (isld (xs.take (xs.length - 4))) xs = true) : oe xs = 0 ∧ oc xs = xs.take (xs.length - 4) := by
  have e : oe xs = 0 := by unfold oe; rw [if_neg h, if_pos g]
  exact ⟨e, by unfold oc; rw [if_pos e]⟩
theorem oe_cases (xs : List Int) : oe xs = 0 ∨ oe xs = 5 ∨ oe xs = 6 := by unfold oe; split <;> (try split) <;> simp
theorem oe_seal {xs : List Int} (h : oe xs = 0) : isld (oc xs) = xs := by
  have h4 : ¬ xs.length < 4 := fun g => by have := (oe_short g).1; omega
  cases g : eqb (isld (xs.take (xs.length - 4))) xs
  · have := (oe_sum h4 g).1; omega
  · rw [(oe_ok h4 g).2]; simpa [eqb] using g
theorem oe_isld {xs : List Int} : oe (isld xs) = 0 ∧ oc (isld xs) = xs := by
  have hl := isld_len xs
  have ht : (isld xs).take ((isld xs).length - 4) = xs := by rw [hl, Nat.add_sub_cancel]; unfold isld; simp
  have := oe_ok (xs := isld xs) (by omega) (by rw [ht]; exact eqb_same _)
  rw [ht] at this
  exact this
theorem oc_le (xs : List Int) : (oc xs).length ≤ xs.length := by unfold oc; split <;> simp
theorem oc_b {xs : List Int} (h : byts xs) : byts (oc xs) := by
  unfold oc
  split
  · exact byts_take h _
  · intro x hx; cases hx
def OpenOut (w : World) (zs : List Int) (E : Int) (e : Ending) (w' : World) : Prop :=
  ∃ A' c', e = .returned (.tuple #[.slice A' zs.length c', .int .i64 E]) ∧ Sh w' w'.heap.size .u8 A' zs.length zs ∧ zs.length ≤ c' ∧ Bl w w'
theorem OpenOut.nil {w w' : World} {zs : List Int} {E : Int} {F : Int} (h : F = E ∧ zs = []) (hb : Bl w w') : OpenOut w zs E (.returned (.tuple #[.slice none 0 0, .int .i64 F])) w' := by
  obtain ⟨rfl, rfl⟩ := h
  exact ⟨none, 0, rfl, Sh.nil _ _ _ _, Nat.le_refl _, hb⟩

set_option maxHeartbeats 1000000 in
theorem Open_any (A : Option Addr) (n c : Nat) (xs : List Int) (w : World) (hS : Sh w w.heap.size .u8 A n xs) (hb : byts xs) (hT : Tab w) (hc : n ≤ c) (hn : n ≤ 140737488355328) :
    Calls Tryd.prog 21 #[.slice A n c] w (OpenOut w (oc xs) (oe xs)) := by
  have hl := hS.len
  by_cases h4 : n < 4
  · have fin := hid (oe_short (xs := xs) (by omega))
    generalize oe xs = E at *
    generalize oc xs = Z at *
    go_enter Tryd.func21, Tryd.ntmps21
    go_wp2_with fail
    go_ret2
    exact OpenOut.nil ⟨fin.out.1.symm, fin.out.2⟩ (Bl.refl _)
  · obtain ⟨m, hm⟩ : ∃ m, n = m + 4 := ⟨n - 4, by omega⟩
    subst hm
    have hyl := isld_len (xs.take m)
    have htl : (xs.take m).length = m := by rw [List.length_take]; omega
    have c1 := hid ((Seal_any A m c (xs.take m) w (hS.take (by omega)) (byts_take hb _) hT (by omega)).mono fun e w1 h => h.at (n := m + 4) (by rw [hyl, htl]))
    have fy := hid (oe_ok (xs := xs) (by omega))
    have fn := hid (oe_sum (xs := xs) (by omega))
    rw [show xs.length - 4 = m by omega] at fy fn
    have hyb := isld_b (byts_take hb m)
    have htk := hid (show (isld (xs.take m)).take m = xs.take m by unfold isld; rw [List.take_append_of_le_length (by rw [List.length_take]; omega), List.take_of_length_le (by rw [List.length_take]; omega)])
    have c2 := hid (fun (w' : World) (A' : Option Addr) (c' : Nat) (hS' : Sh w' w'.heap.size .u8 A' (m + 4) (isld (xs.take m))) (h : Bl w w') => Equal_any A' A (m + 4) (m + 4) c' c _ xs w' _ _ hS' (hS.bl h) hyb hb)
    have htl := hid htl
    clear hyb hyl hb hS hT hl h4
    generalize oe xs = E at *
    generalize oc xs = Z at *
    generalize xs.take m = ys at *
    generalize isld ys = S at *
    go_enter Tryd.func21, Tryd.ntmps21
    go_wp2_with fail
    refine c1.out.mono ?_
    rintro e w1 ⟨A1, c1, rfl, hS1, hc1, hb1⟩
    have htk1 := hS1.take (m := m) (by omega)
    rw [htk.out] at htk1
    cases hq : eqb S xs
    · have fin := hid (fn.out hq)
      have c2' := hid (c2.out w1 A1 c1 hS1 hb1)
      rw [hq] at c2'
      clear hq fy fn c2
      go_wp2_with fail
      refine c2'.out.mono ?_
      rintro e w' ⟨rfl, rfl⟩
      go_wp2_with fail
      go_ret2
      exact OpenOut.nil ⟨fin.out.1.symm, fin.out.2⟩ hb1
    · have fin := hid (fy.out hq)
      have c2' := hid (c2.out w1 A1 c1 hS1 hb1)
      rw [hq] at c2'
      clear hq fy fn c2
      go_wp2_with fail
      refine c2'.out.mono ?_
      rintro e w' ⟨rfl, rfl⟩
      go_wp2_with fail
      go_ret2
      refine ⟨A1, m, ?_, ?_, ?_, hb1⟩
      · rw [fin.out.1, fin.out.2, htl.out]; rfl
      · rw [fin.out.2, htl.out]; exact htk1
      · rw [fin.out.2, htl.out]; exact Nat.le_refl _
end Go.Proofs.YtnlkpnpjmbpgbaaDoor.Digest
