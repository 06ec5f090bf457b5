/- Contract of the reference of Open. -/
import Derived.Test.YtnlkpnpjmbpgbaaDoorDOpen
namespace Go.Proofs.YtnlkpnpjmbpgbaaDoor.Digest
open Go.RowKit
open Go.Proofs.YtnlkpnpjmbpgbaaDoor.Wire
set_option linter.unusedVariables false

theorem eqb_split (xs : List Int) (m : Nat) : eqb (isld (xs.take m)) xs = eqb (ibeb 4 (icrc (xs.take m))) (xs.drop m) := by
  unfold eqb isld
  have : (xs.take m ++ ibeb 4 (icrc (xs.take m)) = xs) ↔ (ibeb 4 (icrc (xs.take m)) = xs.drop m) := by
    constructor
    · intro e
      exact List.append_cancel_left (e.trans (List.take_append_drop m xs).symm)
    · intro e
      rw [e]; exact List.take_append_drop m xs
  by_cases h : ibeb 4 (icrc (xs.take m)) = xs.drop m
  · rw [decide_eq_true h, decide_eq_true (this.2 h)]
  · rw [decide_eq_false h, decide_eq_false (fun e => h (this.1 e))]

set_option maxHeartbeats 1000000 in
theorem ROpen_any (A : Option Addr) (n c : Nat) (xs : List Int) (w : World) (hS : Sh w w.heap.size .u8 A n xs) (hb : byts xs) (hc : n ≤ c) (hn : n ≤ 140737488355328) :
    Calls Tryd.prog 24 #[.slice A n c] w (OpenOut w (oc xs) (oe xs)) := by
  have hl := hS.len
  by_cases h4 : n < 4
  · have fin := hid (oe_short (xs := xs) (by omega))
    generalize oe xs = E at *
    generalize oc xs = Z at *
    go_enter Tryd.func24, Tryd.ntmps24
    go_wp2_with fail
    go_ret2
    exact OpenOut.nil ⟨fin.out.1.symm, fin.out.2⟩ (Bl.refl _)
  · obtain ⟨m, hm⟩ : ∃ m, n = m + 4 := ⟨n - 4, by omega⟩
    subst hm
    have hC := icrc_b (byts_take hb m)
    have hC0 := hC.1
    have hC1 := hC.2
    have c1 := hid (fun w' (h : Bl w w') => RCrc_any A m c (xs.take m) w' _ ((hS.bl h).take (by omega)) (byts_take hb m) (by omega))
    have fy := hid (oe_ok (xs := xs) (by omega))
    have fn := hid (oe_sum (xs := xs) (by omega))
    rw [show xs.length - 4 = m by omega, eqb_split] at fy fn
    have r2 := hid (fun w' => RBytes4 (icrc (xs.take m)) w' hC.1 (by omega))
    have htl := hid (show (xs.take m).length = m by rw [List.length_take]; omega)
    have hT := hS.take (m := m) (by omega)
    obtain ⟨b, o, rfl, _, _⟩ := hS.2 (by omega)
    have hD := hS.drop (m := m) (by omega) (A' := some ⟨b, o + m, none⟩) (fun _ b' o' e => by injection e with e; injection e with e1 e2; subst e1 e2; rfl)
    rw [Nat.add_sub_cancel_left] at hD
    generalize oe xs = E at *
    generalize oc xs = Z at *
    generalize xs.take m = ys at *
    generalize xs.drop m = zs at *
    generalize icrc ys = C at *
    have c3 := hid (fun (w' : World) (A' : Option Addr) (c' : Nat) (hS' : Sh w' w'.heap.size .u8 A' 4 (ibeb 4 C)) (h : Bl w w') => Same_any A' (some ⟨b, o + m, none⟩) 4 4 c' (c - m) _ zs w' _ _ hS' (hD.bl h) (by omega) (by omega))
    generalize ibeb 4 C = vs at *
    have hB : Bl w w.drew := (Bl.refl w).drew
    have b1 : (m : Int) ≤ (c : Int) := by omega
    have b2 : (m : Int) ≤ (m : Int) + 4 := by omega
    have b3 : (0 : Int) ≤ (m : Int) := by omega
    have hwC : IntKind.u64.wrap C = C := by rw [IntKind.wrap_u64]; omega
    cases hq : eqb vs zs
    all_goals
      rw [hq] at fy fn c3
      have fy := hid fy
      clear hq
      go_enter Tryd.func24, Tryd.ntmps24
      go_wp2_with fail
    · go_region_held3 (fun w' => True) (trivial) (first
        | (go_at_call 11; (with_reducible refine (c1.out _ (by assumption)).mono ?_); rintro e w' ⟨rfl, rfl⟩)
        | (go_at_call 17; (with_reducible refine (r2.out _).mono ?_); rintro e wx ⟨Ax, cx, rfl, hsx, hcx, hbx⟩; have hB : Bl w wx := Bl.trans (by assumption) hbx)
        | (go_at_call 22; (with_reducible refine (c3.out _ _ _ hsx (by assumption)).mono ?_); rintro e wy ⟨rfl, hqy⟩; have hB : Bl w wy := Bl.q (by assumption) hqy))
      have fin := hid (fn.out (by trivial))
      clear fy fn
      go_wp2_with fail
      go_ret2
      exact OpenOut.nil ⟨fin.out.1.symm, fin.out.2⟩ (by assumption)
    · go_region_held3 (fun w' => True) (trivial) (first
        | (go_at_call 11; (with_reducible refine (c1.out _ (by assumption)).mono ?_); rintro e w' ⟨rfl, rfl⟩)
        | (go_at_call 17; (with_reducible refine (r2.out _).mono ?_); rintro e wx ⟨Ax, cx, rfl, hsx, hcx, hbx⟩; have hB : Bl w wx := Bl.trans (by assumption) hbx)
        | (go_at_call 22; (with_reducible refine (c3.out _ _ _ hsx (by assumption)).mono ?_); rintro e wy ⟨rfl, hqy⟩; have hB : Bl w wy := Bl.q (by assumption) hqy))
      have fin := hid (fy.out (by trivial))
      clear fy fn
      have hW : Bl w wy := by assumption
      go_wp2_with (at_builtin; refine wpList_app_own _ rfl (.tmp 22) (.tmp 25) _ rfl el8 (B := w.heap.size) (xs := []) rfl (Ow.none_ wy _ _ _) rfl (hT.bl hW) (by omega) (by omega) hW.size ?_; intro A4 c4 w4 ho4 hb4)
      go_ret2
      simp only [List.nil_append, Nat.zero_add] at ho4
      obtain ⟨A5, c5, he5, hs5, hc5, hb5⟩ := ho4.out (Below.trans hW hb4)
      refine ⟨A5, c5, ?_, ?_, ?_, hb5⟩
      · rw [fin.out.1, fin.out.2]; injection he5 with he5; rw [← he5]; rfl
      · rw [fin.out.2]; exact hs5
      · rw [fin.out.2]; exact hc5
theorem same_at (xs : List Int) (n : Nat) (w : World) (A A' : Option Addr) (c c' : Nat) (hn : n ≤ 140737488355328) (hS : Sh w w.heap.size .u8 A n xs) (hS' : Sh w w.heap.size .u8 A' n xs) :
    Calls Tryd.prog 22 #[.slice A n c, .slice A' n c'] w fun e w' => e = .returned (.bool true) ∧ Q w w' := by
  have := Same_any A A' n n c c' xs xs w _ _ hS hS' hn hn
  rwa [eqb_same] at this

end Go.Proofs.YtnlkpnpjmbpgbaaDoor.Digest
