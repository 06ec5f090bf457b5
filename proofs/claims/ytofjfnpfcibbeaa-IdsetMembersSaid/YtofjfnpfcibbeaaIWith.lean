/- Contracts of the reference of idset: With. -/
import Derived.Test.YtofjfnpfcibbeaaIRef
import Derived.Deep.RegionHeld3
namespace Go.Proofs.Ytofjfnpfcibbeaa.Idset
open Go.RowKit
open Go.Proofs.Ytofjfnpfcibbeaa.Wire
set_option linter.unusedVariables false

theorem hasb_mem {xs : List Int} {N : Int} (h : hasb xs N = true) : N ∈ xs := by unfold hasb at h; exact of_decide_eq_true h
theorem hasb_not {xs : List Int} {N : Int} (h : hasb xs N = false) : ¬ N ∈ xs := by unfold hasb at h; exact of_decide_eq_false h

set_option maxHeartbeats 1000000 in
theorem RWith_any (A : Option Addr) (n c : Nat) (xs : List Int) (N : Int) (w : World) (hS : Sh w w.heap.size .i64 A n xs) (hc : n ≤ c) (hm : n ≤ 1099511627776) (ha : asc xs) :
    Calls Try.prog 26 #[.slice A n c, .int .i64 N] w (Out2 w .i64 (ins N xs)) := by
  have hl := hid hS.len
  have c1 := RHas_any A n c xs N w _ hS (by omega)
  have HA := hid ha
  clear ha
  cases hh : hasb xs N
  · rw [hh] at c1
    have hno := hid (hasb_not hh)
    clear hh
    have C1 := hid c1
    clear c1
    go_enter Try.func26, Try.ntmps26
    go_wp2_with fail
    refine C1.out.mono ?_
    rintro e w' ⟨rfl, rfl⟩
    go_wp2_with fail
    go_loop [5] (fun i => ∃ (k : Nat), i = .int .i64 k ∧ k ≤ n ∧ Hid (∀ x ∈ xs.take k, x < N)) (fun i => n - (intOf i).toNat)
    case atStart => exact ⟨0, rfl, by omega, hid (by simp)⟩
    case round =>
      obtain ⟨k, rfl, hk, hn⟩ := hrel
      by_cases hlt : k < n ∧ xs.getD k 0 < N
      · obtain ⟨hlt, hx⟩ := hlt
        obtain ⟨b, o, rfl, _, hcell⟩ := hS.2 (by omega)
        have hc1 := hcell k hlt
        have hsn := hid (take_snoc (l := xs) (i := k) (by rw [hl.out]; omega))
        clear hcell
        generalize xs.getD k 0 = x at *
        go_wp2_with fail
        go_round
        case rel => exact ⟨k + 1, by go_num, by omega, hid (by rw [hsn.out]; intro y hy; rcases List.mem_append.1 hy with h | h; exact hn.out y h; obtain rfl := List.mem_singleton.1 h; exact hx)⟩
        case measure => simp [intOf]; omega
      · have h2 : Hid (∀ x ∈ xs.drop k, N < x) := by
          apply hid
          by_cases hkn : k < n
          · have hxk := getD_mem (l := xs) (k := k) (by rw [hl.out]; omega)
            refine drop_gt HA.out (by rw [hl.out]; exact hkn) ?_
            have hne : xs.getD k 0 ≠ N := fun e => hno.out (e ▸ hxk)
            have : ¬ xs.getD k 0 < N := fun h => hlt ⟨hkn, h⟩
            omega
          · rw [List.drop_eq_nil_of_le (by rw [hl.out]; omega)]; simp
        have fin := hid (ins_at HA.out (by rw [hl.out]; exact hk) hn.out h2.out)
        have hT := hS.take (m := k) hk
        by_cases hkn : k < n
        · have hxk : ¬ xs.getD k 0 < N := fun h => hlt ⟨hkn, h⟩
          obtain ⟨b, o, rfl, _, hcell⟩ := hS.2 (by omega)
          have hc1 := hcell k hkn
          have hD := hS.drop (m := k) hk (A' := some ⟨b, o + k, none⟩) (fun _ b' o' e => by injection e with e; injection e with e1 e2; subst e1 e2; rfl)
          have HX := hxk
          generalize xs.getD k 0 = x at *
          clear hlt hcell h2 hn
          generalize xs.take k = ys at *
          generalize xs.drop k = zs at *
          have hge : N ≤ x := by omega
          have b1 : (k : Int) ≤ (c : Int) := by omega
          have b2 : (k : Int) ≤ (n : Int) := by omega
          have b3 : (0 : Int) ≤ (k : Int) := by omega
          have b4 : ¬ c = k := by omega
          go_wp2_with (at_builtin; refine wpList_app_own _ rfl (.tmp 25) (.tmp 28) _ rfl elI rfl (Ow.new w _ _) rfl (hT.alloc (Nat.le_refl _) _) (by omega) (by omega) (by simp) ?_; intro A2 c2 w2 ho2 hb2)
          have hW : Bl w w2 := Below.trans ((Bl.refl w).alloc _) hb2
          simp only [List.nil_append, Nat.zero_add] at ho2
          go_region_held3 (fun w' => True) (trivial) (first
            | (refine step_app_own _ (by rfl) (.tmp 30) (.tmp 32) _ (by rfl) elI (by rfl) ((ho2.alloc _).drew) (by rfl) ((Sh.one _ _ _ _).drew) (by omega) (by omega) (by have := hW.size; simp; omega) ?_; intro A3 c3 w3 ho3 hb3; have hW3 : Bl w w3 := Below.trans (Bl.drew (hW.alloc _)) hb3)
            | (refine step_app_own _ (by rfl) (.tmp 33) (.tmp 36) _ (by rfl) elI (by rfl) ho3 (by rfl) (hD.bl hW3) (by omega) (by omega) hW3.size ?_; intro A4 c4 w4 ho4 hb4))
          go_wp2_with fail
          go_ret
          rw [List.append_assoc, List.singleton_append, fin.out] at ho4
          exact ho4.out (Below.trans hW3 hb4)
        · obtain rfl : k = n := by omega
          have hz : xs.drop k = [] := List.drop_eq_nil_of_le (by rw [hl.out]; exact Nat.le_refl _)
          have HZ := hid hz
          clear hlt h2 hn hz
          generalize xs.take k = ys at *
          generalize xs.drop k = zs at *
          have b1 : (k : Int) ≤ (c : Int) := by omega
          have b3 : (0 : Int) ≤ (k : Int) := by omega
          rcases A with _ | ⟨b, o, sp⟩
          all_goals
            by_cases hck : c = k
            all_goals
              go_wp2_with (at_builtin; refine wpList_app_own _ rfl (.tmp 25) (.tmp 28) _ rfl elI rfl (Ow.new w _ _) rfl (hT.alloc (Nat.le_refl _) _) (by omega) (by omega) (by simp) ?_; intro A2 c2 w2 ho2 hb2)
              have hW : Bl w w2 := Below.trans ((Bl.refl w).alloc _) hb2
              simp only [List.nil_append, Nat.zero_add] at ho2
              go_region_held3 (fun w' => True) (trivial) (first
                | (refine step_app_own _ (by rfl) (.tmp 30) (.tmp 32) _ (by rfl) elI (by rfl) ((ho2.alloc _).drew) (by rfl) ((Sh.one _ _ _ _).drew) (by omega) (by omega) (by have := hW.size; simp; omega) ?_; intro A3 c3 w3 ho3 hb3; have hW3 : Bl w w3 := Below.trans (Bl.drew (hW.alloc _)) hb3)
                | (refine step_app_own _ (by rfl) (.tmp 33) (.tmp 36) _ (by rfl) elI (by rfl) ho3 (by rfl) (Sh.nil w3 0 .i64 _) (by omega) (by omega) hW3.size ?_; intro A4 c4 w4 ho4 hb4))
              go_wp2_with fail
              go_ret
              rw [HZ.out] at fin
              rw [List.append_assoc, List.singleton_append, fin.out] at ho4
              exact ho4.out (Below.trans hW3 hb4)
  · rw [hh] at c1
    have C1 := hid c1
    have fin := hid (ins_has HA.out (hasb_mem hh))
    clear hh c1
    generalize ins N xs = ys at *
    go_enter Try.func26, Try.ntmps26
    go_wp2_with fail
    refine C1.out.mono ?_
    rintro e w' ⟨rfl, rfl⟩
    go_wp2_with fail
    go_ret
    refine ⟨A, c, ?_, ?_, ?_, Bl.refl _⟩
    · rw [fin.out, hl.out]; rfl
    · rw [fin.out, hl.out]; exact hS
    · rw [fin.out, hl.out]; exact hc
end Go.Proofs.Ytofjfnpfcibbeaa.Idset
