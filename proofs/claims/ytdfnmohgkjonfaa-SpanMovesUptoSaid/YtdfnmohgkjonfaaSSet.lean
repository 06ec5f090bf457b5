/- Contracts of span: Valid (Has, Total: SHas; Normal, Union: SUni; Inter: SInter; Minus: SMinus). -/
import Derived.Test.YtdfnmohgkjonfaaSHas
namespace Go.Proofs.Ytdfnmohgkjonfaa.Span
open Go.RowKit
open Go.Proofs.Ytdfnmohgkjonfaa.Wire
set_option linter.unusedVariables false

theorem vdb_no1 {ps : List Pr} {k : Nat} (h : k < ps.length) (hx : ¬ (ps.getD k (0, 0)).1 < (ps.getD k (0, 0)).2) : vdb ps = false := by
  unfold vdb
  exact decide_eq_false fun g => hx (g k h).1
theorem vdb_no2 {ps : List Pr} {k : Nat} (h : k + 1 < ps.length) (hx : ¬ (ps.getD k (0, 0)).2 < (ps.getD (k + 1) (0, 0)).1) : vdb ps = false := by
  unfold vdb
  exact decide_eq_false fun g => hx (by have := (g (k + 1) h).2 (by omega); simpa using this)
def Vto (ps : List Pr) (k : Nat) : Prop := ∀ i, i < k → (ps.getD i (0, 0)).1 < (ps.getD i (0, 0)).2 ∧ (0 < i → (ps.getD (i - 1) (0, 0)).2 < (ps.getD i (0, 0)).1)
theorem Vto.next {ps : List Pr} {k : Nat} (h : Vto ps k) (h1 : (ps.getD k (0, 0)).1 < (ps.getD k (0, 0)).2) (h2 : 0 < k → (ps.getD (k - 1) (0, 0)).2 < (ps.getD k (0, 0)).1) : Vto ps (k + 1) := by
  intro i hi
  by_cases e : i = k
  · subst e; exact ⟨h1, h2⟩
  · exact h i (by omega)
theorem vdb_all {ps : List Pr} (h : Vto ps ps.length) : vdb ps = true := by unfold vdb; exact decide_eq_true h

set_option maxHeartbeats 2000000 in
theorem Valid_any (A : Option Addr) (n c : Nat) (ps : List Pr) (w : World) (hS : ShP w w.heap.size A n ps) (hc : n ≤ c) (ho : okp ps) (hm : n ≤ 67108864) :
    Calls Try.prog 13 #[.slice A n c] w fun e w' => e = .returned (.bool (vdb ps)) ∧ Bl w w' := by
  have hl := hid hS.len
  go_enter Try.func13, Try.ntmps13
  go_wp2_with fail
  go_loopw [7] (fun i wr => ∃ (k : Nat), i = .int .i64 k ∧ k ≤ n ∧ Hid (Vto ps k) ∧ Bl w wr) (fun i _ => n - (intOf i).toNat)
  case atStart => exact ⟨0, rfl, by omega, hid (fun i h => by omega), Bl.refl _⟩
  case round =>
    obtain ⟨k, rfl, hk, hV, hb⟩ := hrel
    by_cases hlt : k < n
    · obtain ⟨b, o, rfl, hbB, hcell⟩ := (hS.bl hb).2 (by omega)
      have hc1 := (hcell k hlt).1
      have hc2 := (hcell k hlt).2
      have hkl : k < ps.length := by rw [hl.out]; exact hlt
      obtain ⟨wb, hwb⟩ : ∃ wb, wb = wr.alloc (.cells #[.int .i64 (ps.getD k (0, 0)).1, .int .i64 (ps.getD k (0, 0)).2] 34) := ⟨_, rfl⟩
      have hbb : Bl w wb := by rw [hwb]; exact hb.alloc _
      have hbr : Bl wr wb := by rw [hwb]; exact (Bl.refl _).alloc _
      have bx : BxP wb wr.heap.size (ps.getD k (0, 0)).1 (ps.getD k (0, 0)).2 34 := by rw [hwb]; exact BxP.new _ _ _ _ rfl
      have g1 := fun n os => Go.cell_grown bx.lt bx.fst n os
      have g2 := fun n os => Go.cell_grown bx.lt bx.snd n os
      have hem' := fun n os => emptyG_any (ps.getD k (0, 0)) (Sort.grow (wb.drewN n) os)
      have HWB := hid hwb
      by_cases hx : (ps.getD k (0, 0)).1 < (ps.getD k (0, 0)).2
      · rw [(ne_iff _).2 hx] at hem'
        simp only [Bool.not_true] at hem'
        have hem := hid hem'
        clear hem'
        by_cases hk0 : k = 0
        · have hV2 := hid (hV.out.next hx (fun h => absurd h (by omega)))
          clear hcell hx
          generalize (ps.getD k (0, 0)).1 = x at *
          generalize (ps.getD k (0, 0)).2 = y at *
          subst hk0
          simp only [Nat.zero_mul, Nat.add_zero] at hc1 hc2
          clear hwb
          go_wp2_with fail
          rw [← HWB.out]
          have mixed : Try.prog.follows .mixedOrders = true := by kernel_rfl
          refine wp_region_quiet_grown mixed (by kernel_rfl) ?_
          repeat
            with_reducible refine wpQuiet_step (fun K hK => ?_)
            go_simp
            first
              | (with_reducible refine hK _ ?_; clear hK K)
              | (apply Exists.intro; with_reducible refine ⟨fun _ => ?_, hK _ ?_⟩; (go_at_call 31; refine Calls.grown_of (hem.out _ _)); clear hK K)
          refine wpQuiet_nil ?_
          intro _ hw'
          obtain ⟨⟨nq, osq⟩, hw''⟩ := hw'
          subst hw''
          go_wp2_with fail
          go_roundw
          case rel => exact ⟨0 + 1, by go_num, by omega, hV2, Bl.grown hbb _ _⟩
          case measure => simp [intOf]; omega
        · obtain ⟨j, rfl⟩ : ∃ j, k = j + 1 := ⟨k - 1, by omega⟩
          have hc3 := (hcell j (by omega)).2
          have g3 := fun n os => Go.cell_grown (w := wb) (a := ⟨b, o + j * 2 + 1, none⟩) (Nat.lt_of_lt_of_le hbB hbr.size) ((Below.cell hbr (p := ⟨b, o + j * 2 + 1, none⟩) hbB).trans hc3) n os
          have i0 : (0 : Int) ≤ (j : Int) := by omega
          have i1 : (j : Int) < (n : Int) := by omega
          have i2 : IntKind.i64.wrap (j : Int) = (j : Int) := IntWalk.i64_in _ (by omega)
          by_cases hp : (ps.getD j (0, 0)).2 < (ps.getD (j + 1) (0, 0)).1
          · have hV2 := hid (hV.out.next hx (fun _ => by simpa using hp))
            have t1 : decide ((ps.getD (j + 1) (0, 0)).1 ≤ (ps.getD j (0, 0)).2) = false := by simpa using hp
            clear hcell hx hc3
            generalize (ps.getD (j + 1) (0, 0)).1 = x at *
            generalize (ps.getD (j + 1) (0, 0)).2 = y at *
            generalize (ps.getD j (0, 0)).2 = z at *
            clear hwb hp
            go_wp2_with fail
            rw [← HWB.out]
            have mixed : Try.prog.follows .mixedOrders = true := by kernel_rfl
            refine wp_region_quiet_grown mixed (by kernel_rfl) ?_
            repeat
              with_reducible refine wpQuiet_step (fun K hK => ?_)
              go_simp
              first
                | (with_reducible refine hK _ ?_; clear hK K)
                | (apply Exists.intro; with_reducible refine ⟨fun _ => ?_, hK _ ?_⟩; (go_at_call 31; refine Calls.grown_of (hem.out _ _)); clear hK K)
            refine wpQuiet_nil ?_
            intro _ hw'
            obtain ⟨⟨nq, osq⟩, hw''⟩ := hw'
            subst hw''
            go_wp2_with fail
            go_roundw
            case rel => exact ⟨j + 1 + 1, by go_num, by omega, hV2, Bl.grown hbb _ _⟩
            case measure => simp [intOf]; omega
          · have fin := hid (vdb_no2 hkl hp)
            have hxz : (ps.getD (j + 1) (0, 0)).1 ≤ (ps.getD j (0, 0)).2 := by omega
            clear hcell hx hc3 hp
            generalize (ps.getD (j + 1) (0, 0)).1 = x at *
            generalize (ps.getD (j + 1) (0, 0)).2 = y at *
            generalize (ps.getD j (0, 0)).2 = z at *
            clear hwb
            go_wp2_with fail
            rw [← HWB.out]
            have mixed : Try.prog.follows .mixedOrders = true := by kernel_rfl
            refine wp_region_quiet_grown mixed (by kernel_rfl) ?_
            repeat
              with_reducible refine wpQuiet_step (fun K hK => ?_)
              go_simp
              first
                | (with_reducible refine hK _ ?_; clear hK K)
                | (apply Exists.intro; with_reducible refine ⟨fun _ => ?_, hK _ ?_⟩; (go_at_call 31; refine Calls.grown_of (hem.out _ _)); clear hK K)
            refine wpQuiet_nil ?_
            intro _ hw'
            obtain ⟨⟨nq, osq⟩, hw''⟩ := hw'
            subst hw''
            go_wp2_with fail
            go_ret
            exact ⟨retB fin.out.symm, Bl.grown hbb _ _⟩
      · have hne : ne (ps.getD k (0, 0)) = false := by
          cases e : ne (ps.getD k (0, 0))
          · rfl
          · exact absurd ((ne_iff _).1 e) hx
        rw [hne] at hem'
        simp only [Bool.not_false] at hem'
        have hem := hid hem'
        have fin := hid (vdb_no1 hkl hx)
        clear hem' hcell hx hne
        generalize (ps.getD k (0, 0)).1 = x at *
        generalize (ps.getD k (0, 0)).2 = y at *
        clear hwb
        go_wp2_with fail
        rw [← HWB.out]
        have mixed : Try.prog.follows .mixedOrders = true := by kernel_rfl
        refine wp_region_quiet_grown mixed (by kernel_rfl) ?_
        repeat
          with_reducible refine wpQuiet_step (fun K hK => ?_)
          go_simp
          first
            | (with_reducible refine hK _ ?_; clear hK K)
            | (rw [if_neg (by intro h; cases h)]; with_reducible refine hK _ ?_; clear hK K)
            | (apply Exists.intro; with_reducible refine ⟨fun _ => ?_, hK _ ?_⟩; (go_at_call 31; refine Calls.grown_of (hem.out _ _)); clear hK K)
        refine wpQuiet_nil ?_
        intro _ hw'
        obtain ⟨⟨nq, osq⟩, hw''⟩ := hw'
        subst hw''
        go_wp2_with fail
        go_ret
        exact ⟨retB fin.out.symm, Bl.grown hbb _ _⟩
    · obtain rfl : n = k := by omega
      have fin := hid (show vdb ps = true from vdb_all (by rw [hl.out]; exact hV.out))
      go_wp2_with fail
      go_ret
      exact ⟨retB fin.out.symm, hb⟩

end Go.Proofs.Ytdfnmohgkjonfaa.Span
