/- Widths are within the height of the letters and grow with it. -/
import Derived.Test.YtajcalmjdfhedaaDoorYAwake
import Derived.Test.YtajcalmjdfhedaaDoorYLaid
import Derived.Test.YtajcalmjdfhedaaDoorWArgs
import Derived.ChangeOld
namespace Go.Proofs.YtajcalmjdfhedaaDoor.GlyphWidths
open Go.ChangeShapes Go.WideShapes Go.ChangeAt Go.RowKit
open Go.ChangeMaps (open_string shut_string)
open Go.Proofs.YtajcalmjdfhedaaDoor.Wire
open Go.Proofs.YtajcalmjdfhedaaDoor.Glyph
set_option linter.unusedVariables false
set_option linter.unusedSimpArgs false

set_option maxRecDepth 100000 in
set_option maxHeartbeats 8000000 in
theorem walk (a0 : Int) (a1 : Int) (w : World) (w0 : (Lit.int .i64 a0).wf = true) (w1 : (Lit.int .i64 a1).wf = true) (hT : Tab w) :
    Calls Tryd.prog 8 #[.int .i64 a0, .int .i64 a1] w fun e w' => e = .returned (.bool true) ∧ Bl w w' := by
  have N0 := wf_i64 w0
  have N1 := wf_i64 w1
  have c1 := fun w' (hb : Bl w w') => Width_any a0 a1 w' N0.1 N0.2 N1.1 N1.2 (hT.bl hb)
  have c2 := hid (fun w' (hb : Bl w w') => Script_any a0 w' N0.1 N0.2 (hT.bl hb))
  have hs := scr_ge a0
  by_cases h : a1 < 1 ∨ 64 < a1 ∨ scr a0 < 0
  · rw [wid_no h] at c1
    have c1 := hid c1
    generalize scr a0 = X at *
    by_cases h1 : a1 < 1
    · clear h
      go_enter Tryd.func8, Tryd.ntmps8
      go_wp2_with fail
      refine (c1.out _ (Bl.refl _)).mono ?_
      rintro e v1 ⟨rfl, b1⟩
      have B1 := Bl.trans (Bl.refl _) b1
      clear b1
      go_wp2_with fail
      refine (awake_any _ (hT.bl B1)).mono ?_
      rintro e v2 ⟨rfl, b2⟩
      have B2 := Bl.trans B1 b2
      clear b2  B1
      go_wp2_with fail
      go_ret
      exact ⟨rfl, B2⟩
    by_cases h2 : 64 < a1
    · clear h
      go_enter Tryd.func8, Tryd.ntmps8
      go_wp2_with fail
      refine (c1.out _ (Bl.refl _)).mono ?_
      rintro e v1 ⟨rfl, b1⟩
      have B1 := Bl.trans (Bl.refl _) b1
      clear b1
      go_wp2_with fail
      refine (awake_any _ (hT.bl B1)).mono ?_
      rintro e v2 ⟨rfl, b2⟩
      have B2 := Bl.trans B1 b2
      clear b2  B1
      go_wp2_with fail
      go_ret
      exact ⟨rfl, B2⟩
    have h3 : X < 0 := by omega
    clear h
    go_enter Tryd.func8, Tryd.ntmps8
    go_wp2_with fail
    refine (c1.out _ (Bl.refl _)).mono ?_
    rintro e v1 ⟨rfl, b1⟩
    have B1 := Bl.trans (Bl.refl _) b1
    clear b1
    go_wp2_with fail
    refine (c2.out _ B1).mono ?_
    rintro e v2 ⟨rfl, b2⟩
    have B2 := Bl.trans B1 b2
    clear b2  B1
    go_wp2_with fail
    refine (awake_any _ (hT.bl B2)).mono ?_
    rintro e v3 ⟨rfl, b3⟩
    have B3 := Bl.trans B2 b3
    clear b3  B2
    go_wp2_with fail
    go_ret
    exact ⟨rfl, B3⟩
  have hy := wid_yes (r := a0) (n := a1) (by omega) (by omega) (by omega)
  by_cases h6 : a1 = 64
  · subst h6
    have c1 := hid c1
    have hX : 0 ≤ scr a0 := by omega
    clear h
    generalize wid a0 64 = W at *
    generalize scr a0 = X at *
    go_enter Tryd.func8, Tryd.ntmps8
    go_wp2_with fail
    refine (c1.out _ (Bl.refl _)).mono ?_
    rintro e v1 ⟨rfl, b1⟩
    have B1 := Bl.trans (Bl.refl _) b1
    clear b1
    go_wp2_with fail
    refine (c2.out _ B1).mono ?_
    rintro e v2 ⟨rfl, b2⟩
    have B2 := Bl.trans B1 b2
    clear b2  B1
    go_wp2_with fail
    refine (awake_any _ (hT.bl B2)).mono ?_
    rintro e v3 ⟨rfl, b3⟩
    have B3 := Bl.trans B2 b3
    clear b3  B2
    go_wp2_with fail
    go_ret
    exact ⟨rfl, B3⟩
  have hu := wid_up (r := a0) (n := a1) (by omega) (by omega) (by omega)
  have c1 := hid c1
  have c3 := hid (fun w' (hb : Bl w w') => Width_any a0 (a1 + 1) w' N0.1 N0.2 (by omega) (by omega) (hT.bl hb))
  have hX : 0 ≤ scr a0 := by omega
  have h64 : (a1 == 64) = false := beq_eq_false_iff_ne.2 h6
  have j1 : 1 ≤ a1 := by omega
  have j2 : a1 ≤ 64 := by omega
  clear h h6
  generalize wid a0 (a1 + 1) = W2 at *
  generalize wid a0 a1 = W at *
  generalize scr a0 = X at *
  go_enter Tryd.func8, Tryd.ntmps8
  go_wp2_with fail
  refine (c1.out _ (Bl.refl _)).mono ?_
  rintro e v1 ⟨rfl, b1⟩
  have B1 := Bl.trans (Bl.refl _) b1
  clear b1
  go_wp2_with fail
  refine (c2.out _ B1).mono ?_
  rintro e v2 ⟨rfl, b2⟩
  have B2 := Bl.trans B1 b2
  clear b2  B1
  go_wp2_with fail
  refine (c3.out _ B2).mono ?_
  rintro e v3 ⟨rfl, b3⟩
  have B3 := Bl.trans B2 b3
  clear b3  B2
  go_wp2_with fail
  refine (awake_any _ (hT.bl B3)).mono ?_
  rintro e v4 ⟨rfl, b4⟩
  have B4 := Bl.trans B3 b4
  clear b4  B3
  go_wp2_with fail
  go_ret
  exact ⟨rfl, B4⟩

set_option maxRecDepth 100000 in
theorem contract (H : Type) (enc : TypeId × Value → H) (W : World) (base : Nat) (args : Array Value) (ds gs : List (DataW H)) (before : List MemPlace)
    (hval0 : ∀ (j : Nat) t v, Tryd.f8.params[j]? = some t → args[j]? = some v → Value.okWide Tryd.prog W .any base t v)
    (hW : DataW.Whole enc Tryd.prog Tryd.f8.params.toList Rows.glyphWidthsSpec.vars false W args.toList ds gs before) (hsz0 : (DataW.weightsEach Tryd.prog (Tryd.f8.params.toList ++ Rows.glyphWidthsSpec.plain.varTypes Tryd.prog) (ds ++ gs)).all (· ≤ reachBytes) = true) (hL : laidMetH Tryd.prog Rows.glyphWidthsRow.laid W) :
    Calls Tryd.prog 8 args W fun e W' => ∃ v, e = .returned v ∧ Rows.glyphWidthsSpec.post enc Tryd.prog Tryd.f8 false true false false W args v W' := by
  have hsz := hsz0
  have hval : ∀ (j : Nat) t v, Tryd.f8.params[j]? = some t → args[j]? = some v → Value.okWide Tryd.prog W .any base t v := hval0
  have hW' := hW
  obtain ⟨p, q, hA0, hV, rfl, hfz, hnd⟩ := hW
  have hA : DataW.TrodAll enc Tryd.prog W 0 (fun _ => true) true Tryd.f8.params.toList args.toList ds p := hA0
  rw [Tryd.params8] at hA hval hsz
  obtain ⟨v0, vs0, d0, ds0, p0, q0, hargs, rfl, rfl, h0, r0⟩ := trodAll_cons hA
  obtain ⟨v1, vs1, d1, ds1, p1, q1, rfl, rfl, rfl, h1, r1⟩ := trodAll_cons r0
  obtain ⟨rfl, rfl, rfl⟩ := trodAll_nil r1
  obtain rfl : args = #[v0, v1] := by cases args; simp_all
  obtain ⟨rfl, rfl⟩ := trodVars_none hV
  obtain ⟨a0, rfl, rfl, rfl, w0⟩ := open_int Tryd.underlying3 (hval 0 3 v0 rfl rfl) h0
  obtain ⟨a1, rfl, rfl, rfl, w1⟩ := open_int Tryd.underlying3 (hval 1 3 v1 rfl rfl) h1
  clear hA0 hval0
  refine (walk a0 a1 W w0 w1 (tabs hL)).mono fun e W' ⟨he, bel⟩ => ?_
  subst he
  exact ⟨_, rfl, _, _, _, [], _, [], hW', trodAll_mk1 (shut_bool Tryd.underlying4 _), (trodAll_cons_mk (shut_int Tryd.underlying3 w0) (trodAll_cons_mk (shut_int Tryd.underlying3 w1) trodAll_mk0)), rfl, Below.frame bel _, fun h => by cases h⟩

theorem laid_met (os : Os) : laidMet Tryd.prog Rows.glyphWidthsRow.laid ((laidWorld os).forCall (fun _ _ => 0) ⟨#[], #[.int .i64 0, .int .i64 0], []⟩).memory :=
  laidMet_of_run' 8 (by kernel_rfl) (by kernel_rfl)
theorem reads (os : Os) {H : Type} (enc : TypeId × Value → H) : ∃ places, DataW.whole enc Tryd.prog ((laidWorld os).forCall (fun _ _ => 0) ⟨#[], #[.int .i64 0, .int .i64 0], []⟩).memory Tryd.f8.params.toList Rows.glyphWidthsSpec.vars false (#[.int .i64 0, .int .i64 0] : Array Value).toList 8 = some ([.lit (.int .i64 0), .lit (.int .i64 0)], [], places) :=
  ⟨[], by kernel_rfl⟩
set_option maxRecDepth 100000 in
theorem lifted (os : Os) (started : os.Started) (H : Type) (enc : TypeId × Value → H) (F : Stop.Interp) :
    ReturnsInHanded {} Tryd.checked os 8 .any ((OpenSpec.ofChange Rows.glyphWidthsSpec).preRow enc Tryd.prog Tryd.f8 Rows.glyphWidthsRow.domain false Rows.glyphWidthsRow.laid) (((OpenSpec.ofChange Rows.glyphWidthsSpec).at F).post enc Tryd.prog Tryd.f8 false true false false) := by
  obtain ⟨places, hx⟩ := reads os enc
  refine returnsInHanded_of_row (C := Tryd.checked) (s := OpenSpec.ofChange Rows.glyphWidthsSpec) own started (by kernel_rfl) Tryd.func8
    (witness_row_at (enc := enc) (C := Tryd.checked) false (laidWorld os) #[.int .i64 0, .int .i64 0] rfl (by kernel_rfl) (by kernel_rfl) (by kernel_rfl)
      (OpenSpec.preRow_of_cond 8 hx (by kernel_rfl) (fun k hk => by cases hk) (by kernel_rfl) (laid_met os))) ?_
  intro W base args ds gs before hval hW _ hcond hsz hL _ _
  exact contract H enc W base args ds gs before hval hW hsz hL
theorem said : Rows.GlyphWidthsSaid :=
  OpenClaim.holds_of_cond 8 Tryd.f8 rfl rfl rfl rfl rfl rfl rfl ⟨rfl, rfl, rfl, rfl, rfl⟩ rfl rfl rfl rfl rfl (by kernel_rfl) Tryd.func8 (by kernel_rfl)
    (of_decide_eq_true (by kernel_rfl)) (by unfold Func.isWrapper; first | (rw [if_pos (by decide +kernel)]; kernel_rfl) | (rw [if_neg (by decide +kernel)]; exact ⟨rfl, rfl⟩))
    (fun os started H enc _ F => by rw [OpenClaim.pre_eq_preRow]; exact lifted os started H enc F)
theorem plain (f : FuncId) (fn : Func) (hf : Tryd.pinned.checked.prog.funcNamed "mapsheets/mapsheetslaw06.GlyphWidths" = some f) (hfn : Tryd.pinned.checked.prog.funcs[f]? = some fn) :
    false = Tryd.pinned.checked.prog.looks [] ∧ ∀ (j : Nat) t, fn.params[j]? = some t → Tryd.pinned.checked.prog.wantsStandIn t = false := by
  obtain rfl : f = 8 := Option.some.inj ((show Tryd.prog.funcNamed "mapsheets/mapsheetslaw06.GlyphWidths" = some 8 by kernel_rfl).symm.trans hf) |>.symm
  obtain rfl : fn = Tryd.f8 := (Option.some.inj (Tryd.func8.symm.trans hfn)).symm
  refine ⟨by kernel_rfl, fun j t ht => ?_⟩
  rw [Tryd.params8] at ht
  have hm : t ∈ [3, 3] := by simpa using Array.mem_of_getElem? ht
  have hall : ([3, 3].all fun u => !Tryd.prog.wantsStandIn u) = true := by kernel_rfl
  exact (show Tryd.prog.wantsStandIn t = false by simpa using List.all_eq_true.1 hall t hm)
theorem card : Rows.GlyphWidthsCardSaid :=
  Claim7.holds_tied_plain_at .later [] _ _ _ _ said (fun _ h => by cases h) (by kernel_rfl) (fun _ h => by cases h) glyphWidths_row_tie rfl ⟨rfl, rfl⟩ (by kernel_rfl) rfl plain (by kernel_rfl)
end Go.Proofs.YtajcalmjdfhedaaDoor.GlyphWidths
