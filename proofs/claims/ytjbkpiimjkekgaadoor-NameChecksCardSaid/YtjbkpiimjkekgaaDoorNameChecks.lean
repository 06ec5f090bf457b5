/- Check returns the first error of any string, and Key the key of any name. -/
import Derived.Test.YtjbkpiimjkekgaaDoorNLight
import Derived.Test.YtjbkpiimjkekgaaDoorWArgs
import Derived.ChangeOld
namespace Go.Proofs.YtjbkpiimjkekgaaDoor.NameChecks
open Go.ChangeShapes Go.WideShapes Go.ChangeAt Go.RowKit
open Go.ChangeMaps (open_string shut_string)
open Go.Proofs.YtjbkpiimjkekgaaDoor.Wire
open Go.Proofs.YtjbkpiimjkekgaaDoor.Glyph
open Go.Proofs.YtjbkpiimjkekgaaDoor.Name
set_option linter.unusedVariables false
set_option linter.unusedSimpArgs false

set_option maxRecDepth 100000 in
set_option maxHeartbeats 8000000 in
theorem walk (a0 : ByteArray) (w : World) (b0 : a0.size ≤ 140737488351232) (hT : NT w) :
    Calls Tryd.prog 3 #[.string a0] w fun e w' => e = .returned (.bool true) ∧ Bl w w' := by
  by_cases hs : a0.size ≤ 200
  · have f0 := hs
    have lt := hid (light_yes a0 ⟨#[]⟩ ⟨#[]⟩ f0 (by decide) (by decide))
    have c1 := fun w' (bw : Bl w w') => Key_any a0 w' (by omega) (hT.bl bw)
    have c2 := fun w' => RKey_any a0 w' (by omega)
    have c3 := hid (fun w' (bw : Bl w w') => Check_any a0 w' (by omega) (hT.bl bw))
    have c4 := hid (fun w' => RCheck_any a0 w' (by omega))
    have l1 := key_len40 (sb a0)
    unfold KeyOut at c1 c2
    generalize key (sb a0) = K at *
    generalize chk (sb a0) = X at *
    have c1 := hid c1
    have c2 := hid c2
    go_enter Tryd.func3, Tryd.ntmps3
    go_wp2_with fail
    refine (lt.out _).mono ?_
    rintro e w' ⟨rfl, rfl⟩
    go_wp2_with fail
    refine (c1.out _ (Bl.refl _)).mono ?_
    rintro e v1 ⟨A_P, c_P, rfl, h_P, hc_P, b1⟩
    have B1 := Bl.trans (Bl.refl _) b1
    clear b1
    go_wp2_with fail
    refine (c2.out _).mono ?_
    rintro e v2 ⟨A_R, c_R, rfl, h_R, hc_R, b2⟩
    have B2 := Bl.trans B1 b2
    have h_P_2 := h_P.bl b2
    clear b2  B1
    go_wp2_with fail
    refine (awake_any _ (hT.bl B2)).mono ?_
    rintro e v3 ⟨rfl, b3⟩
    have B3 := Bl.trans B2 b3
    have h_P_3 := h_P_2.bl b3
    have h_R_3 := h_R.bl b3
    clear b3 h_P_2 B2
    go_wp2_with fail
    refine (c3.out _ B3).mono ?_
    rintro e v4 ⟨rfl, b4⟩
    have B4 := Bl.trans B3 b4
    have h_P_4 := h_P_3.bl b4
    have h_R_4 := h_R_3.bl b4
    clear b4 h_P_3 h_R_3 B3
    go_wp2_with fail
    refine (c4.out _).mono ?_
    rintro e v5 ⟨rfl, b5⟩
    have B5 := Bl.trans B4 b5
    have h_P_5 := h_P_4.bl b5
    have h_R_5 := h_R_4.bl b5
    clear b5 h_P_4 h_R_4 B4
    go_wp2_with fail
    refine (Idset.Same_yes _ _ _ _ _ _ _ _ _ h_P_5 h_R_5 (by omega) (by omega) rfl).mono ?_
    rintro e v6 ⟨rfl, b6⟩
    have B6 := Bl.trans B5 b6.bl
    have h_P_6 := h_P_5.bl b6.bl
    have h_R_6 := h_R_5.bl b6.bl
    clear b6 h_P_5 h_R_5 B5
    go_wp2_with fail
    go_ret
    exact ⟨rfl, B6⟩
  · have lt := hid (light_no a0 ⟨#[]⟩ ⟨#[]⟩ (fun h => hs h.1))
    go_enter Tryd.func3, Tryd.ntmps3
    go_wp2_with fail
    refine (lt.out _).mono ?_
    rintro e w' ⟨rfl, rfl⟩
    go_wp2_with fail
    refine (awake_any _ (hT.bl (Bl.refl _))).mono ?_
    rintro e v1 ⟨rfl, b1⟩
    have B1 := Bl.trans (Bl.refl _) b1
    clear b1
    go_wp2_with fail
    go_ret
    exact ⟨rfl, B1⟩

set_option maxRecDepth 100000 in
theorem contract (H : Type) (enc : TypeId × Value → H) (W : World) (base : Nat) (args : Array Value) (ds gs : List (DataW H)) (before : List MemPlace)
    (hval0 : ∀ (j : Nat) t v, Tryd.f3.params[j]? = some t → args[j]? = some v → Value.okWide Tryd.prog W .any base t v)
    (hW : DataW.Whole enc Tryd.prog Tryd.f3.params.toList Rows.nameChecksSpec.vars false W args.toList ds gs before) (hsz0 : (DataW.weightsEach Tryd.prog (Tryd.f3.params.toList ++ Rows.nameChecksSpec.plain.varTypes Tryd.prog) (ds ++ gs)).all (· ≤ reachBytes) = true) (hL : laidMetH Tryd.prog Rows.nameChecksRow.laid W) (hSh : W.ShapedOpen Tryd.prog) :
    Calls Tryd.prog 3 args W fun e W' => ∃ v, e = .returned v ∧ Rows.nameChecksSpec.post enc Tryd.prog Tryd.f3 false true false false W args v W' := by
  have hsz := hsz0
  have hval : ∀ (j : Nat) t v, Tryd.f3.params[j]? = some t → args[j]? = some v → Value.okWide Tryd.prog W .any base t v := hval0
  have hW' := hW
  obtain ⟨p, q, hA0, hV, rfl, hfz, hnd⟩ := hW
  have hA : DataW.TrodAll enc Tryd.prog W 0 (fun _ => true) true Tryd.f3.params.toList args.toList ds p := hA0
  rw [Tryd.params3] at hA hval hsz
  obtain ⟨v0, vs0, d0, ds0, p0, q0, hargs, rfl, rfl, h0, r0⟩ := trodAll_cons hA
  obtain ⟨rfl, rfl, rfl⟩ := trodAll_nil r0
  obtain rfl : args = #[v0] := by cases args; simp_all
  obtain ⟨rfl, rfl⟩ := trodVars_none hV
  obtain ⟨a0, rfl, rfl, rfl, w0⟩ := open_string Tryd.underlying9 (hval 0 9 v0 rfl rfl) h0
  have b0 : a0.size ≤ 140737488351232 := by have := sized_string hsz (j := 0) (t := 9) rfl rfl; first | (simpa using this) | (simpa [reachBytes] using this)
  clear hA0 hval0
  refine (walk a0 W b0 (nt hL hSh)).mono fun e W' ⟨he, bel⟩ => ?_
  subst he
  exact ⟨_, rfl, _, _, _, [], _, [], hW', trodAll_mk1 (shut_bool Tryd.underlying4 _), (trodAll_cons_mk (shut_string Tryd.underlying9 w0) trodAll_mk0), rfl, Below.frame bel _, fun h => by cases h⟩

theorem laid_met (os : Os) : laidMet Tryd.prog Rows.nameChecksRow.laid ((laidN os).forCall (fun _ _ => 0) ⟨#[], #[.string ByteArray.empty], []⟩).memory :=
  laidMet_of_run' 8 (by kernel_rfl) (by kernel_rfl)
theorem reads (os : Os) {H : Type} (enc : TypeId × Value → H) : ∃ places, DataW.whole enc Tryd.prog ((laidN os).forCall (fun _ _ => 0) ⟨#[], #[.string ByteArray.empty], []⟩).memory Tryd.f3.params.toList Rows.nameChecksSpec.vars false (#[.string ByteArray.empty] : Array Value).toList 8 = some ([.lit (.string [])], [], places) :=
  ⟨[], by kernel_rfl⟩
set_option maxRecDepth 100000 in
theorem lifted (os : Os) (started : os.Started) (H : Type) (enc : TypeId × Value → H) (F : Stop.Interp) :
    ReturnsInHanded {} Tryd.checked os 3 .any ((OpenSpec.ofChange Rows.nameChecksSpec).preRow enc Tryd.prog Tryd.f3 Rows.nameChecksRow.domain false Rows.nameChecksRow.laid) (((OpenSpec.ofChange Rows.nameChecksSpec).at F).post enc Tryd.prog Tryd.f3 false true false false) := by
  obtain ⟨places, hx⟩ := reads os enc
  refine returnsInHanded_of_row (C := Tryd.checked) (s := OpenSpec.ofChange Rows.nameChecksSpec) own started (by kernel_rfl) Tryd.func3
    (witness_row_at (enc := enc) (C := Tryd.checked) false (laidN os) #[.string ByteArray.empty] rfl (by kernel_rfl) (by kernel_rfl) (by kernel_rfl)
      (OpenSpec.preRow_of_cond 8 hx (by kernel_rfl) (fun k hk => by cases hk) (by kernel_rfl) (laid_met os))) ?_
  intro W base args ds gs before hval hW _ hcond hsz hL hSh _
  exact contract H enc W base args ds gs before hval hW hsz hL hSh
theorem said : Rows.NameChecksSaid :=
  OpenClaim.holds_of_cond 3 Tryd.f3 rfl rfl rfl rfl rfl rfl rfl ⟨rfl, rfl, rfl, rfl, rfl⟩ rfl rfl rfl rfl rfl (by kernel_rfl) Tryd.func3 (by kernel_rfl)
    (of_decide_eq_true (by kernel_rfl)) (by unfold Func.isWrapper; first | (rw [if_pos (by decide +kernel)]; kernel_rfl) | (rw [if_neg (by decide +kernel)]; exact ⟨rfl, rfl⟩))
    (fun os started H enc _ F => by rw [OpenClaim.pre_eq_preRow]; exact lifted os started H enc F)
theorem plain (f : FuncId) (fn : Func) (hf : Tryd.pinned.checked.prog.funcNamed "mapsheets/mapsheetslaw07.NameChecks" = some f) (hfn : Tryd.pinned.checked.prog.funcs[f]? = some fn) :
    false = Tryd.pinned.checked.prog.looks [] ∧ ∀ (j : Nat) t, fn.params[j]? = some t → Tryd.pinned.checked.prog.wantsStandIn t = false := by
  obtain rfl : f = 3 := Option.some.inj ((show Tryd.prog.funcNamed "mapsheets/mapsheetslaw07.NameChecks" = some 3 by kernel_rfl).symm.trans hf) |>.symm
  obtain rfl : fn = Tryd.f3 := (Option.some.inj (Tryd.func3.symm.trans hfn)).symm
  refine ⟨by kernel_rfl, fun j t ht => ?_⟩
  rw [Tryd.params3] at ht
  have hm : t ∈ [9] := by simpa using Array.mem_of_getElem? ht
  have hall : ([9].all fun u => !Tryd.prog.wantsStandIn u) = true := by kernel_rfl
  exact (show Tryd.prog.wantsStandIn t = false by simpa using List.all_eq_true.1 hall t hm)
theorem card : Rows.NameChecksCardSaid :=
  Claim7.holds_tied_plain_at .later [] _ _ _ _ said (fun _ h => by cases h) (by kernel_rfl) (fun _ h => by cases h) nameChecks_row_tie rfl ⟨rfl, rfl⟩ (by kernel_rfl) rfl plain (by kernel_rfl)
end Go.Proofs.YtjbkpiimjkekgaaDoor.NameChecks
