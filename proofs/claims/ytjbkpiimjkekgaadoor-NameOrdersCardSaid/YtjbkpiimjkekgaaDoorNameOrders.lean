/- Names are ordered totally. -/
import Derived.Test.YtjbkpiimjkekgaaDoorNLight
import Derived.Test.YtjbkpiimjkekgaaDoorWArgs
import Derived.ChangeOld
namespace Go.Proofs.YtjbkpiimjkekgaaDoor.NameOrders
open Go.ChangeShapes Go.WideShapes Go.ChangeAt Go.RowKit
open Go.ChangeMaps (open_string shut_string)
open Go.Proofs.YtjbkpiimjkekgaaDoor.Wire
open Go.Proofs.YtjbkpiimjkekgaaDoor.Glyph
open Go.Proofs.YtjbkpiimjkekgaaDoor.Name
set_option linter.unusedVariables false
set_option linter.unusedSimpArgs false

set_option maxRecDepth 100000 in
set_option maxHeartbeats 8000000 in
theorem walk (a0 : ByteArray) (a1 : ByteArray) (a2 : ByteArray) (w : World) (b0 : a0.size ≤ 140737488351232) (b1 : a1.size ≤ 140737488351232) (b2 : a2.size ≤ 140737488351232) (hT : NT w) :
    Calls Tryd.prog 5 #[.string a0, .string a1, .string a2] w fun e w' => e = .returned (.bool true) ∧ Bl w w' := by
  by_cases hs : a0.size ≤ 200 ∧ a1.size ≤ 200 ∧ a2.size ≤ 200
  · obtain ⟨f0, f1, f2⟩ := hs
    have lt := hid (light_yes a0 a1 a2 f0 f1 f2)
    have c1 := fun w' (bw : Bl w w') => Cmp_any a0 a1 w' (by omega) (by omega) (hT.bl bw)
    have c2 := fun w' (bw : Bl w w') => Cmp_any a1 a0 w' (by omega) (by omega) (hT.bl bw)
    have c3 := fun w' (bw : Bl w w') => Cmp_any a1 a2 w' (by omega) (by omega) (hT.bl bw)
    have c4 := fun w' (bw : Bl w w') => Cmp_any a0 a2 w' (by omega) (by omega) (hT.bl bw)
    rw [cmp_neg (sb a0) (sb a1)] at c2
    have hz := hid (fun (h : cmp (sb a0) (sb a1) ≠ 0) => cmp_ne h)
    have hc := cmp_cases (sb a0) (sb a1)
    have htr := hid (fun (h : cmp (sb a0) (sb a1) ≤ 0) (g : cmp (sb a1) (sb a2) ≤ 0) => cmp_trans h g)
    rcases hc with hc | hc | hc
    · rw [hc] at c1 c2 hz htr
      have te := hz.out (by decide)
      clear hc hz
      have C1 := hid c1
      have C2 := hid c2
      clear c1 c2
      by_cases hg : 0 < cmp (sb a1) (sb a2)
      · generalize cmp (sb a1) (sb a2) = Z at *
        have C3 := hid c3
        clear c3 c4 htr
        go_enter Tryd.func5, Tryd.ntmps5
        go_wp2_with fail
        refine (lt.out _).mono ?_
        rintro e w' ⟨rfl, rfl⟩
        go_wp2_with fail
        refine (C1.out _ (Bl.refl _)).mono ?_
        rintro e v1 ⟨rfl, b1⟩
        have B1 := Bl.trans (Bl.refl _) b1
        clear b1
        go_wp2_with fail
        refine (C2.out _ B1).mono ?_
        rintro e v2 ⟨rfl, b2⟩
        have B2 := Bl.trans B1 b2
        clear b2  B1
        go_wp2_with fail
        refine (awake_any _ (hT.bl B2)).mono ?_
        rintro e v3 ⟨rfl, b3⟩
        have B3 := Bl.trans B2 b3
        clear b3  B2
        go_wp2_with fail
        refine (C3.out _ B3).mono ?_
        rintro e v4 ⟨rfl, b4⟩
        have B4 := Bl.trans B3 b4
        clear b4  B3
        go_wp2_with fail
        go_ret
        exact ⟨rfl, B4⟩
      · have hle := htr.out (by decide) (by omega)
        clear htr
        have hg2 : cmp (sb a1) (sb a2) ≤ 0 := by omega
        generalize cmp (sb a1) (sb a2) = Z at *
        generalize cmp (sb a0) (sb a2) = U at *
        clear hg
        have C3 := hid c3
        have C4 := hid c4
        clear c3 c4
        go_enter Tryd.func5, Tryd.ntmps5
        go_wp2_with fail
        refine (lt.out _).mono ?_
        rintro e w' ⟨rfl, rfl⟩
        go_wp2_with fail
        refine (C1.out _ (Bl.refl _)).mono ?_
        rintro e v1 ⟨rfl, b1⟩
        have B1 := Bl.trans (Bl.refl _) b1
        clear b1
        go_wp2_with fail
        refine (C2.out _ B1).mono ?_
        rintro e v2 ⟨rfl, b2⟩
        have B2 := Bl.trans B1 b2
        clear b2  B1
        go_wp2_with fail
        refine (awake_any _ (hT.bl B2)).mono ?_
        rintro e v3 ⟨rfl, b3⟩
        have B3 := Bl.trans B2 b3
        clear b3  B2
        go_wp2_with fail
        refine (C3.out _ B3).mono ?_
        rintro e v4 ⟨rfl, b4⟩
        have B4 := Bl.trans B3 b4
        clear b4  B3
        go_wp2_with fail
        refine (C4.out _ B4).mono ?_
        rintro e v5 ⟨rfl, b5⟩
        have B5 := Bl.trans B4 b5
        clear b5  B4
        go_wp2_with fail
        go_ret
        exact ⟨rfl, B5⟩
    · rw [hc] at c1 c2 htr
      have he := cmp_zero' hc
      subst he
      clear hc hz
      have C1 := hid c1
      have C2 := hid c2
      clear c1 c2
      by_cases hg : 0 < cmp (sb a0) (sb a2)
      · generalize cmp (sb a0) (sb a2) = Z at *
        have C3 := hid c3
        clear c3 c4 htr
        go_enter Tryd.func5, Tryd.ntmps5
        go_wp2_with fail
        refine (lt.out _).mono ?_
        rintro e w' ⟨rfl, rfl⟩
        go_wp2_with fail
        refine (C1.out _ (Bl.refl _)).mono ?_
        rintro e v1 ⟨rfl, b1⟩
        have B1 := Bl.trans (Bl.refl _) b1
        clear b1
        go_wp2_with fail
        refine (C2.out _ B1).mono ?_
        rintro e v2 ⟨rfl, b2⟩
        have B2 := Bl.trans B1 b2
        clear b2  B1
        go_wp2_with fail
        refine (awake_any _ (hT.bl B2)).mono ?_
        rintro e v3 ⟨rfl, b3⟩
        have B3 := Bl.trans B2 b3
        clear b3  B2
        go_wp2_with fail
        refine (C3.out _ B3).mono ?_
        rintro e v4 ⟨rfl, b4⟩
        have B4 := Bl.trans B3 b4
        clear b4  B3
        go_wp2_with fail
        go_ret
        exact ⟨rfl, B4⟩
      · have hle := htr.out (by decide) (by omega)
        clear htr
        have hg2 : cmp (sb a0) (sb a2) ≤ 0 := by omega
        generalize cmp (sb a0) (sb a2) = Z at *
        clear hg
        have C3 := hid c3
        have C4 := hid c4
        clear c3 c4
        go_enter Tryd.func5, Tryd.ntmps5
        go_wp2_with fail
        refine (lt.out _).mono ?_
        rintro e w' ⟨rfl, rfl⟩
        go_wp2_with fail
        refine (C1.out _ (Bl.refl _)).mono ?_
        rintro e v1 ⟨rfl, b1⟩
        have B1 := Bl.trans (Bl.refl _) b1
        clear b1
        go_wp2_with fail
        refine (C2.out _ B1).mono ?_
        rintro e v2 ⟨rfl, b2⟩
        have B2 := Bl.trans B1 b2
        clear b2  B1
        go_wp2_with fail
        refine (awake_any _ (hT.bl B2)).mono ?_
        rintro e v3 ⟨rfl, b3⟩
        have B3 := Bl.trans B2 b3
        clear b3  B2
        go_wp2_with fail
        refine (C3.out _ B3).mono ?_
        rintro e v4 ⟨rfl, b4⟩
        have B4 := Bl.trans B3 b4
        clear b4  B3
        go_wp2_with fail
        refine (C4.out _ B4).mono ?_
        rintro e v5 ⟨rfl, b5⟩
        have B5 := Bl.trans B4 b5
        clear b5  B4
        go_wp2_with fail
        go_ret
        exact ⟨rfl, B5⟩
    · rw [hc] at c1 c2 hz htr
      have te := hz.out (by decide)
      clear hc hz
      clear c3 c4 htr
      have C1 := hid c1
      have C2 := hid c2
      clear c1 c2
      go_enter Tryd.func5, Tryd.ntmps5
      go_wp2_with fail
      refine (lt.out _).mono ?_
      rintro e w' ⟨rfl, rfl⟩
      go_wp2_with fail
      refine (C1.out _ (Bl.refl _)).mono ?_
      rintro e v1 ⟨rfl, b1⟩
      have B1 := Bl.trans (Bl.refl _) b1
      clear b1
      go_wp2_with fail
      refine (C2.out _ B1).mono ?_
      rintro e v2 ⟨rfl, b2⟩
      have B2 := Bl.trans B1 b2
      clear b2  B1
      go_wp2_with fail
      refine (awake_any _ (hT.bl B2)).mono ?_
      rintro e v3 ⟨rfl, b3⟩
      have B3 := Bl.trans B2 b3
      clear b3  B2
      go_wp2_with fail
      go_ret
      exact ⟨rfl, B3⟩
  · have lt := hid (light_no a0 a1 a2 (fun h => hs ⟨h.1, h.2.1, h.2.2⟩))
    go_enter Tryd.func5, Tryd.ntmps5
    go_wp2_with fail
    refine (lt.out _).mono ?_
    rintro e w' ⟨rfl, rfl⟩
    go_wp2_with fail
    refine (awake_any _ (hT.bl (Bl.refl _))).mono ?_
    rintro e v1 ⟨rfl, b1⟩
    have B1 := Bl.trans (Bl.refl _) b1
    clear b1
    go_wp2_with fail
    go_ret
    exact ⟨rfl, B1⟩

set_option maxRecDepth 100000 in
theorem contract (H : Type) (enc : TypeId × Value → H) (W : World) (base : Nat) (args : Array Value) (ds gs : List (DataW H)) (before : List MemPlace)
    (hval0 : ∀ (j : Nat) t v, Tryd.f5.params[j]? = some t → args[j]? = some v → Value.okWide Tryd.prog W .any base t v)
    (hW : DataW.Whole enc Tryd.prog Tryd.f5.params.toList Rows.nameOrdersSpec.vars false W args.toList ds gs before) (hsz0 : (DataW.weightsEach Tryd.prog (Tryd.f5.params.toList ++ Rows.nameOrdersSpec.plain.varTypes Tryd.prog) (ds ++ gs)).all (· ≤ reachBytes) = true) (hL : laidMetH Tryd.prog Rows.nameOrdersRow.laid W) (hSh : W.ShapedOpen Tryd.prog) :
    Calls Tryd.prog 5 args W fun e W' => ∃ v, e = .returned v ∧ Rows.nameOrdersSpec.post enc Tryd.prog Tryd.f5 false true false false W args v W' := by
  have hsz := hsz0
  have hval : ∀ (j : Nat) t v, Tryd.f5.params[j]? = some t → args[j]? = some v → Value.okWide Tryd.prog W .any base t v := hval0
  have hW' := hW
  obtain ⟨p, q, hA0, hV, rfl, hfz, hnd⟩ := hW
  have hA : DataW.TrodAll enc Tryd.prog W 0 (fun _ => true) true Tryd.f5.params.toList args.toList ds p := hA0
  rw [Tryd.params5] at hA hval hsz
  obtain ⟨v0, vs0, d0, ds0, p0, q0, hargs, rfl, rfl, h0, r0⟩ := trodAll_cons hA
  obtain ⟨v1, vs1, d1, ds1, p1, q1, rfl, rfl, rfl, h1, r1⟩ := trodAll_cons r0
  obtain ⟨v2, vs2, d2, ds2, p2, q2, rfl, rfl, rfl, h2, r2⟩ := trodAll_cons r1
  obtain ⟨rfl, rfl, rfl⟩ := trodAll_nil r2
  obtain rfl : args = #[v0, v1, v2] := by cases args; simp_all
  obtain ⟨rfl, rfl⟩ := trodVars_none hV
  obtain ⟨a0, rfl, rfl, rfl, w0⟩ := open_string Tryd.underlying9 (hval 0 9 v0 rfl rfl) h0
  have b0 : a0.size ≤ 140737488351232 := by have := sized_string hsz (j := 0) (t := 9) rfl rfl; first | (simpa using this) | (simpa [reachBytes] using this)
  obtain ⟨a1, rfl, rfl, rfl, w1⟩ := open_string Tryd.underlying9 (hval 1 9 v1 rfl rfl) h1
  have b1 : a1.size ≤ 140737488351232 := by have := sized_string hsz (j := 1) (t := 9) rfl rfl; first | (simpa using this) | (simpa [reachBytes] using this)
  obtain ⟨a2, rfl, rfl, rfl, w2⟩ := open_string Tryd.underlying9 (hval 2 9 v2 rfl rfl) h2
  have b2 : a2.size ≤ 140737488351232 := by have := sized_string hsz (j := 2) (t := 9) rfl rfl; first | (simpa using this) | (simpa [reachBytes] using this)
  clear hA0 hval0
  refine (walk a0 a1 a2 W b0 b1 b2 (nt hL hSh)).mono fun e W' ⟨he, bel⟩ => ?_
  subst he
  exact ⟨_, rfl, _, _, _, [], _, [], hW', trodAll_mk1 (shut_bool Tryd.underlying4 _), (trodAll_cons_mk (shut_string Tryd.underlying9 w0) (trodAll_cons_mk (shut_string Tryd.underlying9 w1) (trodAll_cons_mk (shut_string Tryd.underlying9 w2) trodAll_mk0))), rfl, Below.frame bel _, fun h => by cases h⟩

theorem laid_met (os : Os) : laidMet Tryd.prog Rows.nameOrdersRow.laid ((laidN os).forCall (fun _ _ => 0) ⟨#[], #[.string ByteArray.empty, .string ByteArray.empty, .string ByteArray.empty], []⟩).memory :=
  laidMet_of_run' 8 (by kernel_rfl) (by kernel_rfl)
theorem reads (os : Os) {H : Type} (enc : TypeId × Value → H) : ∃ places, DataW.whole enc Tryd.prog ((laidN os).forCall (fun _ _ => 0) ⟨#[], #[.string ByteArray.empty, .string ByteArray.empty, .string ByteArray.empty], []⟩).memory Tryd.f5.params.toList Rows.nameOrdersSpec.vars false (#[.string ByteArray.empty, .string ByteArray.empty, .string ByteArray.empty] : Array Value).toList 8 = some ([.lit (.string []), .lit (.string []), .lit (.string [])], [], places) :=
  ⟨[], by kernel_rfl⟩
set_option maxRecDepth 100000 in
theorem lifted (os : Os) (started : os.Started) (H : Type) (enc : TypeId × Value → H) (F : Stop.Interp) :
    ReturnsInHanded {} Tryd.checked os 5 .any ((OpenSpec.ofChange Rows.nameOrdersSpec).preRow enc Tryd.prog Tryd.f5 Rows.nameOrdersRow.domain false Rows.nameOrdersRow.laid) (((OpenSpec.ofChange Rows.nameOrdersSpec).at F).post enc Tryd.prog Tryd.f5 false true false false) := by
  obtain ⟨places, hx⟩ := reads os enc
  refine returnsInHanded_of_row (C := Tryd.checked) (s := OpenSpec.ofChange Rows.nameOrdersSpec) own started (by kernel_rfl) Tryd.func5
    (witness_row_at (enc := enc) (C := Tryd.checked) false (laidN os) #[.string ByteArray.empty, .string ByteArray.empty, .string ByteArray.empty] rfl (by kernel_rfl) (by kernel_rfl) (by kernel_rfl)
      (OpenSpec.preRow_of_cond 8 hx (by kernel_rfl) (fun k hk => by cases hk) (by kernel_rfl) (laid_met os))) ?_
  intro W base args ds gs before hval hW _ hcond hsz hL hSh _
  exact contract H enc W base args ds gs before hval hW hsz hL hSh
theorem said : Rows.NameOrdersSaid :=
  OpenClaim.holds_of_cond 5 Tryd.f5 rfl rfl rfl rfl rfl rfl rfl ⟨rfl, rfl, rfl, rfl, rfl⟩ rfl rfl rfl rfl rfl (by kernel_rfl) Tryd.func5 (by kernel_rfl)
    (of_decide_eq_true (by kernel_rfl)) (by unfold Func.isWrapper; first | (rw [if_pos (by decide +kernel)]; kernel_rfl) | (rw [if_neg (by decide +kernel)]; exact ⟨rfl, rfl⟩))
    (fun os started H enc _ F => by rw [OpenClaim.pre_eq_preRow]; exact lifted os started H enc F)
theorem plain (f : FuncId) (fn : Func) (hf : Tryd.pinned.checked.prog.funcNamed "mapsheets/mapsheetslaw07.NameOrders" = some f) (hfn : Tryd.pinned.checked.prog.funcs[f]? = some fn) :
    false = Tryd.pinned.checked.prog.looks [] ∧ ∀ (j : Nat) t, fn.params[j]? = some t → Tryd.pinned.checked.prog.wantsStandIn t = false := by
  obtain rfl : f = 5 := Option.some.inj ((show Tryd.prog.funcNamed "mapsheets/mapsheetslaw07.NameOrders" = some 5 by kernel_rfl).symm.trans hf) |>.symm
  obtain rfl : fn = Tryd.f5 := (Option.some.inj (Tryd.func5.symm.trans hfn)).symm
  refine ⟨by kernel_rfl, fun j t ht => ?_⟩
  rw [Tryd.params5] at ht
  have hm : t ∈ [9, 9, 9] := by simpa using Array.mem_of_getElem? ht
  have hall : ([9, 9, 9].all fun u => !Tryd.prog.wantsStandIn u) = true := by kernel_rfl
  exact (show Tryd.prog.wantsStandIn t = false by simpa using List.all_eq_true.1 hall t hm)
theorem card : Rows.NameOrdersCardSaid :=
  Claim7.holds_tied_plain_at .later [] _ _ _ _ said (fun _ h => by cases h) (by kernel_rfl) (fun _ h => by cases h) nameOrders_row_tie rfl ⟨rfl, rfl⟩ (by kernel_rfl) rfl plain (by kernel_rfl)
end Go.Proofs.YtjbkpiimjkekgaaDoor.NameOrders
