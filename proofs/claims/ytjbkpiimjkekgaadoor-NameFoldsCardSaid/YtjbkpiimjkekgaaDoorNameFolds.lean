/- The key of a valid name is not empty, has no marks, and is folded. -/
import Derived.Test.YtjbkpiimjkekgaaDoorNLight
import Derived.Test.YtjbkpiimjkekgaaDoorWArgs
import Derived.ChangeOld
import Derived.Test.YtjbkpiimjkekgaaDoorGQuiet
namespace Go.Proofs.YtjbkpiimjkekgaaDoor.NameFolds
open Go.ChangeShapes Go.WideShapes Go.ChangeAt Go.RowKit
open Go.ChangeMaps (open_string shut_string)
open Go.Proofs.YtjbkpiimjkekgaaDoor.Wire
open Go.Proofs.YtjbkpiimjkekgaaDoor.Glyph
open Go.Proofs.YtjbkpiimjkekgaaDoor.Name
set_option linter.unusedVariables false
set_option linter.unusedSimpArgs false

set_option maxRecDepth 100000 in
set_option maxHeartbeats 8000000 in
theorem walk (a0 : ByteArray) (w : World) (b0 : a0.size ≤ 140737488351232) (hT : NT w) :
    Calls Tryd.prog 8 #[.string a0] w fun e w' => e = .returned (.bool true) ∧ Bl w w' := by
  by_cases hs : a0.size ≤ 200
  · have f0 := hs
    have lt := hid (light_yes a0 ⟨#[]⟩ ⟨#[]⟩ f0 (by decide) (by decide))
    have c1 := fun w' (bw : Bl w w') => Key_any a0 w' (by omega) (hT.bl bw)
    have c3 := fun w' (bw : Bl w w') => Check_any a0 w' (by omega) (hT.bl bw)
    unfold KeyOut at c1
    by_cases h0 : chk (sb a0) = 0
    · obtain ⟨_, h40, l, hd, _, _, hcom⟩ := chk_ok.1 h0
      have hok := (dec_iff.1 hd).1
      have hne := keyL_ne hcom
      have hkl := keyL_len l
      have hmem := hid (fun x (hx : x ∈ keyL l) => keyL_mem hx)
      have hbd := hid (fun x (hx : x ∈ keyL l) => keyL_bound hok hx)
      have c2 := fun w' (bw : Bl w w') => Decode_any a0 w' (by omega) (hT.bl bw).tab
      unfold DecOut at c2
      rw [(dec_some_out hd).1, (dec_some_out hd).2] at c2
      rw [key_some h0 hd, h0] at c1
      have hll : l.length ≤ 40 := by have := dec_byts hd; omega
      clear c3 h0 h40 hd hok hcom
      generalize keyL l = K at *
      have hk0 : 0 < K.length := List.length_pos_iff.2 hne
      obtain ⟨n, hn⟩ : ∃ n, n = K.length := ⟨_, rfl⟩
      obtain ⟨m, hml⟩ : ∃ m, m = l.length := ⟨_, rfl⟩
      rw [← hn] at hk0 hkl c1
      rw [← hml] at hkl hll c2
      have hN := hid hn.symm
      have C1 := hid c1
      have C2 := hid c2
      clear c1 c2 hn hml hne
      have tn : ((n : Int) == 0) = false := beq_eq_false_iff_ne.2 (by omega)
      have tm : decide (m < n) = false := decide_eq_false (by omega)
      have tm2 : decide ((m : Int) < (n : Int)) = false := decide_eq_false (by omega)
      go_enter Tryd.func8, Tryd.ntmps8
      go_wp2_with fail
      refine (lt.out _).mono ?_
      rintro e w' ⟨rfl, rfl⟩
      go_wp2_with fail
      refine (C1.out _ (Bl.refl _)).mono ?_
      rintro e v1 ⟨A_P, c_P, rfl, h_P, hc_P, b1⟩
      have B1 := Bl.trans (Bl.refl _) b1
      clear b1
      go_wp2_with fail
      refine (C2.out _ B1).mono ?_
      rintro e v2 ⟨A_R, c_R, rfl, h_R, hc_R, b2⟩
      have B2 := Bl.trans B1 b2
      have h_P_2 := h_P.bl b2
      clear b2  B1
      go_wp2_with fail
      go_loopw [7] (fun i wr => ∃ (k : Nat), i = .int .i64 k ∧ k ≤ n ∧ Sh wr wr.heap.size .i64 A_P n K ∧ Bl w wr) (fun i _ => n - (intOf i).toNat)
      case atStart => exact ⟨0, rfl, by omega, h_P_2, B2⟩
      case round =>
        clear h_P_2 h_R B2
        have mixed : Tryd.prog.follows .mixedOrders = true := by kernel_rfl
        obtain ⟨k, rfl, hk, hs, hb⟩ := hrel
        by_cases hlt : k < n
        · obtain ⟨b, o, rfl, hbl, hcell⟩ := hs.2 (by omega)
          have hc1 := hcell k hlt
          have hy := getD_mem (l := K) (k := k) (by rw [hN.out]; exact hlt)
          have hm := hmem.out _ hy
          have hbb := hbd.out _ hy
          have F1 := fun w' (bw : Bl w w') => Fold_any (K.getD k 0) w' (by omega) (by omega) (hT.bl bw).tab
          rw [hm.1] at F1
          have kc := GB.cell (w := wr) (a := ⟨b, o + k, none⟩) hbl hc1
          clear hcell hy hc1
          generalize K.getD k 0 = y at *
          obtain ⟨y1, y2, y3, y4, y5, y6⟩ := mrk_no hm.2
          have F := hid F1
          clear F1 hm
          have t1 : (y == 32) = false := beq_eq_false_iff_ne.2 y1
          have t5 : (y == 45) = false := beq_eq_false_iff_ne.2 y5
          have t6 : (y == 46) = false := beq_eq_false_iff_ne.2 y6
          by_cases h39 : 39 ≤ y
          · have d1 : decide (39 ≤ y) = true := decide_eq_true h39
            have h41 : ¬ y ≤ 41 := by omega
            have d2 : decide (y ≤ 41) = false := decide_eq_false h41
            go_wp2_with fail
            refine wp_region_gb mixed (by kernel_rfl) ?_
            try simp only [List.append]
            repeat
              with_reducible refine wpQuiet_step (fun K hK => ?_)
              go_simp
              first
                | (with_reducible refine hK _ ?_; clear hK K)
                | (rw [if_neg]; rotate_left; · (intro h; cases h); with_reducible refine hK _ ?_; clear hK K)
                | (apply Exists.intro; with_reducible refine ⟨fun _ => ?_, hK _ ?_⟩; (go_at_call 24; with_reducible refine gb_of (F.out _ (hb.trans (GB.h _)))); clear hK K)
            with_reducible refine wpQuiet_nil ?_
            intro w' hw'
            obtain ⟨⟨v5, b5⟩, hw''⟩ := hw'
            have hw3 : v5 = w' := hw''.symm
            subst hw3
            clear hw''
            go_wp2_with fail
            go_roundw
            case rel => exact ⟨k + 1, by go_num, by omega, hs.bl b5, hb.trans b5⟩
            case measure => simp [intOf]; omega
          · have d1 : decide (39 ≤ y) = false := decide_eq_false h39
            go_wp2_with fail
            refine wp_region_gb mixed (by kernel_rfl) ?_
            try simp only [List.append]
            repeat
              with_reducible refine wpQuiet_step (fun K hK => ?_)
              go_simp
              first
                | (with_reducible refine hK _ ?_; clear hK K)
                | (rw [if_neg]; rotate_left; · (intro h; cases h); with_reducible refine hK _ ?_; clear hK K)
                | (apply Exists.intro; with_reducible refine ⟨fun _ => ?_, hK _ ?_⟩; (go_at_call 24; with_reducible refine gb_of (F.out _ (hb.trans (GB.h _)))); clear hK K)
            with_reducible refine wpQuiet_nil ?_
            intro w' hw'
            obtain ⟨⟨v5, b5⟩, hw''⟩ := hw'
            have hw3 : v5 = w' := hw''.symm
            subst hw3
            clear hw''
            go_wp2_with fail
            go_roundw
            case rel => exact ⟨k + 1, by go_num, by omega, hs.bl b5, hb.trans b5⟩
            case measure => simp [intOf]; omega
        · obtain rfl : n = k := by omega
          go_wp2_with fail
          refine (awake_any _ (hT.bl hb)).mono ?_
          rintro e w' ⟨rfl, hba⟩
          go_wp2_with fail
          go_ret
          exact ⟨rfl, hb.trans hba⟩
    · rw [key_no h0] at c1
      generalize chk (sb a0) = X at *
      have t0 : (X == 0) = false := by simpa using h0
      have C1 := hid c1
      have C3 := hid c3
      clear c1 c3
      simp only [List.length_nil] at C1
      go_enter Tryd.func8, Tryd.ntmps8
      go_wp2_with fail
      refine (lt.out _).mono ?_
      rintro e w' ⟨rfl, rfl⟩
      go_wp2_with fail
      refine (C1.out _ (Bl.refl _)).mono ?_
      rintro e v1 ⟨A_P, c_P, rfl, h_P, hc_P, b1⟩
      have B1 := Bl.trans (Bl.refl _) b1
      clear b1
      go_wp2_with fail
      refine (awake_any _ (hT.bl B1)).mono ?_
      rintro e v2 ⟨rfl, b2⟩
      have B2 := Bl.trans B1 b2
      clear b2  B1
      go_wp2_with fail
      refine (C3.out _ B2).mono ?_
      rintro e v3 ⟨rfl, b3⟩
      have B3 := Bl.trans B2 b3
      clear b3  B2
      go_wp2_with fail
      go_ret
      exact ⟨rfl, B3⟩
  · have lt := hid (light_no a0 ⟨#[]⟩ ⟨#[]⟩ (fun h => hs h.1))
    go_enter Tryd.func8, Tryd.ntmps8
    go_wp2_with fail
    refine (lt.out _).mono ?_
    rintro e w' ⟨rfl, rfl⟩
    go_wp2_with fail
    refine (awake_any _ (hT.bl (Bl.refl _))).mono ?_
    rintro e v1 ⟨rfl, b1⟩
    have B1 := Bl.trans (Bl.refl _) b1
    clear b1
    go_wp2_with fail
    go_ret
    exact ⟨rfl, B1⟩

set_option maxRecDepth 100000 in
theorem contract (H : Type) (enc : TypeId × Value → H) (W : World) (base : Nat) (args : Array Value) (ds gs : List (DataW H)) (before : List MemPlace)
    (hval0 : ∀ (j : Nat) t v, Tryd.f8.params[j]? = some t → args[j]? = some v → Value.okWide Tryd.prog W .any base t v)
    (hW : DataW.Whole enc Tryd.prog Tryd.f8.params.toList Rows.nameFoldsSpec.vars false W args.toList ds gs before) (hsz0 : (DataW.weightsEach Tryd.prog (Tryd.f8.params.toList ++ Rows.nameFoldsSpec.plain.varTypes Tryd.prog) (ds ++ gs)).all (· ≤ reachBytes) = true) (hL : laidMetH Tryd.prog Rows.nameFoldsRow.laid W) (hSh : W.ShapedOpen Tryd.prog) :
    Calls Tryd.prog 8 args W fun e W' => ∃ v, e = .returned v ∧ Rows.nameFoldsSpec.post enc Tryd.prog Tryd.f8 false true false false W args v W' := by
  have hsz := hsz0
  have hval : ∀ (j : Nat) t v, Tryd.f8.params[j]? = some t → args[j]? = some v → Value.okWide Tryd.prog W .any base t v := hval0
  have hW' := hW
  obtain ⟨p, q, hA0, hV, rfl, hfz, hnd⟩ := hW
  have hA : DataW.TrodAll enc Tryd.prog W 0 (fun _ => true) true Tryd.f8.params.toList args.toList ds p := hA0
  rw [Tryd.params8] at hA hval hsz
  obtain ⟨v0, vs0, d0, ds0, p0, q0, hargs, rfl, rfl, h0, r0⟩ := trodAll_cons hA
  obtain ⟨rfl, rfl, rfl⟩ := trodAll_nil r0
  obtain rfl : args = #[v0] := by cases args; simp_all
  obtain ⟨rfl, rfl⟩ := trodVars_none hV
  obtain ⟨a0, rfl, rfl, rfl, w0⟩ := open_string Tryd.underlying9 (hval 0 9 v0 rfl rfl) h0
  have b0 : a0.size ≤ 140737488351232 := by have := sized_string hsz (j := 0) (t := 9) rfl rfl; first | (simpa using this) | (simpa [reachBytes] using this)
  clear hA0 hval0
  refine (walk a0 W b0 (nt hL hSh)).mono fun e W' ⟨he, bel⟩ => ?_
  subst he
  exact ⟨_, rfl, _, _, _, [], _, [], hW', trodAll_mk1 (shut_bool Tryd.underlying4 _), (trodAll_cons_mk (shut_string Tryd.underlying9 w0) trodAll_mk0), rfl, Below.frame bel _, fun h => by cases h⟩

theorem laid_met (os : Os) : laidMet Tryd.prog Rows.nameFoldsRow.laid ((laidN os).forCall (fun _ _ => 0) ⟨#[], #[.string ByteArray.empty], []⟩).memory :=
  laidMet_of_run' 8 (by kernel_rfl) (by kernel_rfl)
theorem reads (os : Os) {H : Type} (enc : TypeId × Value → H) : ∃ places, DataW.whole enc Tryd.prog ((laidN os).forCall (fun _ _ => 0) ⟨#[], #[.string ByteArray.empty], []⟩).memory Tryd.f8.params.toList Rows.nameFoldsSpec.vars false (#[.string ByteArray.empty] : Array Value).toList 8 = some ([.lit (.string [])], [], places) :=
  ⟨[], by kernel_rfl⟩
set_option maxRecDepth 100000 in
theorem lifted (os : Os) (started : os.Started) (H : Type) (enc : TypeId × Value → H) (F : Stop.Interp) :
    ReturnsInHanded {} Tryd.checked os 8 .any ((OpenSpec.ofChange Rows.nameFoldsSpec).preRow enc Tryd.prog Tryd.f8 Rows.nameFoldsRow.domain false Rows.nameFoldsRow.laid) (((OpenSpec.ofChange Rows.nameFoldsSpec).at F).post enc Tryd.prog Tryd.f8 false true false false) := by
  obtain ⟨places, hx⟩ := reads os enc
  refine returnsInHanded_of_row (C := Tryd.checked) (s := OpenSpec.ofChange Rows.nameFoldsSpec) own started (by kernel_rfl) Tryd.func8
    (witness_row_at (enc := enc) (C := Tryd.checked) false (laidN os) #[.string ByteArray.empty] rfl (by kernel_rfl) (by kernel_rfl) (by kernel_rfl)
      (OpenSpec.preRow_of_cond 8 hx (by kernel_rfl) (fun k hk => by cases hk) (by kernel_rfl) (laid_met os))) ?_
  intro W base args ds gs before hval hW _ hcond hsz hL hSh _
  exact contract H enc W base args ds gs before hval hW hsz hL hSh
theorem said : Rows.NameFoldsSaid :=
  OpenClaim.holds_of_cond 8 Tryd.f8 rfl rfl rfl rfl rfl rfl rfl ⟨rfl, rfl, rfl, rfl, rfl⟩ rfl rfl rfl rfl rfl (by kernel_rfl) Tryd.func8 (by kernel_rfl)
    (of_decide_eq_true (by kernel_rfl)) (by unfold Func.isWrapper; first | (rw [if_pos (by decide +kernel)]; kernel_rfl) | (rw [if_neg (by decide +kernel)]; exact ⟨rfl, rfl⟩))
    (fun os started H enc _ F => by rw [OpenClaim.pre_eq_preRow]; exact lifted os started H enc F)
theorem plain (f : FuncId) (fn : Func) (hf : Tryd.pinned.checked.prog.funcNamed "mapsheets/mapsheetslaw07.NameFolds" = some f) (hfn : Tryd.pinned.checked.prog.funcs[f]? = some fn) :
    false = Tryd.pinned.checked.prog.looks [] ∧ ∀ (j : Nat) t, fn.params[j]? = some t → Tryd.pinned.checked.prog.wantsStandIn t = false := by
  obtain rfl : f = 8 := Option.some.inj ((show Tryd.prog.funcNamed "mapsheets/mapsheetslaw07.NameFolds" = some 8 by kernel_rfl).symm.trans hf) |>.symm
  obtain rfl : fn = Tryd.f8 := (Option.some.inj (Tryd.func8.symm.trans hfn)).symm
  refine ⟨by kernel_rfl, fun j t ht => ?_⟩
  rw [Tryd.params8] at ht
  have hm : t ∈ [9] := by simpa using Array.mem_of_getElem? ht
  have hall : ([9].all fun u => !Tryd.prog.wantsStandIn u) = true := by kernel_rfl
  exact (show Tryd.prog.wantsStandIn t = false by simpa using List.all_eq_true.1 hall t hm)
theorem card : Rows.NameFoldsCardSaid :=
  Claim7.holds_tied_plain_at .later [] _ _ _ _ said (fun _ h => by cases h) (by kernel_rfl) (fun _ h => by cases h) nameFolds_row_tie rfl ⟨rfl, rfl⟩ (by kernel_rfl) rfl plain (by kernel_rfl)
end Go.Proofs.YtjbkpiimjkekgaaDoor.NameFolds
