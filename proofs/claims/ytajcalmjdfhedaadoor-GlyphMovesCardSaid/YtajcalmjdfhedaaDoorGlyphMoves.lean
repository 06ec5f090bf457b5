/- Order only moves code points, and reverses Hebrew ones. -/
import Derived.Test.YtajcalmjdfhedaaDoorYAwake
import Derived.Test.YtajcalmjdfhedaaDoorYLaid
import Derived.Test.YtajcalmjdfhedaaDoorWArgs
import Derived.ChangeOld
import Derived.Test.YtajcalmjdfhedaaDoorYCount
namespace Go.Proofs.YtajcalmjdfhedaaDoor.GlyphMoves
open Go.ChangeShapes Go.WideShapes Go.ChangeAt Go.RowKit
open Go.ChangeMaps (open_string shut_string)
open Go.Proofs.YtajcalmjdfhedaaDoor.Wire
open Go.Proofs.YtajcalmjdfhedaaDoor.Glyph
set_option linter.unusedVariables false
set_option linter.unusedSimpArgs false

set_option maxRecDepth 100000 in
set_option maxHeartbeats 8000000 in
theorem walk (a0 : Option Addr) (len0 cap0 : Nat) (z0 : List Int) (w : World) (s0 : Sh w w.heap.size .i64 a0 len0 z0) (l0 : len0 ≤ cap0) (w0 : ∀ n ∈ z0, (Lit.int .i64 n).wf = true) (b0 : cap0 * 8 ≤ 140737488351232) (hT : Tab w) :
    Calls Tryd.prog 10 #[.slice a0 len0 cap0] w fun e w' => e = .returned (.bool true) ∧ Bl w w' := by
  have e0 := s0.len
  by_cases few : len0 ≤ 400
  · have c1 := hid (fun w' (hb : Bl w w') hS => Order_any a0 len0 cap0 z0 w' hS (ok64_of w0) l0 (by omega) (hT.bl hb))
    have hol := ord_len z0
    rw [e0] at hol
    have hO := hid (rfl : ord z0 = ord z0)
    have hz := hid (fun h => hbc_zero (l := z0) h)
    have ha := hid (fun h => hbc_all (l := z0) h)
    have hcn := hid (fun x => ord_cnt z0 x)
    generalize ord z0 = O at *
    have H0 := hid e0
    have HO := hid hol
    clear e0 hO
    have hk1 : O.length ≤ 400 := by omega
    go_enter Tryd.func10, Tryd.ntmps10
    go_wp2_with fail
    refine (c1.out _ (Bl.refl _) s0).mono ?_
    rintro e v1 ⟨A_P, c_P, rfl, h_P, hc_P, b1⟩
    rw [hol] at h_P hc_P
    try rw [hol]
    clear hol
    have s1 := s0.bl b1
    go_wp2_with fail
    go_loopw [4, 5] (fun v i wr => ∃ (k C : Nat), v = .int .i64 C ∧ i = .int .i64 k ∧ k ≤ len0 ∧ C ≤ k ∧ Hid (C = hbc (z0.take k)) ∧ Q v1 wr) (fun _ i _ => len0 - (intOf i).toNat)
    case atStart => exact ⟨0, 0, rfl, rfl, by omega, by omega, hid rfl, Q.refl _⟩
    case round =>
      obtain ⟨k, C, rfl, rfl, hk, hC, he, hq⟩ := hrel
      have h_P2 := h_P.bl hq.bl
      have s2 := s1.bl hq.bl
      have B2 := Bl.trans b1 hq.bl
      by_cases hlt : k < len0
      · obtain ⟨b, o, rfl, _, hcell⟩ := s2.2 (by omega)
        have hc1 := hcell k hlt
        have hsn := hid (take_snoc (l := z0) (i := k) (by rw [H0.out]; omega))
        clear hcell
        generalize z0.getD k 0 = x at *
        have hcs := hid (hbc_snoc (z0.take k) x)
        have dd : ∀ (A : Option Addr) (c : Nat) (w' : World), (∃ m, w' = wr.drewN m) → ((A = A_P ∧ c = c_P) ∨ (A = some ⟨b, o, none⟩ ∧ c = cap0)) →
            Calls Tryd.prog 26 #[.slice A len0 c, .int .i64 x] w' fun e w'' => e = .returned (.int .i64 (cnt O x)) ∧ w' = w'' := by
          rintro A c w' ⟨m, rfl⟩ (⟨rfl, rfl⟩ | ⟨rfl, rfl⟩)
          · exact count_any _ len0 _ O x _ _ (h_P2.drewN m) (by omega)
          · rw [hcn.out x]
            exact count_any _ len0 _ z0 x _ _ (s2.drewN m) (by omega)
        generalize cnt O x = K at dd
        have dd := hid dd
        clear h_P2 s2
        by_cases hx1 : 1488 ≤ x
        · by_cases hx2 : x ≤ 1514
          · have fin := hid (show C + 1 = hbc (z0.take (k + 1)) by rw [hsn.out, hcs.out, if_pos (show heb x = true from decide_eq_true ⟨hx1, hx2⟩), he.out])
            go_wp2_with fail
            go_quiet ((go_at_call 26; exact quiet_same ⟨_, rfl⟩ (dd.out _ _ _ ⟨_, rfl⟩ (by first | exact .inl ⟨rfl, rfl⟩ | exact .inr ⟨rfl, rfl⟩))))
            go_wp2_with fail
            go_roundw
            case rel => exact ⟨k + 1, C + 1, by go_num, by go_num, by omega, by omega, fin, hq.drewN _⟩
            case measure => simp [intOf]; omega
          · have fin := hid (show C = hbc (z0.take (k + 1)) by rw [hsn.out, hcs.out, if_neg (show ¬ heb x = true by unfold heb; rw [decide_eq_true_eq]; omega), he.out]; rfl)
            go_wp2_with fail
            go_quiet ((go_at_call 26; exact quiet_same ⟨_, rfl⟩ (dd.out _ _ _ ⟨_, rfl⟩ (by first | exact .inl ⟨rfl, rfl⟩ | exact .inr ⟨rfl, rfl⟩))))
            go_wp2_with fail
            go_roundw
            case rel => exact ⟨k + 1, C, rfl, by go_num, by omega, by omega, fin, hq.drewN _⟩
            case measure => simp [intOf]; omega
        · have fin := hid (show C = hbc (z0.take (k + 1)) by rw [hsn.out, hcs.out, if_neg (show ¬ heb x = true by unfold heb; rw [decide_eq_true_eq]; omega), he.out]; rfl)
          go_wp2_with fail
          go_quiet ((go_at_call 26; exact quiet_same ⟨_, rfl⟩ (dd.out _ _ _ ⟨_, rfl⟩ (by first | exact .inl ⟨rfl, rfl⟩ | exact .inr ⟨rfl, rfl⟩))))
          go_wp2_with fail
          go_roundw
          case rel => exact ⟨k + 1, C, rfl, by go_num, by omega, by omega, fin, hq.drewN _⟩
          case measure => simp [intOf]; omega
      · obtain rfl : k = len0 := by omega
        rw [take_all (by rw [H0.out]; exact Nat.le_refl _)] at he
        by_cases hc0 : C = 0
        · have hOz := hid (hz.out (by rw [← he.out]; exact hc0))
          subst hc0
          go_wp2_with fail
          refine (Same_yes _ _ _ _ _ _ _ _ _ h_P2 s2 (by omega) (by omega) hOz.out).mono ?_
          rintro e v2 ⟨rfl, hq2⟩
          go_wp2_with fail
          refine (awake_any _ (hT.bl (B2.q hq2))).mono ?_
          rintro e v3 ⟨rfl, b3⟩
          have BB := Bl.trans (B2.q hq2) b3
          clear b3
          go_wp2_with fail
          go_ret
          exact ⟨rfl, BB⟩
        · have t0 : ((C : Int) == 0) = false := beq_eq_false_iff_ne.2 (by omega)
          by_cases hcl : C < k
          · go_wp2_with fail
            refine (awake_any _ (hT.bl B2)).mono ?_
            rintro e v3 ⟨rfl, b3⟩
            have BB := Bl.trans B2 b3
            clear b3
            go_wp2_with fail
            go_ret
            exact ⟨rfl, BB⟩
          · have hOr := hid (ha.out (by rw [← he.out, H0.out]; omega))
            have hCk : Hid (C = k) := hid (by omega)
            go_wp2_with fail
            go_loopw [6] (fun i wr2 => ∃ (j : Nat), i = .int .i64 j ∧ j ≤ k ∧ Q wr wr2) (fun i _ => k - (intOf i).toNat)
            case atStart => exact ⟨0, rfl, by omega, Q.refl _⟩
            case round =>
              obtain ⟨j, rfl, hj, hq2⟩ := hrel
              have h_P3 := h_P2.bl hq2.bl
              have s3 := s2.bl hq2.bl
              have B3 := B2.q hq2
              by_cases hlt : j < k
              · obtain ⟨b, o, rfl, _, hcell⟩ := s3.2 (by omega)
                obtain ⟨b', o', rfl, _, hcell'⟩ := h_P3.2 (by omega)
                have hc1 := hcell (k - 1 - j) (by omega)
                have hc2 := hcell' j hlt
                rw [hOr.out, rev_at (by rw [H0.out]; exact hlt), H0.out] at hc2
                have hc3 : wr.cell? ⟨b, o + ((k : Int) - 1 - (j : Int)).toNat, none⟩ = some (.int .i64 (z0.getD (k - 1 - j) 0)) := by rw [← hc1]; congr 3; omega
                clear hcell hcell'
                generalize z0.getD (k - 1 - j) 0 = y at *
                have i1 : (0 : Int) ≤ (k : Int) - 1 - (j : Int) := by omega
                have i2 : (k : Int) - 1 - (j : Int) < (k : Int) := by omega
                clear h_P3 s3
                go_wp2_with fail
                go_quiet (fail)
                go_wp2_with fail
                go_roundw
                case rel => exact ⟨j + 1, by go_num, by omega, hq2.drewN _⟩
                case measure => simp [intOf]; omega
              · obtain rfl : j = k := by omega
                go_wp2_with fail
                refine (awake_any _ (hT.bl B3)).mono ?_
                rintro e v3 ⟨rfl, b3⟩
                have BB := Bl.trans B3 b3
                clear b3
                go_wp2_with fail
                go_ret
                exact ⟨rfl, BB⟩
  · have H0 := hid e0
    clear e0
    go_enter Tryd.func10, Tryd.ntmps10
    go_wp2_with fail
    refine (awake_any _ (hT.bl (Bl.refl _))).mono ?_
    rintro e v1 ⟨rfl, b1⟩
    have B1 := Bl.trans (Bl.refl _) b1
    clear b1
    go_wp2_with fail
    go_ret
    exact ⟨rfl, B1⟩

set_option maxRecDepth 100000 in
theorem contract (H : Type) (enc : TypeId × Value → H) (W : World) (base : Nat) (args : Array Value) (ds gs : List (DataW H)) (before : List MemPlace)
    (hval0 : ∀ (j : Nat) t v, Tryd.f10.params[j]? = some t → args[j]? = some v → Value.okWide Tryd.prog W .any base t v)
    (hW : DataW.Whole enc Tryd.prog Tryd.f10.params.toList Rows.glyphMovesSpec.vars false W args.toList ds gs before) (hsz0 : (DataW.weightsEach Tryd.prog (Tryd.f10.params.toList ++ Rows.glyphMovesSpec.plain.varTypes Tryd.prog) (ds ++ gs)).all (· ≤ reachBytes) = true) (hL : laidMetH Tryd.prog Rows.glyphMovesRow.laid W) :
    Calls Tryd.prog 10 args W fun e W' => ∃ v, e = .returned v ∧ Rows.glyphMovesSpec.post enc Tryd.prog Tryd.f10 false true false false W args v W' := by
  have hsz := hsz0
  have hval : ∀ (j : Nat) t v, Tryd.f10.params[j]? = some t → args[j]? = some v → Value.okWide Tryd.prog W .any base t v := hval0
  have hW' := hW
  obtain ⟨p, q, hA0, hV, rfl, hfz, hnd⟩ := hW
  have hA : DataW.TrodAll enc Tryd.prog W 0 (fun _ => true) true Tryd.f10.params.toList args.toList ds p := hA0
  rw [Tryd.params10] at hA hval hsz
  obtain ⟨v0, vs0, d0, ds0, p0, q0, hargs, rfl, rfl, h0, r0⟩ := trodAll_cons hA
  obtain ⟨rfl, rfl, rfl⟩ := trodAll_nil r0
  obtain rfl : args = #[v0] := by cases args; simp_all
  obtain ⟨rfl, rfl⟩ := trodVars_none hV
  have k0 := h0
  obtain ⟨a0, len0, cap0, z0, rfl, l0, m0, n0, s0, w0, f0, lt0⟩ := open_row Tryd.underlying22 Tryd.underlying3 (by kernel_rfl) (hval 0 22 v0 rfl rfl) h0
  have b0 := reach_row hsz (j := 0) (t := 22) (e := 3) 8 rfl rfl Tryd.underlying22 (by kernel_rfl) n0 l0 f0
  clear hA0 hval0
  refine (walk a0 len0 cap0 (z0.take len0) W s0 l0 (fun n hn => w0 n (List.mem_of_mem_take hn)) b0 (tabs hL)).mono fun e W' ⟨he, bel⟩ => ?_
  subst he
  exact ⟨_, rfl, _, _, _, [], _, [], hW', trodAll_mk1 (shut_bool Tryd.underlying4 _), (trodAll_cons_mk (Below.trod laidOut (by kernel_rfl) (of_decide_eq_true (by kernel_rfl)) k0 bel lt0) trodAll_mk0), rfl, Below.frame bel _, fun h => by cases h⟩

theorem laid_met (os : Os) : laidMet Tryd.prog Rows.glyphMovesRow.laid ((laidWorld os).forCall (fun _ _ => 0) ⟨#[], #[.slice none 0 0], []⟩).memory :=
  laidMet_of_run' 8 (by kernel_rfl) (by kernel_rfl)
theorem reads (os : Os) {H : Type} (enc : TypeId × Value → H) : ∃ places, DataW.whole enc Tryd.prog ((laidWorld os).forCall (fun _ _ => 0) ⟨#[], #[.slice none 0 0], []⟩).memory Tryd.f10.params.toList Rows.glyphMovesSpec.vars false (#[.slice none 0 0] : Array Value).toList 8 = some ([.nil], [], places) :=
  ⟨[], by kernel_rfl⟩
set_option maxRecDepth 100000 in
theorem lifted (os : Os) (started : os.Started) (H : Type) (enc : TypeId × Value → H) (F : Stop.Interp) :
    ReturnsInHanded {} Tryd.checked os 10 .any ((OpenSpec.ofChange Rows.glyphMovesSpec).preRow enc Tryd.prog Tryd.f10 Rows.glyphMovesRow.domain false Rows.glyphMovesRow.laid) (((OpenSpec.ofChange Rows.glyphMovesSpec).at F).post enc Tryd.prog Tryd.f10 false true false false) := by
  obtain ⟨places, hx⟩ := reads os enc
  refine returnsInHanded_of_row (C := Tryd.checked) (s := OpenSpec.ofChange Rows.glyphMovesSpec) own started (by kernel_rfl) Tryd.func10
    (witness_row_at (enc := enc) (C := Tryd.checked) false (laidWorld os) #[.slice none 0 0] rfl (by kernel_rfl) (by kernel_rfl) (by kernel_rfl)
      (OpenSpec.preRow_of_cond 8 hx (by kernel_rfl) (fun k hk => by cases hk) (by kernel_rfl) (laid_met os))) ?_
  intro W base args ds gs before hval hW _ hcond hsz hL _ _
  exact contract H enc W base args ds gs before hval hW hsz hL
theorem said : Rows.GlyphMovesSaid :=
  OpenClaim.holds_of_cond 10 Tryd.f10 rfl rfl rfl rfl rfl rfl rfl ⟨rfl, rfl, rfl, rfl, rfl⟩ rfl rfl rfl rfl rfl (by kernel_rfl) Tryd.func10 (by kernel_rfl)
    (of_decide_eq_true (by kernel_rfl)) (by unfold Func.isWrapper; first | (rw [if_pos (by decide +kernel)]; kernel_rfl) | (rw [if_neg (by decide +kernel)]; exact ⟨rfl, rfl⟩))
    (fun os started H enc _ F => by rw [OpenClaim.pre_eq_preRow]; exact lifted os started H enc F)
theorem plain (f : FuncId) (fn : Func) (hf : Tryd.pinned.checked.prog.funcNamed "mapsheets/mapsheetslaw06.GlyphMoves" = some f) (hfn : Tryd.pinned.checked.prog.funcs[f]? = some fn) :
    false = Tryd.pinned.checked.prog.looks [] ∧ ∀ (j : Nat) t, fn.params[j]? = some t → Tryd.pinned.checked.prog.wantsStandIn t = false := by
  obtain rfl : f = 10 := Option.some.inj ((show Tryd.prog.funcNamed "mapsheets/mapsheetslaw06.GlyphMoves" = some 10 by kernel_rfl).symm.trans hf) |>.symm
  obtain rfl : fn = Tryd.f10 := (Option.some.inj (Tryd.func10.symm.trans hfn)).symm
  refine ⟨by kernel_rfl, fun j t ht => ?_⟩
  rw [Tryd.params10] at ht
  have hm : t ∈ [22] := by simpa using Array.mem_of_getElem? ht
  have hall : ([22].all fun u => !Tryd.prog.wantsStandIn u) = true := by kernel_rfl
  exact (show Tryd.prog.wantsStandIn t = false by simpa using List.all_eq_true.1 hall t hm)
theorem card : Rows.GlyphMovesCardSaid :=
  Claim7.holds_tied_plain_at .later [] _ _ _ _ said (fun _ h => by cases h) (by kernel_rfl) (fun _ h => by cases h) glyphMoves_row_tie rfl ⟨rfl, rfl⟩ (by kernel_rfl) rfl plain (by kernel_rfl)
end Go.Proofs.YtajcalmjdfhedaaDoor.GlyphMoves
