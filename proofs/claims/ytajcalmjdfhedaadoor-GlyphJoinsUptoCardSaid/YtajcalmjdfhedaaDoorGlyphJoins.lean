/- The code points of a concatenation are those of both strings. -/
import Derived.Test.YtajcalmjdfhedaaDoorYAwake
import Derived.Test.YtajcalmjdfhedaaDoorYLaid
import Derived.Test.YtajcalmjdfhedaaDoorWArgs
import Derived.ChangeOld
namespace Go.Proofs.YtajcalmjdfhedaaDoor.GlyphJoins
open Go.ChangeShapes Go.WideShapes Go.ChangeAt Go.RowKit
open Go.ChangeMaps (open_string shut_string)
open Go.Proofs.YtajcalmjdfhedaaDoor.Wire
open Go.Proofs.YtajcalmjdfhedaaDoor.Glyph
set_option linter.unusedVariables false
set_option linter.unusedSimpArgs false

set_option maxRecDepth 100000 in
set_option maxHeartbeats 8000000 in
theorem walk (a0 : ByteArray) (a1 : ByteArray) (w : World) (hbk : a0.size + a1.size ≤ 1048576) (hT : Tab w) :
    Calls Tryd.prog 11 #[.string a0, .string a1] w fun e w' => e = .returned (.bool true) ∧ Bl w w' := by
  have p1 := decL_len a0
  have p2 := decL_len a1
  cases ha : dec (sb a0) with
  | none =>
    have c1 := hid (fun w' (bw : Bl w w') => dec_at a0 [] 4 (by omega) (dec_no ha).1 (dec_no ha).2 w' (hT.bl bw))
    have c2 := hid (fun w' (bw : Bl w w') => dec_at a1 _ _ (by omega) rfl rfl w' (hT.bl bw))
    clear ha
    generalize decL a1 = L1 at *
    generalize decE a1 = E1 at *
    go_enter Tryd.func11, Tryd.ntmps11
    go_wp2_with fail
    refine (c1.out _ (Bl.refl _)).mono ?_
    rintro e v1 ⟨A_P, c_P, rfl, h_P, hc_P, b1⟩
    have B1 := Bl.trans (Bl.refl _) b1
    clear b1
    go_wp2_with fail
    refine (c2.out _ B1).mono ?_
    rintro e v2 ⟨A_Q, c_Q, rfl, h_Q, hc_Q, b2⟩
    have B2 := Bl.trans B1 b2
    clear b2  B1
    go_wp2_with fail
    refine (awake_any _ (hT.bl B2)).mono ?_
    rintro e v3 ⟨rfl, b3⟩
    have B3 := Bl.trans B2 b3
    clear b3  B2
    go_wp2_with fail
    go_ret
    exact ⟨rfl, B3⟩
  | some l =>
    have c1 := hid (fun w' (bw : Bl w w') => dec_at a0 l 0 (by omega) (dec_yes ha).1 (dec_yes ha).2 w' (hT.bl bw))
    rw [(dec_yes ha).1] at p1
    cases hb : dec (sb a1) with
    | none =>
      have c2 := hid (fun w' (bw : Bl w w') => dec_at a1 [] 4 (by omega) (dec_no hb).1 (dec_no hb).2 w' (hT.bl bw))
      clear ha hb
      go_enter Tryd.func11, Tryd.ntmps11
      go_wp2_with fail
      refine (c1.out _ (Bl.refl _)).mono ?_
      rintro e v1 ⟨A_P, c_P, rfl, h_P, hc_P, b1⟩
      have B1 := Bl.trans (Bl.refl _) b1
      clear b1
      go_wp2_with fail
      refine (c2.out _ B1).mono ?_
      rintro e v2 ⟨A_Q, c_Q, rfl, h_Q, hc_Q, b2⟩
      have B2 := Bl.trans B1 b2
      clear b2  B1
      go_wp2_with fail
      refine (awake_any _ (hT.bl B2)).mono ?_
      rintro e v3 ⟨rfl, b3⟩
      have B3 := Bl.trans B2 b3
      clear b3  B2
      go_wp2_with fail
      go_ret
      exact ⟨rfl, B3⟩
    | some m =>
      have c2 := hid (fun w' (bw : Bl w w') => dec_at a1 m 0 (by omega) (dec_yes hb).1 (dec_yes hb).2 w' (hT.bl bw))
      rw [(dec_yes hb).1] at p2
      have hj := dec_join ha hb
      rw [← sb_cat] at hj
      have c3 := fun w' (bw : Bl w w') => dec_at (a0 ++ a1) (l ++ m) 0 (by rw [ByteArray.size_append]; omega) (dec_yes hj).1 (dec_yes hj).2 w' (hT.bl bw)
      have hM : (l ++ m).length = l.length + m.length := List.length_append
      generalize hm : l ++ m = M at c3 hM
      have HM := hid hm
      have c3 := hid c3
      have HL := hid hM
      have hML : M.length ≤ 2097152 := by omega
      clear ha hb hj hm hM
      go_enter Tryd.func11, Tryd.ntmps11
      go_wp2_with fail
      refine (c1.out _ (Bl.refl _)).mono ?_
      rintro e v1 ⟨A_P, c_P, rfl, h_P, hc_P, b1⟩
      have B1 := Bl.trans (Bl.refl _) b1
      clear b1
      go_wp2_with fail
      refine (c2.out _ B1).mono ?_
      rintro e v2 ⟨A_Q, c_Q, rfl, h_Q, hc_Q, b2⟩
      have B2 := Bl.trans B1 b2
      have h_P_2 := h_P.bl b2
      clear b2  B1
      go_wp2_with fail
      refine (c3.out _ B2).mono ?_
      rintro e v3 ⟨A_R, c_R, rfl, h_R, hc_R, b3⟩
      have B3 := Bl.trans B2 b3
      have h_P_3 := h_P_2.bl b3
      have h_Q_3 := h_Q.bl b3
      clear b3 h_P_2 B2
      go_wp2_with (first
        | (at_builtin; refine wpList_app_own _ rfl (.tmp 36) (.tmp 37) _ rfl elI (B := v3.heap.size) (xs := []) rfl (Ow.none_ v3 _ _ _) rfl h_P_3 (by omega) (by omega) (Nat.le_refl _) ?_; intro A4 c4 w4 ho4 hb4; simp only [List.nil_append, Nat.zero_add] at ho4; have hQ4 := h_Q_3.bl hb4)
        | (at_builtin; refine wpList_app_own _ rfl (.tmp 39) (.tmp 40) _ rfl elI (B := v3.heap.size) rfl ho4 rfl hQ4 (by omega) (by omega) hb4.size ?_; intro A5 c5 w5 ho5 hb5))
      have hb45 : Bl v3 w5 := Below.trans hb4 hb5
      have hR5 := h_R.bl hb45
      have BB5 := Bl.trans B3 hb45
      rw [HM.out] at ho5
      have hl5 := ho5.sh
      clear ho4 ho5 hb4 hb5 hQ4 hb45
      go_wp2_with fail
      refine (Same_yes _ _ _ _ _ _ _ _ _ hR5 hl5 (by omega) (by omega) rfl).mono ?_
      rintro e v9 ⟨rfl, b9⟩
      have B9 := Bl.trans BB5 b9.bl
      clear b9  BB5
      go_wp2_with fail
      refine (awake_any _ (hT.bl B9)).mono ?_
      rintro e v10 ⟨rfl, b10⟩
      have B10 := Bl.trans B9 b10
      clear b10  B9
      go_wp2_with fail
      go_ret
      exact ⟨rfl, B10⟩

set_option maxRecDepth 100000 in
theorem contract (H : Type) (enc : TypeId × Value → H) (W : World) (base : Nat) (args : Array Value) (ds gs : List (DataW H)) (before : List MemPlace)
    (hval0 : ∀ (j : Nat) t v, Tryd.f11.params[j]? = some t → args[j]? = some v → Value.okWide Tryd.prog W .any base t v)
    (hW : DataW.Whole enc Tryd.prog Tryd.f11.params.toList Rows.glyphJoinsSpec.vars false W args.toList ds gs before) (hk : Rows.uptoSmall H (ds ++ gs) = true) (hL : laidMetH Tryd.prog Rows.glyphJoinsUptoRow.laid W) :
    Calls Tryd.prog 11 args W fun e W' => ∃ v, e = .returned v ∧ Rows.glyphJoinsSpec.post enc Tryd.prog Tryd.f11 false true false false W args v W' := by
  have hval : ∀ (j : Nat) t v, Tryd.f11.params[j]? = some t → args[j]? = some v → Value.okWide Tryd.prog W .any base t v := hval0
  have hW' := hW
  obtain ⟨p, q, hA0, hV, rfl, hfz, hnd⟩ := hW
  have hA : DataW.TrodAll enc Tryd.prog W 0 (fun _ => true) true Tryd.f11.params.toList args.toList ds p := hA0
  rw [Tryd.params11] at hA hval
  obtain ⟨v0, vs0, d0, ds0, p0, q0, hargs, rfl, rfl, h0, r0⟩ := trodAll_cons hA
  obtain ⟨v1, vs1, d1, ds1, p1, q1, rfl, rfl, rfl, h1, r1⟩ := trodAll_cons r0
  obtain ⟨rfl, rfl, rfl⟩ := trodAll_nil r1
  obtain rfl : args = #[v0, v1] := by cases args; simp_all
  obtain ⟨rfl, rfl⟩ := trodVars_none hV
  obtain ⟨a0, rfl, rfl, rfl, w0⟩ := open_string Tryd.underlying9 (hval 0 9 v0 rfl rfl) h0
  have g0 := bulk_str (H := H) a0
  obtain ⟨a1, rfl, rfl, rfl, w1⟩ := open_string Tryd.underlying9 (hval 1 9 v1 rfl rfl) h1
  have g1 := bulk_str (H := H) a1
  have hbk : a0.size + a1.size ≤ 1048576 := by
    have h := of_decide_eq_true hk
    simp only [List.append_nil, List.cons_append, List.nil_append, Rows.uptoBulkAll] at h
    omega
  clear hA0 hval0
  refine (walk a0 a1 W hbk (tabs hL)).mono fun e W' ⟨he, bel⟩ => ?_
  subst he
  exact ⟨_, rfl, _, _, _, [], _, [], hW', trodAll_mk1 (shut_bool Tryd.underlying4 _), (trodAll_cons_mk (shut_string Tryd.underlying9 w0) (trodAll_cons_mk (shut_string Tryd.underlying9 w1) trodAll_mk0)), rfl, Below.frame bel _, fun h => by cases h⟩

theorem laid_met (os : Os) : laidMet Tryd.prog Rows.glyphJoinsUptoRow.laid ((laidWorld os).forCall (fun _ _ => 0) ⟨#[], #[.string ByteArray.empty, .string ByteArray.empty], []⟩).memory :=
  laidMet_of_run' 8 (by kernel_rfl) (by kernel_rfl)
theorem reads (os : Os) {H : Type} (enc : TypeId × Value → H) : ∃ places, DataW.whole enc Tryd.prog ((laidWorld os).forCall (fun _ _ => 0) ⟨#[], #[.string ByteArray.empty, .string ByteArray.empty], []⟩).memory Tryd.f11.params.toList Rows.glyphJoinsSpec.vars false (#[.string ByteArray.empty, .string ByteArray.empty] : Array Value).toList 8 = some ([.lit (.string []), .lit (.string [])], [], places) :=
  ⟨[], by kernel_rfl⟩
set_option maxRecDepth 100000 in
theorem lifted (os : Os) (started : os.Started) (H : Type) (enc : TypeId × Value → H) (F : Stop.Interp) :
    ReturnsInHanded {} Tryd.checked os 11 .any ((Rows.OpenSpec.upto Rows.glyphJoinsSpec).preRow enc Tryd.prog Tryd.f11 Rows.glyphJoinsUptoRow.domain false Rows.glyphJoinsUptoRow.laid) (((Rows.OpenSpec.upto Rows.glyphJoinsSpec).at F).post enc Tryd.prog Tryd.f11 false true false false) := by
  obtain ⟨places, hx⟩ := reads os enc
  refine returnsInHanded_of_row (C := Tryd.checked) (s := Rows.OpenSpec.upto Rows.glyphJoinsSpec) own started (by kernel_rfl) Tryd.func11
    (witness_row_at (enc := enc) (C := Tryd.checked) false (laidWorld os) #[.string ByteArray.empty, .string ByteArray.empty] rfl (by kernel_rfl) (by kernel_rfl) (by kernel_rfl)
      (OpenSpec.preRow_of_cond 8 hx (by kernel_rfl) (fun k hk => by cases hk; kernel_rfl) (by kernel_rfl) (laid_met os))) ?_
  intro W base args ds gs before hval hW _ hcond hsz hL _ _
  exact contract H enc W base args ds gs before hval hW (hcond _ rfl) hL
theorem said : Rows.GlyphJoinsUptoSaid :=
  OpenClaim.holds_of_cond 11 Tryd.f11 rfl rfl rfl rfl rfl rfl rfl ⟨rfl, rfl, rfl, rfl, rfl⟩ rfl rfl rfl rfl rfl (by kernel_rfl) Tryd.func11 (by kernel_rfl)
    (of_decide_eq_true (by kernel_rfl)) (by unfold Func.isWrapper; first | (rw [if_pos (by decide +kernel)]; kernel_rfl) | (rw [if_neg (by decide +kernel)]; exact ⟨rfl, rfl⟩))
    (fun os started H enc _ F => by rw [OpenClaim.pre_eq_preRow]; exact lifted os started H enc F)
theorem plain (f : FuncId) (fn : Func) (hf : Tryd.pinned.checked.prog.funcNamed "mapsheets/mapsheetslaw06.GlyphJoins" = some f) (hfn : Tryd.pinned.checked.prog.funcs[f]? = some fn) :
    false = Tryd.pinned.checked.prog.looks [] ∧ ∀ (j : Nat) t, fn.params[j]? = some t → Tryd.pinned.checked.prog.wantsStandIn t = false := by
  obtain rfl : f = 11 := Option.some.inj ((show Tryd.prog.funcNamed "mapsheets/mapsheetslaw06.GlyphJoins" = some 11 by kernel_rfl).symm.trans hf) |>.symm
  obtain rfl : fn = Tryd.f11 := (Option.some.inj (Tryd.func11.symm.trans hfn)).symm
  refine ⟨by kernel_rfl, fun j t ht => ?_⟩
  rw [Tryd.params11] at ht
  have hm : t ∈ [9, 9] := by simpa using Array.mem_of_getElem? ht
  have hall : ([9, 9].all fun u => !Tryd.prog.wantsStandIn u) = true := by kernel_rfl
  exact (show Tryd.prog.wantsStandIn t = false by simpa using List.all_eq_true.1 hall t hm)
theorem card : Rows.GlyphJoinsUptoCardSaid :=
  Claim7.holds_tied_plain_at .later [] _ _ _ _ said (fun _ h => by cases h) (by kernel_rfl) (fun _ h => by cases h) glyphJoinsUpto_row_tie rfl ⟨rfl, rfl⟩ (by kernel_rfl) rfl plain (by kernel_rfl)
end Go.Proofs.YtajcalmjdfhedaaDoor.GlyphJoins
