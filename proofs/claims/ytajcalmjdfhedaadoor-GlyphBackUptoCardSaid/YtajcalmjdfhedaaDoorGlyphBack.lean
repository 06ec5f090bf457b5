/- Encode and Decode invert each other. -/
import Derived.Test.YtajcalmjdfhedaaDoorYAwake
import Derived.Test.YtajcalmjdfhedaaDoorYLaid
import Derived.Test.YtajcalmjdfhedaaDoorWArgs
import Derived.ChangeOld
namespace Go.Proofs.YtajcalmjdfhedaaDoor.GlyphBack
open Go.ChangeShapes Go.WideShapes Go.ChangeAt Go.RowKit
open Go.ChangeMaps (open_string shut_string)
open Go.Proofs.YtajcalmjdfhedaaDoor.Wire
open Go.Proofs.YtajcalmjdfhedaaDoor.Glyph
set_option linter.unusedVariables false
set_option linter.unusedSimpArgs false

set_option maxRecDepth 100000 in
set_option maxHeartbeats 8000000 in
theorem walk (a0 : ByteArray) (a1 : Option Addr) (len1 cap1 : Nat) (z1 : List Int) (w : World) (s1 : Sh w w.heap.size .i64 a1 len1 z1) (l1 : len1 ≤ cap1) (w1 : ∀ n ∈ z1, (Lit.int .i64 n).wf = true) (hbk : a0.size + cap1 ≤ 1048576) (hT : Tab w) :
    Calls Tryd.prog 5 #[.string a0, .slice a1 len1 cap1] w fun e w' => e = .returned (.bool true) ∧ Bl w w' := by
  have e1 := s1.len
  have p1 := decL_len a0
  cases ha : dec (sb a0) with
  | none =>
    have c1 := hid (fun w' (hb : Bl w w') => dec_at a0 [] 4 (by omega) (dec_no ha).1 (dec_no ha).2 w' (hT.bl hb))
    clear ha
    by_cases ok : okl z1
    · have q1 := hid (fun w' (hb : Bl w w') hS => Encode_any a1 len1 cap1 z1 w' hS (ok64_of w1) (by omega) (hT.bl hb))
      have f1 : encS z1 = strOfNums (enc z1) ∧ encE z1 = 0 := by unfold encS encE; rw [if_pos ok, if_pos ok]; exact ⟨rfl, rfl⟩
      have f2 : dec (sb (strOfNums (enc z1))) = some z1 := by rw [sb_str (enc_byts ok)]; exact dec_some ok
      have f3 : (strOfNums (enc z1)).size ≤ 3 * z1.length := by rw [strOfNums_size]; exact (enc_len z1).2
      rw [f1.1, f1.2] at q1
      have q2 := hid (fun w' (hb : Bl w w') => dec_at (strOfNums (enc z1)) z1 0 (by omega) (dec_yes f2).1 (dec_yes f2).2 w' (hT.bl hb))
      clear f1 f2 ok
      generalize strOfNums (enc z1) = U at *
      have hz : z1.length ≤ 1048576 := by omega
      have H1 := hid e1
      clear e1
      go_enter Tryd.func5, Tryd.ntmps5
      go_wp2_with fail
      refine (c1.out _ (Bl.refl _)).mono ?_
      rintro e v1 ⟨A_P, c_P, rfl, h_P, hc_P, b1⟩
      have B1 := Bl.trans (Bl.refl _) b1
      have s1_1 := s1.bl b1
      clear b1
      go_wp2_with fail
      refine (q1.out _ B1 s1_1).mono ?_
      rintro e v2 ⟨rfl, b2⟩
      have B2 := Bl.trans B1 b2
      have s1_2 := s1_1.bl b2
      clear b2 s1_1 B1
      go_wp2_with fail
      refine (q2.out _ B2).mono ?_
      rintro e v3 ⟨A_R, c_R, rfl, h_R, hc_R, b3⟩
      have B3 := Bl.trans B2 b3
      have s1_3 := s1_2.bl b3
      clear b3 s1_2 B2
      go_wp2_with fail
      refine (Same_yes _ _ _ _ _ _ _ _ _ h_R s1_3 (by omega) (by omega) rfl).mono ?_
      rintro e v4 ⟨rfl, b4⟩
      have B4 := Bl.trans B3 b4.bl
      have s1_4 := s1_3.bl b4.bl
      have h_R_4 := h_R.bl b4.bl
      clear b4 s1_3 B3
      go_wp2_with fail
      refine (awake_any _ (hT.bl B4)).mono ?_
      rintro e v5 ⟨rfl, b5⟩
      have B5 := Bl.trans B4 b5
      clear b5  B4
      go_wp2_with fail
      go_ret
      exact ⟨rfl, B5⟩
    · have q1 := hid (fun w' (hb : Bl w w') hS => Encode_any a1 len1 cap1 z1 w' hS (ok64_of w1) (by omega) (hT.bl hb))
      have f1 : encS z1 = ⟨#[]⟩ ∧ encE z1 = 4 := by unfold encS encE; rw [if_neg ok, if_neg ok]; exact ⟨rfl, rfl⟩
      rw [f1.1, f1.2] at q1
      clear f1 ok
      have hz : z1.length ≤ 1048576 := by omega
      have H1 := hid e1
      clear e1
      go_enter Tryd.func5, Tryd.ntmps5
      go_wp2_with fail
      refine (c1.out _ (Bl.refl _)).mono ?_
      rintro e v1 ⟨A_P, c_P, rfl, h_P, hc_P, b1⟩
      have B1 := Bl.trans (Bl.refl _) b1
      have s1_1 := s1.bl b1
      clear b1
      go_wp2_with fail
      refine (q1.out _ B1 s1_1).mono ?_
      rintro e v2 ⟨rfl, b2⟩
      have B2 := Bl.trans B1 b2
      have s1_2 := s1_1.bl b2
      clear b2 s1_1 B1
      go_wp2_with fail
      refine (awake_any _ (hT.bl B2)).mono ?_
      rintro e v3 ⟨rfl, b3⟩
      have B3 := Bl.trans B2 b3
      clear b3  B2
      go_wp2_with fail
      go_ret
      exact ⟨rfl, B3⟩
  | some l =>
    have c1 := hid (fun w' (hb : Bl w w') => dec_at a0 l 0 (by omega) (dec_yes ha).1 (dec_yes ha).2 w' (hT.bl hb))
    rw [(dec_yes ha).1] at p1
    have hd := dec_iff.1 ha
    have g1 : encS l = a0 ∧ encE l = 0 := by unfold encS encE; rw [if_pos hd.1, if_pos hd.1, hd.2, strOf_sb]; exact ⟨rfl, rfl⟩
    have c2 := fun A c w' (hb : Bl w w') hS => Encode_any A l.length c l w' hS (ok64_okl hd.1) (by omega) (hT.bl hb)
    rw [g1.1, g1.2] at c2
    have c2 := hid c2
    clear ha hd g1
    by_cases ok : okl z1
    · have q1 := hid (fun w' (hb : Bl w w') hS => Encode_any a1 len1 cap1 z1 w' hS (ok64_of w1) (by omega) (hT.bl hb))
      have f1 : encS z1 = strOfNums (enc z1) ∧ encE z1 = 0 := by unfold encS encE; rw [if_pos ok, if_pos ok]; exact ⟨rfl, rfl⟩
      have f2 : dec (sb (strOfNums (enc z1))) = some z1 := by rw [sb_str (enc_byts ok)]; exact dec_some ok
      have f3 : (strOfNums (enc z1)).size ≤ 3 * z1.length := by rw [strOfNums_size]; exact (enc_len z1).2
      rw [f1.1, f1.2] at q1
      have q2 := hid (fun w' (hb : Bl w w') => dec_at (strOfNums (enc z1)) z1 0 (by omega) (dec_yes f2).1 (dec_yes f2).2 w' (hT.bl hb))
      clear f1 f2 ok
      generalize strOfNums (enc z1) = U at *
      have hz : z1.length ≤ 1048576 := by omega
      have H1 := hid e1
      clear e1
      go_enter Tryd.func5, Tryd.ntmps5
      go_wp2_with fail
      refine (c1.out _ (Bl.refl _)).mono ?_
      rintro e v1 ⟨A_P, c_P, rfl, h_P, hc_P, b1⟩
      have B1 := Bl.trans (Bl.refl _) b1
      have s1_1 := s1.bl b1
      clear b1
      go_wp2_with fail
      refine (c2.out _ _ _ B1 h_P).mono ?_
      rintro e v2 ⟨rfl, b2⟩
      have B2 := Bl.trans B1 b2
      have s1_2 := s1_1.bl b2
      have h_P_2 := h_P.bl b2
      clear b2 s1_1 B1
      go_wp2_with fail
      refine (q1.out _ B2 s1_2).mono ?_
      rintro e v3 ⟨rfl, b3⟩
      have B3 := Bl.trans B2 b3
      have s1_3 := s1_2.bl b3
      clear b3 s1_2 B2
      go_wp2_with fail
      refine (q2.out _ B3).mono ?_
      rintro e v4 ⟨A_R, c_R, rfl, h_R, hc_R, b4⟩
      have B4 := Bl.trans B3 b4
      have s1_4 := s1_3.bl b4
      clear b4 s1_3 B3
      go_wp2_with fail
      refine (Same_yes _ _ _ _ _ _ _ _ _ h_R s1_4 (by omega) (by omega) rfl).mono ?_
      rintro e v5 ⟨rfl, b5⟩
      have B5 := Bl.trans B4 b5.bl
      have s1_5 := s1_4.bl b5.bl
      have h_R_5 := h_R.bl b5.bl
      clear b5 s1_4 B4
      go_wp2_with fail
      refine (awake_any _ (hT.bl B5)).mono ?_
      rintro e v6 ⟨rfl, b6⟩
      have B6 := Bl.trans B5 b6
      clear b6  B5
      go_wp2_with fail
      go_ret
      exact ⟨rfl, B6⟩
    · have q1 := hid (fun w' (hb : Bl w w') hS => Encode_any a1 len1 cap1 z1 w' hS (ok64_of w1) (by omega) (hT.bl hb))
      have f1 : encS z1 = ⟨#[]⟩ ∧ encE z1 = 4 := by unfold encS encE; rw [if_neg ok, if_neg ok]; exact ⟨rfl, rfl⟩
      rw [f1.1, f1.2] at q1
      clear f1 ok
      have hz : z1.length ≤ 1048576 := by omega
      have H1 := hid e1
      clear e1
      go_enter Tryd.func5, Tryd.ntmps5
      go_wp2_with fail
      refine (c1.out _ (Bl.refl _)).mono ?_
      rintro e v1 ⟨A_P, c_P, rfl, h_P, hc_P, b1⟩
      have B1 := Bl.trans (Bl.refl _) b1
      have s1_1 := s1.bl b1
      clear b1
      go_wp2_with fail
      refine (c2.out _ _ _ B1 h_P).mono ?_
      rintro e v2 ⟨rfl, b2⟩
      have B2 := Bl.trans B1 b2
      have s1_2 := s1_1.bl b2
      have h_P_2 := h_P.bl b2
      clear b2 s1_1 B1
      go_wp2_with fail
      refine (q1.out _ B2 s1_2).mono ?_
      rintro e v3 ⟨rfl, b3⟩
      have B3 := Bl.trans B2 b3
      have s1_3 := s1_2.bl b3
      clear b3 s1_2 B2
      go_wp2_with fail
      refine (awake_any _ (hT.bl B3)).mono ?_
      rintro e v4 ⟨rfl, b4⟩
      have B4 := Bl.trans B3 b4
      clear b4  B3
      go_wp2_with fail
      go_ret
      exact ⟨rfl, B4⟩

set_option maxRecDepth 100000 in
theorem contract (H : Type) (enc : TypeId × Value → H) (W : World) (base : Nat) (args : Array Value) (ds gs : List (DataW H)) (before : List MemPlace)
    (hval0 : ∀ (j : Nat) t v, Tryd.f5.params[j]? = some t → args[j]? = some v → Value.okWide Tryd.prog W .any base t v)
    (hW : DataW.Whole enc Tryd.prog Tryd.f5.params.toList Rows.glyphBackSpec.vars false W args.toList ds gs before) (hk : Rows.uptoSmall H (ds ++ gs) = true) (hL : laidMetH Tryd.prog Rows.glyphBackUptoRow.laid W) :
    Calls Tryd.prog 5 args W fun e W' => ∃ v, e = .returned v ∧ Rows.glyphBackSpec.post enc Tryd.prog Tryd.f5 false true false false W args v W' := by
  have hval : ∀ (j : Nat) t v, Tryd.f5.params[j]? = some t → args[j]? = some v → Value.okWide Tryd.prog W .any base t v := hval0
  have hW' := hW
  obtain ⟨p, q, hA0, hV, rfl, hfz, hnd⟩ := hW
  have hA : DataW.TrodAll enc Tryd.prog W 0 (fun _ => true) true Tryd.f5.params.toList args.toList ds p := hA0
  rw [Tryd.params5] at hA hval
  obtain ⟨v0, vs0, d0, ds0, p0, q0, hargs, rfl, rfl, h0, r0⟩ := trodAll_cons hA
  obtain ⟨v1, vs1, d1, ds1, p1, q1, rfl, rfl, rfl, h1, r1⟩ := trodAll_cons r0
  obtain ⟨rfl, rfl, rfl⟩ := trodAll_nil r1
  obtain rfl : args = #[v0, v1] := by cases args; simp_all
  obtain ⟨rfl, rfl⟩ := trodVars_none hV
  obtain ⟨a0, rfl, rfl, rfl, w0⟩ := open_string Tryd.underlying9 (hval 0 9 v0 rfl rfl) h0
  have g0 := bulk_str (H := H) a0
  have k1 := h1
  obtain ⟨a1, len1, cap1, z1, rfl, l1, m1, n1, s1, w1, f1, lt1⟩ := open_row Tryd.underlying22 Tryd.underlying3 (by kernel_rfl) (hval 1 22 v1 rfl rfl) h1
  have g1 := bulk_row n1 l1 f1
  have hbk : a0.size + cap1 ≤ 1048576 := by
    have h := of_decide_eq_true hk
    simp only [List.append_nil, List.cons_append, List.nil_append, Rows.uptoBulkAll] at h
    omega
  clear hA0 hval0
  refine (walk a0 a1 len1 cap1 (z1.take len1) W s1 l1 (fun n hn => w1 n (List.mem_of_mem_take hn)) hbk (tabs hL)).mono fun e W' ⟨he, bel⟩ => ?_
  subst he
  exact ⟨_, rfl, _, _, _, [], _, [], hW', trodAll_mk1 (shut_bool Tryd.underlying4 _), (trodAll_cons_mk (shut_string Tryd.underlying9 w0) (trodAll_cons_mk (Below.trod laidOut (by kernel_rfl) (of_decide_eq_true (by kernel_rfl)) k1 bel lt1) trodAll_mk0)), rfl, Below.frame bel _, fun h => by cases h⟩

theorem laid_met (os : Os) : laidMet Tryd.prog Rows.glyphBackUptoRow.laid ((laidWorld os).forCall (fun _ _ => 0) ⟨#[], #[.string ByteArray.empty, .slice none 0 0], []⟩).memory :=
  laidMet_of_run' 8 (by kernel_rfl) (by kernel_rfl)
theorem reads (os : Os) {H : Type} (enc : TypeId × Value → H) : ∃ places, DataW.whole enc Tryd.prog ((laidWorld os).forCall (fun _ _ => 0) ⟨#[], #[.string ByteArray.empty, .slice none 0 0], []⟩).memory Tryd.f5.params.toList Rows.glyphBackSpec.vars false (#[.string ByteArray.empty, .slice none 0 0] : Array Value).toList 8 = some ([.lit (.string []), .nil], [], places) :=
  ⟨[], by kernel_rfl⟩
set_option maxRecDepth 100000 in
theorem lifted (os : Os) (started : os.Started) (H : Type) (enc : TypeId × Value → H) (F : Stop.Interp) :
    ReturnsInHanded {} Tryd.checked os 5 .any ((Rows.OpenSpec.upto Rows.glyphBackSpec).preRow enc Tryd.prog Tryd.f5 Rows.glyphBackUptoRow.domain false Rows.glyphBackUptoRow.laid) (((Rows.OpenSpec.upto Rows.glyphBackSpec).at F).post enc Tryd.prog Tryd.f5 false true false false) := by
  obtain ⟨places, hx⟩ := reads os enc
  refine returnsInHanded_of_row (C := Tryd.checked) (s := Rows.OpenSpec.upto Rows.glyphBackSpec) own started (by kernel_rfl) Tryd.func5
    (witness_row_at (enc := enc) (C := Tryd.checked) false (laidWorld os) #[.string ByteArray.empty, .slice none 0 0] rfl (by kernel_rfl) (by kernel_rfl) (by kernel_rfl)
      (OpenSpec.preRow_of_cond 8 hx (by kernel_rfl) (fun k hk => by cases hk; kernel_rfl) (by kernel_rfl) (laid_met os))) ?_
  intro W base args ds gs before hval hW _ hcond hsz hL _ _
  exact contract H enc W base args ds gs before hval hW (hcond _ rfl) hL
theorem said : Rows.GlyphBackUptoSaid :=
  OpenClaim.holds_of_cond 5 Tryd.f5 rfl rfl rfl rfl rfl rfl rfl ⟨rfl, rfl, rfl, rfl, rfl⟩ rfl rfl rfl rfl rfl (by kernel_rfl) Tryd.func5 (by kernel_rfl)
    (of_decide_eq_true (by kernel_rfl)) (by unfold Func.isWrapper; first | (rw [if_pos (by decide +kernel)]; kernel_rfl) | (rw [if_neg (by decide +kernel)]; exact ⟨rfl, rfl⟩))
    (fun os started H enc _ F => by rw [OpenClaim.pre_eq_preRow]; exact lifted os started H enc F)
theorem plain (f : FuncId) (fn : Func) (hf : Tryd.pinned.checked.prog.funcNamed "mapsheets/mapsheetslaw06.GlyphBack" = some f) (hfn : Tryd.pinned.checked.prog.funcs[f]? = some fn) :
    false = Tryd.pinned.checked.prog.looks [] ∧ ∀ (j : Nat) t, fn.params[j]? = some t → Tryd.pinned.checked.prog.wantsStandIn t = false := by
  obtain rfl : f = 5 := Option.some.inj ((show Tryd.prog.funcNamed "mapsheets/mapsheetslaw06.GlyphBack" = some 5 by kernel_rfl).symm.trans hf) |>.symm
  obtain rfl : fn = Tryd.f5 := (Option.some.inj (Tryd.func5.symm.trans hfn)).symm
  refine ⟨by kernel_rfl, fun j t ht => ?_⟩
  rw [Tryd.params5] at ht
  have hm : t ∈ [9, 22] := by simpa using Array.mem_of_getElem? ht
  have hall : ([9, 22].all fun u => !Tryd.prog.wantsStandIn u) = true := by kernel_rfl
  exact (show Tryd.prog.wantsStandIn t = false by simpa using List.all_eq_true.1 hall t hm)
theorem card : Rows.GlyphBackUptoCardSaid :=
  Claim7.holds_tied_plain_at .later [] _ _ _ _ said (fun _ h => by cases h) (by kernel_rfl) (fun _ h => by cases h) glyphBackUpto_row_tie rfl ⟨rfl, rfl⟩ (by kernel_rfl) rfl plain (by kernel_rfl)
end Go.Proofs.YtajcalmjdfhedaaDoor.GlyphBack
