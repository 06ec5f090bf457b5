/- IdsetNormal returns true for every list: Normal answers as the reference does, whatever the order of the list is. No condition beyond the form's own reach. -/
import Derived.Test.YtofjfnpfcibbeaaIAwake
import Derived.Test.YtofjfnpfcibbeaaIOks
import Derived.Test.YtofjfnpfcibbeaaWArgs
namespace Go.Proofs.Ytofjfnpfcibbeaa.IdsetNormal
open Go.ChangeShapes Go.WideShapes Go.ChangeAt Go.RowKit
open Go.ChangeMaps (open_string shut_string)
open Go.Proofs.Ytofjfnpfcibbeaa.Wire
open Go.Proofs.Ytofjfnpfcibbeaa.Idset
set_option linter.unusedVariables false
set_option linter.unusedSimpArgs false

set_option maxRecDepth 100000 in
set_option maxHeartbeats 4000000 in
theorem walk (a0 : Option Addr) (len0 cap0 : Nat) (z0 : List Int) (w : World) (s0 : Sh w w.heap.size .i64 a0 len0 z0) (l0 : len0 ≤ cap0) (w0 : ∀ n ∈ z0, (Lit.int .i64 n).wf = true) (b0 : cap0 * 8 ≤ 140737488351232) :
    Calls Try.prog 4 #[.slice a0 len0 cap0] w fun e w' => e = .returned (.bool true) ∧ Bl w w' := by
  have O0 : oks z0 := fun x hx => wf_i64 (w0 x hx)
  have e0 := s0.len
  by_cases few : len0 ≤ 100
  · have f0 := few
    have g0 : z0.length ≤ 100 := by omega
    have H0 := hid e0
    clear e0 w0
    go_enter Try.func4, Try.ntmps4
    go_wp2_with fail
    refine (few_yes _ _ _ _ _ _ _ _ _ _ (by omega) (by omega) (by omega)).mono ?_
    rintro e w' ⟨rfl, rfl⟩
    go_wp2_with fail
    refine (Normal_any _ _ _ _ _ s0 l0 O0 (by omega)).mono ?_
    rintro e v1 ⟨A_N, c_N, rfl, h_N, hc_N, b1⟩
    have B1 := Bl.trans (Bl.refl _) b1
    have m_N : (nrm z0).length ≤ 100 := by have := nrm_len z0; omega
    have o_N := hid (oks_nrm O0)
    generalize e_N : nrm z0 = L_N at h_N hc_N m_N o_N ⊢
    have E_N := hid e_N
    clear e_N b1
    go_wp2_with fail
    go_loopw [4, 5] (fun b i wr => ∃ (A' : Option Addr) (m c' : Nat) (J : Int), b = .slice A' m c' ∧ i = .int .i64 J ∧ -1 ≤ J ∧ J < 100 ∧ J + m + 1 = len0 ∧ Ow wr v1.heap.size 3 .i64 A' m c' (z0.reverse.take m) ∧ Bl v1 wr) (fun _ i _ => (intOf i + 1).toNat)
    case atStart => exact ⟨some ⟨v1.heap.size, 0, none⟩, 0, 0, _, rfl, rfl, by omega, by omega, by omega, Ow.new v1 _ _, (Bl.refl v1).alloc _⟩
    case round =>
      obtain ⟨A', m, c', J, rfl, rfl, hJ, hJ1, hJm, ho, hb⟩ := hrel
      by_cases hlt : 0 ≤ J
      · obtain ⟨k, rfl⟩ : ∃ k : Nat, J = k := ⟨J.toNat, by omega⟩
        obtain ⟨b, o, rfl, _, hcell⟩ := (s0.bl (B1.trans hb)).2 (by omega)
        have hc1 := hcell k (by omega)
        have hsn := hid (take_snoc (l := z0.reverse) (i := m) (by rw [List.length_reverse, H0.out]; omega))
        have hg : Hid (z0.reverse.getD m 0 = z0.getD k 0) := hid (by
          simp only [List.getD]
          rw [List.getElem?_reverse (by rw [H0.out]; omega), H0.out]
          congr 2; omega)
        rw [hg.out] at hsn
        clear hcell hg
        generalize z0.getD k 0 = x at *
        have hsz := (B1.trans hb).size
        go_wp2_with (at_builtin; refine wpList_app_own _ rfl (.tmp 20) (.tmp 25) _ rfl elI rfl (ho.alloc _) rfl (Sh.one _ _ _ _) (by omega) (by omega) (by have := hb.size; simp; omega) ?_; intro A2 c2 w2 ho2 hb2)
        go_roundw
        case rel => exact ⟨A2, m + 1, c2, (k : Int) - 1, rfl, rfl, by omega, by omega, by omega, by rw [hsn.out]; exact ho2, Below.trans (hb.alloc _) hb2⟩
        case measure => simp [intOf]
      · obtain rfl : m = len0 := by omega
        obtain rfl : J = -1 := by omega
        rw [take_all (by rw [List.length_reverse, H0.out]; exact Nat.le_refl _)] at ho
        have h_K := ho.sh
        have hc_K := ow_cap ho
        have o_K := hid (show oks z0.reverse from fun x hx => O0 x (List.mem_reverse.1 hx))
        have h_N1 := h_N.bl hb
        have BB : Bl w wr := B1.trans hb
        clear ho h_N hb B1
        have m_K : z0.reverse.length ≤ 100 := by rw [List.length_reverse]; omega
        generalize e_K : z0.reverse = L_K at h_K o_K m_K
        have E_K := hid e_K
        clear e_K
        go_wp2_with fail
        refine (awake_any _).mono ?_
        rintro e v51 ⟨rfl, b51⟩
        have B51 := Bl.trans BB b51
        have h_N_1 := h_N1.bl b51
        have h_K_1 := h_K.bl b51
        clear b51 h_N1 h_K BB
        go_wp2_with fail
        refine (RNormal_anx _ _ _ _ _ (s0.bl B51) l0 O0 (by omega)).mono ?_
        rintro e v52 ⟨A_R, c_R, rfl, h_R, hc_R, b52⟩
        have B52 := Bl.trans B51 b52
        have h_N_2 := h_N_1.bl b52
        have h_K_2 := h_K_1.bl b52
        have m_R : (nrm z0).length ≤ 100 := by have := nrm_len z0; omega
        have o_R := hid (oks_nrm O0)
        generalize e_R : nrm z0 = L_R at h_R hc_R m_R o_R ⊢
        have E_R := hid e_R
        clear e_R b52 h_N_1 h_K_1 B51
        go_wp2_with fail
        refine (Same_yes _ _ _ _ _ _ _ _ _ h_N_2 h_R (by omega) (by omega) (by rw [← E_R.out, ← E_N.out])).mono ?_
        rintro e v53 ⟨rfl, q53⟩
        have B53 := Bl.q B52 q53
        have h_N_3 := h_N_2.bl q53.bl
        have h_K_3 := h_K_2.bl q53.bl
        clear q53 h_N_2 h_K_2 h_R B52
        have pv := Valid_any _ _ _ _ _ h_N_3 hc_N o_N.out (by omega)
        rw [show vld L_N = true by rw [← E_N.out]; exact vld_yes (nrm_asc _)] at pv
        have PV := hid pv
        clear pv
        go_wp2_with fail
        refine (PV.out).mono ?_
        rintro e v54 ⟨rfl, b54⟩
        have B54 := Bl.trans B53 b54
        have h_N_4 := h_N_3.bl b54
        have h_K_4 := h_K_3.bl b54
        clear b54 h_N_3 h_K_3 B53
        go_wp2_with fail
        refine (Normal_any _ _ _ _ _ h_N_4 hc_N o_N.out (by omega)).mono ?_
        rintro e v55 ⟨A_M, c_M, rfl, h_M, hc_M, b55⟩
        have B55 := Bl.trans B54 b55
        have h_N_5 := h_N_4.bl b55
        have h_K_5 := h_K_4.bl b55
        have m_M : (nrm L_N).length ≤ 100 := by have := nrm_len L_N; omega
        have o_M := hid (oks_nrm o_N.out)
        generalize e_M : nrm L_N = L_M at h_M hc_M m_M o_M ⊢
        have E_M := hid e_M
        clear e_M b55 h_N_4 h_K_4 B54
        go_wp2_with fail
        refine (Same_yes _ _ _ _ _ _ _ _ _ h_M h_N_5 (by omega) (by omega) (by rw [← E_M.out, ← E_N.out]; exact nrm_set (nrm_asc _))).mono ?_
        rintro e v56 ⟨rfl, q56⟩
        have B56 := Bl.q B55 q56
        have h_N_6 := h_N_5.bl q56.bl
        have h_K_6 := h_K_5.bl q56.bl
        clear q56 h_N_5 h_K_5 h_M B55
        go_wp2_with fail
        refine (Normal_any _ _ _ _ _ h_K_6 hc_K o_K.out (by omega)).mono ?_
        rintro e v57 ⟨A_T, c_T, rfl, h_T, hc_T, b57⟩
        have B57 := Bl.trans B56 b57
        have h_N_7 := h_N_6.bl b57
        have m_T : (nrm L_K).length ≤ 100 := by have := nrm_len L_K; omega
        have o_T := hid (oks_nrm o_K.out)
        generalize e_T : nrm L_K = L_T at h_T hc_T m_T o_T ⊢
        have E_T := hid e_T
        clear e_T b57 h_N_6 h_K_6 B56
        go_wp2_with fail
        refine (Same_yes _ _ _ _ _ _ _ _ _ h_T h_N_7 (by omega) (by omega) (by rw [← E_T.out, ← E_K.out, ← E_N.out]; exact nrm_rev _)).mono ?_
        rintro e v58 ⟨rfl, q58⟩
        have B58 := Bl.q B57 q58
        clear q58 h_N_7 h_T B57
        go_wp2_with fail
        go_ret
        exact ⟨rfl, B58⟩
  · clear e0 O0
    go_enter Try.func4, Try.ntmps4
    go_wp2_with fail
    refine (few_no _ _ _ _ _ _ _ _ _ _ (by omega)).mono ?_
    rintro e w' ⟨rfl, rfl⟩
    go_wp2_with fail
    refine (awake_any _).mono ?_
    rintro e v1 ⟨rfl, b1⟩
    have B1 := Bl.trans (Bl.refl _) b1
    clear b1
    go_wp2_with fail
    go_ret
    exact ⟨rfl, B1⟩

set_option maxRecDepth 100000 in
theorem lifted (os : Os) (started : os.Started) (H : Type) (enc : TypeId × Value → H) :
    ReturnsInHanded {} Try.checked os 4 .any (Rows.idsetNormalSpec.pre6 enc Try.prog Try.f4 Rows.idsetNormalRow.domain false) (Rows.idsetNormalSpec.post enc Try.prog Try.f4 false true false false) := by
  refine returnsInHanded_of_change_sized (C := Try.checked) own started (by kernel_rfl) Try.func4
    (ChangeSpec.witness6 (enc := enc) (C := Try.checked) false ⟨#[], #[.slice none 0 0], []⟩ 8 (by kernel_rfl) (by kernel_rfl) (by kernel_rfl) (by kernel_rfl)) ?_
  intro W base args ds gs before hval0 hW _ hsz0 _
  have hsz : (DataW.weightsEach Try.prog (Try.f4.params.toList ++ Rows.idsetNormalSpec.plain.varTypes Try.prog) (ds ++ gs)).all (· ≤ reachBytes) = true := hsz0
  have hval : ∀ (j : Nat) t v, Try.f4.params[j]? = some t → args[j]? = some v → Value.okWide Try.prog W .any base t v := hval0
  have hW' := hW
  obtain ⟨p, q, hA0, hV, rfl, hfz, hnd⟩ := hW
  have hA : DataW.TrodAll enc Try.prog W 0 (fun _ => true) true Try.f4.params.toList args.toList ds p := hA0
  rw [Try.params4] at hA hval hsz
  obtain ⟨v0, vs0, d0, ds0, p0, q0, hargs, rfl, rfl, h0, r0⟩ := trodAll_cons hA
  obtain ⟨rfl, rfl, rfl⟩ := trodAll_nil r0
  obtain rfl : args = #[v0] := by cases args; simp_all
  obtain ⟨rfl, rfl⟩ := trodVars_none hV
  have k0 := h0
  obtain ⟨a0, len0, cap0, z0, rfl, l0, m0, n0, s0, w0, f0, lt0⟩ := open_row Try.underlying22 Try.underlying3 (by kernel_rfl) (hval 0 22 v0 rfl rfl) h0
  have b0 := reach_row hsz (j := 0) (t := 22) (e := 3) 8 rfl rfl Try.underlying22 (by kernel_rfl) n0 l0 f0
  clear hA0 hval0
  refine (walk a0 len0 cap0 (z0.take len0) W s0 l0 (fun n hn => w0 n (List.mem_of_mem_take hn)) b0).mono fun e W' ⟨he, bel⟩ => ?_
  subst he
  exact ⟨_, rfl, _, _, _, [], _, [], hW', trodAll_mk1 (shut_bool Try.underlying4 _), (trodAll_cons_mk (Below.trod laidOut (by kernel_rfl) (of_decide_eq_true (by kernel_rfl)) k0 bel lt0) trodAll_mk0), rfl, Below.frame bel _, fun h => by cases h⟩

theorem holds : Rows.IdsetNormalSaid :=
  OpenClaim.holds_of_wide 4 Try.f4 rfl rfl rfl rfl rfl rfl rfl ⟨rfl, rfl, rfl, rfl, rfl⟩ rfl rfl rfl rfl rfl (by kernel_rfl) Try.func4 (by kernel_rfl)
    (of_decide_eq_true (by kernel_rfl)) (by unfold Func.isWrapper; first | (rw [if_pos (by decide +kernel)]; kernel_rfl) | (rw [if_neg (by decide +kernel)]; exact ⟨rfl, rfl⟩))
    (fun os started H enc _ => lifted os started H enc)
end Go.Proofs.Ytofjfnpfcibbeaa.IdsetNormal
