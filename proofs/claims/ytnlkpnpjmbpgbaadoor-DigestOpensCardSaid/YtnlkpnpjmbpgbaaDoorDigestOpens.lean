/- DigestOpens returns true for every slice of bytes: Open answers as the reference does, and what it accepts is the Seal of its answer. The table of the program is what its own text lays. No condition beyond the form's own reach. -/
import Derived.Test.YtnlkpnpjmbpgbaaDoorDLaid
namespace Go.Proofs.YtnlkpnpjmbpgbaaDoor.DigestOpens
open Go.ChangeShapes Go.WideShapes Go.ChangeAt Go.RowKit
open Go.ChangeMaps (open_string shut_string)
open Go.Proofs.YtnlkpnpjmbpgbaaDoor.Wire
open Go.Proofs.YtnlkpnpjmbpgbaaDoor.Digest
set_option linter.unusedVariables false
set_option linter.unusedSimpArgs false

set_option maxRecDepth 100000 in
set_option maxHeartbeats 1000000 in
theorem walk (a0 : Option Addr) (len0 cap0 : Nat) (z0 : List Int) (w : World) (s0 : Sh w w.heap.size .u8 a0 len0 z0) (l0 : len0 ≤ cap0) (w0 : ∀ n ∈ z0, (Lit.int .u8 n).wf = true) (b0 : cap0 ≤ 140737488351232) (hT : Tab w) :
    Calls Tryd.prog 7 #[.slice a0 len0 cap0] w fun e w' => e = .returned (.bool true) ∧ Bl w w' := by
  have hb : byts z0 := fun x hx => wf_u8 (w0 x hx)
  have hl := s0.len
  have c1 := hid (Open_any a0 len0 cap0 z0 w s0 hb hT l0 (by omega))
  have c2 := hid (fun w1 (h : Bl w w1) => ROpen_any a0 len0 cap0 z0 w1 (s0.bl h) hb l0 (by omega))
  have hle := oc_le z0
  have c4 := hid (fun w1 A A' c c' (hS : Sh w1 w1.heap.size .u8 A (oc z0).length (oc z0)) (hS' : Sh w1 w1.heap.size .u8 A' (oc z0).length (oc z0)) => same_at (oc z0) (oc z0).length w1 A A' c c' (by omega) hS hS')
  have c5 := hid (fun w1 A A' c c' (hS : Sh w1 w1.heap.size .u8 A len0 z0) (hS' : Sh w1 w1.heap.size .u8 A' len0 z0) => same_at z0 len0 w1 A A' c c' (by omega) hS hS')
  have hse := oe_seal (xs := z0)
  have hzb := oc_b hb
  have c3 := hid (fun (h0 : oe z0 = 0) w1 A c (hS : Sh w1 w1.heap.size .u8 A (oc z0).length (oc z0)) (h : Bl w w1) => (Seal_any A (oc z0).length c (oc z0) w1 hS hzb (hT.bl h) (by omega)).mono fun _ _ g => g.at (n := len0) (by rw [hse h0, hl]))
  have c7 := hid (fun w1 (h : Bl w w1) => awake_any w1 (hT.bl h))
  have hE := oe_cases z0
  have HSE := hid hse
  clear w0 hb hl hzb hse
  generalize oe z0 = E at *
  generalize oc z0 = Z at *
  rcases hE with rfl | hE
  · have c3' := hid (c3.out rfl)
    clear c3
    go_enter Tryd.func7, Tryd.ntmps7
    go_wp2_with fail
    refine c1.out.mono ?_
    rintro e w1 ⟨A1, c1', rfl, hs1, hc1, hb1⟩
    go_wp2_with fail
    refine (c2.out _ hb1).mono ?_
    rintro e w2 ⟨A2, c2', rfl, hs2, hc2, hb2⟩
    have hs1' := hs1.bl hb2
    have hb12 := hb1.trans hb2
    clear hs1 hb1 hb2 hc1 hc2
    go_wp2_with fail
    refine (c4.out _ _ _ _ _ hs1' hs2).mono ?_
    rintro e w3 ⟨rfl, hq⟩
    have hb13 := hb12.q hq
    have hs1 := hs1'.bl hq.bl
    clear hs1' hs2 hb12 hq
    go_wp2_with fail
    refine (c3'.out _ _ _ hs1 hb13).mono ?_
    rintro e w4 ⟨A4, c4', rfl, hs4, hc4, hb4⟩
    have hb14 := hb13.trans hb4
    rw [HSE.out (by trivial)] at hs4
    clear hs1 hb13 hb4 hc4
    go_wp2_with fail
    refine (c5.out _ _ _ _ _ hs4 (s0.bl hb14)).mono ?_
    rintro e w5 ⟨rfl, hq⟩
    have hb15 := hb14.q hq
    clear hq hb14 hs4
    go_wp2_with fail
    refine (c7.out _ hb15).mono ?_
    rintro e w6 ⟨rfl, hb6⟩
    go_wp2_with fail
    go_ret
    exact ⟨rfl, hb15.trans hb6⟩
  · rcases hE with rfl | rfl
    all_goals
      clear c3 HSE
      go_enter Tryd.func7, Tryd.ntmps7
      go_wp2_with fail
      refine c1.out.mono ?_
      rintro e w1 ⟨A1, c1', rfl, hs1, hc1, hb1⟩
      go_wp2_with fail
      refine (c2.out _ hb1).mono ?_
      rintro e w2 ⟨A2, c2', rfl, hs2, hc2, hb2⟩
      have hs1' := hs1.bl hb2
      have hb12 := hb1.trans hb2
      clear hs1 hb1 hb2 hc1 hc2
      go_wp2_with fail
      refine (c4.out _ _ _ _ _ hs1' hs2).mono ?_
      rintro e w3 ⟨rfl, hq⟩
      have hb13 := hb12.q hq
      clear hs1' hs2 hb12 hq
      go_wp2_with fail
      refine (c7.out _ hb13).mono ?_
      rintro e w6 ⟨rfl, hb6⟩
      go_wp2_with fail
      go_ret
      exact ⟨rfl, hb13.trans hb6⟩

set_option maxRecDepth 100000 in
theorem contract (H : Type) (enc : TypeId × Value → H) (W : World) (base : Nat) (args : Array Value) (ds gs : List (DataW H)) (before : List MemPlace)
    (hval0 : ∀ (j : Nat) t v, Tryd.f7.params[j]? = some t → args[j]? = some v → Value.okWide Tryd.prog W .any base t v)
    (hW : DataW.Whole enc Tryd.prog Tryd.f7.params.toList Rows.digestOpensSpec.vars false W args.toList ds gs before) (hsz0 : (DataW.weightsEach Tryd.prog (Tryd.f7.params.toList ++ Rows.digestOpensSpec.plain.varTypes Tryd.prog) (ds ++ gs)).all (· ≤ reachBytes) = true) (hL : laidMetH Tryd.prog Rows.digestOpensRow.laid W) :
    Calls Tryd.prog 7 args W fun e W' => ∃ v, e = .returned v ∧ Rows.digestOpensSpec.post enc Tryd.prog Tryd.f7 false true false false W args v W' := by
  have hsz := hsz0
  have hval : ∀ (j : Nat) t v, Tryd.f7.params[j]? = some t → args[j]? = some v → Value.okWide Tryd.prog W .any base t v := hval0
  have hW' := hW
  obtain ⟨p, q, hA0, hV, rfl, hfz, hnd⟩ := hW
  have hA : DataW.TrodAll enc Tryd.prog W 0 (fun _ => true) true Tryd.f7.params.toList args.toList ds p := hA0
  rw [Tryd.params7] at hA hval hsz
  obtain ⟨v0, vs0, d0, ds0, p0, q0, hargs, rfl, rfl, h0, r0⟩ := trodAll_cons hA
  obtain ⟨rfl, rfl, rfl⟩ := trodAll_nil r0
  obtain rfl : args = #[v0] := by cases args; simp_all
  obtain ⟨rfl, rfl⟩ := trodVars_none hV
  have k0 := h0
  obtain ⟨a0, len0, cap0, z0, rfl, l0, m0, n0, s0, w0, f0, lt0⟩ := open_row Tryd.underlying22 Tryd.underlying5 (by kernel_rfl) (hval 0 22 v0 rfl rfl) h0
  have b0 := reach_row hsz (j := 0) (t := 22) (e := 5) 1 rfl rfl Tryd.underlying22 (by kernel_rfl) n0 l0 f0
  clear hA0 hval0
  refine (walk a0 len0 cap0 (z0.take len0) W s0 l0 (fun n hn => w0 n (List.mem_of_mem_take hn)) (by simpa using b0) (table hL)).mono fun e W' ⟨he, bel⟩ => ?_
  subst he
  exact ⟨_, rfl, _, _, _, [], _, [], hW', trodAll_mk1 (shut_bool Tryd.underlying4 _), (trodAll_cons_mk (Below.trod laidOut (by kernel_rfl) (of_decide_eq_true (by kernel_rfl)) k0 bel lt0) trodAll_mk0), rfl, Below.frame bel _, fun h => by cases h⟩

theorem laid_met (os : Os) : laidMet Tryd.prog Rows.digestOpensRow.laid ((laidWorld os).forCall (fun _ _ => 0) ⟨#[], #[.slice none 0 0], []⟩).memory :=
  laidMet_of_run' 8 (by kernel_rfl) (by kernel_rfl)
theorem reads (os : Os) {H : Type} (enc : TypeId × Value → H) : ∃ places, DataW.whole enc Tryd.prog ((laidWorld os).forCall (fun _ _ => 0) ⟨#[], #[.slice none 0 0], []⟩).memory Tryd.f7.params.toList Rows.digestOpensSpec.vars false (#[.slice none 0 0] : Array Value).toList 8 = some ([.nil], [], places) :=
  ⟨[], by kernel_rfl⟩
set_option maxRecDepth 100000 in
theorem lifted (os : Os) (started : os.Started) (H : Type) (enc : TypeId × Value → H) (F : Stop.Interp) :
    ReturnsInHanded {} Tryd.checked os 7 .any ((OpenSpec.ofChange Rows.digestOpensSpec).preRow enc Tryd.prog Tryd.f7 Rows.digestOpensRow.domain false Rows.digestOpensRow.laid) (((OpenSpec.ofChange Rows.digestOpensSpec).at F).post enc Tryd.prog Tryd.f7 false true false false) := by
  obtain ⟨places, hx⟩ := reads os enc
  refine returnsInHanded_of_row (C := Tryd.checked) (s := OpenSpec.ofChange Rows.digestOpensSpec) own started (by kernel_rfl) Tryd.func7
    (witness_row_at (enc := enc) (C := Tryd.checked) false (laidWorld os) #[.slice none 0 0] rfl (by kernel_rfl) (by kernel_rfl) (by kernel_rfl)
      (OpenSpec.preRow_of_cond 8 hx (by kernel_rfl) (fun k hk => by cases hk) (by kernel_rfl) (laid_met os))) ?_
  intro W base args ds gs before hval hW _ hcond hsz hL _ _
  exact contract H enc W base args ds gs before hval hW hsz hL
theorem said : Rows.DigestOpensSaid :=
  OpenClaim.holds_of_cond 7 Tryd.f7 rfl rfl rfl rfl rfl rfl rfl ⟨rfl, rfl, rfl, rfl, rfl⟩ rfl rfl rfl rfl rfl (by kernel_rfl) Tryd.func7 (by kernel_rfl)
    (of_decide_eq_true (by kernel_rfl)) (by unfold Func.isWrapper; first | (rw [if_pos (by decide +kernel)]; kernel_rfl) | (rw [if_neg (by decide +kernel)]; exact ⟨rfl, rfl⟩))
    (fun os started H enc _ F => by rw [OpenClaim.pre_eq_preRow]; exact lifted os started H enc F)
theorem plain (f : FuncId) (fn : Func) (hf : Tryd.pinned.checked.prog.funcNamed "mapsheets/mapsheetslaw03.DigestOpens" = some f) (hfn : Tryd.pinned.checked.prog.funcs[f]? = some fn) :
    false = Tryd.pinned.checked.prog.looks [] ∧ ∀ (j : Nat) t, fn.params[j]? = some t → Tryd.pinned.checked.prog.wantsStandIn t = false := by
  obtain rfl : f = 7 := Option.some.inj ((show Tryd.prog.funcNamed "mapsheets/mapsheetslaw03.DigestOpens" = some 7 by kernel_rfl).symm.trans hf) |>.symm
  obtain rfl : fn = Tryd.f7 := (Option.some.inj (Tryd.func7.symm.trans hfn)).symm
  refine ⟨by kernel_rfl, fun j t ht => ?_⟩
  rw [Tryd.params7] at ht
  have hm : t ∈ [22] := by simpa using Array.mem_of_getElem? ht
  have hall : ([22].all fun u => !Tryd.prog.wantsStandIn u) = true := by kernel_rfl
  exact (show Tryd.prog.wantsStandIn t = false by simpa using List.all_eq_true.1 hall t hm)
theorem card : Rows.DigestOpensCardSaid :=
  Claim7.holds_tied_plain_at .later [] _ _ _ _ said (fun _ h => by cases h) (by kernel_rfl) (fun _ h => by cases h) digestOpens_row_tie rfl ⟨rfl, rfl⟩ (by kernel_rfl) rfl plain (by kernel_rfl)
end Go.Proofs.YtnlkpnpjmbpgbaaDoor.DigestOpens
