/- DigestHex returns true for every number: Hex answers as the reference does, 16 digits from which the number is read again. The table of the program is what its own text lays. No condition. -/
import Derived.Test.YtnlkpnpjmbpgbaaDoorDLaid
namespace Go.Proofs.YtnlkpnpjmbpgbaaDoor.DigestHex
open Go.ChangeShapes Go.WideShapes Go.ChangeAt Go.RowKit
open Go.ChangeMaps (open_string shut_string)
open Go.Proofs.YtnlkpnpjmbpgbaaDoor.Wire
open Go.Proofs.YtnlkpnpjmbpgbaaDoor.Digest
set_option linter.unusedVariables false
set_option linter.unusedSimpArgs false

theorem strOf_at {xs : List Int} {k : Nat} (h : k < (strOfNums xs).size) (hb : byts xs) : (((strOfNums xs)[k]'h).toNat : Int) = xs.getD k 0 := by
  have hk : k < xs.length := by rwa [strOfNums_size] at h
  have e : (strOfNums xs)[k]'h = UInt8.ofNat (xs[k]).toNat := by
    show (strOfNums xs).data[k]'_ = _
    simp [strOfNums]
  rw [e, UInt8.toNat_ofNat']
  have := hb _ (List.getElem_mem hk)
  have e2 : xs.getD k 0 = xs[k] := by simp [List.getD, List.getElem?_eq_getElem hk]
  rw [e2]; omega
theorem next (d k : Nat) (h : k < 16) : d / 16 ^ (16 - (k + 1)) = d / 16 ^ (16 - k) * 16 + d / 16 ^ (15 - k) % 16 := by
  have e1 : 16 - (k + 1) = 15 - k := by omega
  have e2 : (16 : Nat) ^ (16 - k) = 16 ^ (15 - k) * 16 := by rw [← Nat.pow_succ]; congr 1; omega
  rw [e1, e2, ← Nat.div_div_eq_div_mul]
  omega

set_option maxRecDepth 100000 in
set_option maxHeartbeats 1000000 in
theorem walk (a0 : Int) (w : World) (w0 : (Lit.int .u64 a0).wf = true) (hT : Tab w) :
    Calls Tryd.prog 5 #[.int .u64 a0] w fun e w' => e = .returned (.bool true) ∧ Bl w w' := by
  have h01 : 0 ≤ a0 ∧ a0 ≤ 18446744073709551615 := by simpa [Lit.wf, IntKind.min, IntKind.max, IntKind.signed, IntKind.bits] using w0
  obtain ⟨h0, h1⟩ := h01
  have c1 := hid (Hex_any a0 w h0 h1)
  have c2 := hid (fun w1 => RHex_any a0 w1 h0 h1)
  have c5 := hid (fun w1 (h : Bl w w1) => awake_any w1 (hT.bl h))
  have hsz : (strOfNums (ihex a0)).size = 16 := by rw [strOfNums_size, ihex_len]
  have hat := hid (fun k (h : k < (strOfNums (ihex a0)).size) => strOf_at h (ihex_b a0))
  have hG := hid (fun j => ihex_get (d := a0) (j := j))
  generalize ihex a0 = H at *
  generalize strOfNums H = S at *
  clear w0
  go_enter Tryd.func5, Tryd.ntmps5
  go_wp2_with fail
  refine c1.out.mono ?_
  rintro e w1 ⟨rfl, hb1⟩
  go_wp2_with fail
  refine (c2.out _).mono ?_
  rintro e w' ⟨rfl, rfl⟩
  go_wp2_with fail
  go_loop [4, 5] (fun n i => ∃ (k : Nat) (N : Int), i = .int .i64 k ∧ k ≤ 16 ∧ n = .int .u64 N ∧ 0 ≤ N ∧ N ≤ 18446744073709551615 ∧ Hid (N = (a0.toNat / 16 ^ (16 - k) : Nat))) (fun _ i => 16 - (intOf i).toNat)
  case atStart => exact ⟨0, 0, rfl, by omega, rfl, by decide, by decide, hid (by simp; omega)⟩
  case round =>
    obtain ⟨k, N, rfl, hk, rfl, g0, g1, hN⟩ := hrel
    by_cases hlt : k < 16
    · have hks : k < S.size := by omega
      have hx := hat.out k hks
      rw [hG.out k hlt] at hx
      have hn := next a0.toNat k hlt
      have hle : a0.toNat / 16 ^ (16 - (k + 1)) ≤ a0.toNat := Nat.div_le_self _ _
      have hN' := hN.out
      rw [hn] at hle
      have hq : a0.toNat / 16 ^ (15 - k) % 16 < 16 := Nat.mod_lt _ (by omega)
      generalize a0.toNat / 16 ^ (15 - k) % 16 = q at *
      have hb : N * 16 + (q : Int) ≤ 18446744073709551615 := by omega
      have hb' : N * 16 ≤ 18446744073709551615 := by omega
      have fin : Hid (N * 16 + (q : Int) = (a0.toNat / 16 ^ (16 - (k + 1)) : Nat)) := hid (by rw [hn]; omega)
      clear hn hle hN'
      by_cases h10 : q < 10
      · have hx' : (((S[k]'hks).toNat : Nat) : Int) = 48 + (q : Int) := by rw [hx]; unfold hdig; rw [if_pos h10]; omega
        clear hx
        go_wp2_with fail
        go_round
        case rel => exact ⟨k + 1, N * 16 + (q : Int), by go_num, by omega, by go_num, by omega, by omega, fin⟩
        case measure => simp [intOf]; omega
      · have hx' : (((S[k]'hks).toNat : Nat) : Int) = 87 + (q : Int) := by rw [hx]; unfold hdig; rw [if_neg h10]; omega
        clear hx
        go_wp2_with fail
        go_round
        case rel => exact ⟨k + 1, N * 16 + (q : Int), by go_num, by omega, by go_num, by omega, by omega, fin⟩
        case measure => simp [intOf]; omega
    · obtain rfl : k = 16 := by omega
      obtain rfl : N = a0 := by have := hN.out; simp at this; omega
      go_wp2_with fail
      refine (c5.out _ hb1).mono ?_
      rintro e w2 ⟨rfl, hb2⟩
      go_wp2_with fail
      go_ret
      exact ⟨rfl, hb1.trans hb2⟩

set_option maxRecDepth 100000 in
theorem contract (H : Type) (enc : TypeId × Value → H) (W : World) (base : Nat) (args : Array Value) (ds gs : List (DataW H)) (before : List MemPlace)
    (hval0 : ∀ (j : Nat) t v, Tryd.f5.params[j]? = some t → args[j]? = some v → Value.okWide Tryd.prog W .any base t v)
    (hW : DataW.Whole enc Tryd.prog Tryd.f5.params.toList Rows.digestHexSpec.vars false W args.toList ds gs before) (hsz0 : (DataW.weightsEach Tryd.prog (Tryd.f5.params.toList ++ Rows.digestHexSpec.plain.varTypes Tryd.prog) (ds ++ gs)).all (· ≤ reachBytes) = true) (hL : laidMetH Tryd.prog Rows.digestHexRow.laid W) :
    Calls Tryd.prog 5 args W fun e W' => ∃ v, e = .returned v ∧ Rows.digestHexSpec.post enc Tryd.prog Tryd.f5 false true false false W args v W' := by
  have hsz := hsz0
  have hval : ∀ (j : Nat) t v, Tryd.f5.params[j]? = some t → args[j]? = some v → Value.okWide Tryd.prog W .any base t v := hval0
  have hW' := hW
  obtain ⟨p, q, hA0, hV, rfl, hfz, hnd⟩ := hW
  have hA : DataW.TrodAll enc Tryd.prog W 0 (fun _ => true) true Tryd.f5.params.toList args.toList ds p := hA0
  rw [Tryd.params5] at hA hval hsz
  obtain ⟨v0, vs0, d0, ds0, p0, q0, hargs, rfl, rfl, h0, r0⟩ := trodAll_cons hA
  obtain ⟨rfl, rfl, rfl⟩ := trodAll_nil r0
  obtain rfl : args = #[v0] := by cases args; simp_all
  obtain ⟨rfl, rfl⟩ := trodVars_none hV
  obtain ⟨a0, rfl, rfl, rfl, w0⟩ := open_int Tryd.underlying24 (hval 0 24 v0 rfl rfl) h0
  clear hA0 hval0
  refine (walk a0 W w0 (table hL)).mono fun e W' ⟨he, bel⟩ => ?_
  subst he
  exact ⟨_, rfl, _, _, _, [], _, [], hW', trodAll_mk1 (shut_bool Tryd.underlying4 _), (trodAll_cons_mk (shut_int Tryd.underlying24 w0) trodAll_mk0), rfl, Below.frame bel _, fun h => by cases h⟩

theorem laid_met (os : Os) : laidMet Tryd.prog Rows.digestHexRow.laid ((laidWorld os).forCall (fun _ _ => 0) ⟨#[], #[.int .u64 0], []⟩).memory :=
  laidMet_of_run' 8 (by kernel_rfl) (by kernel_rfl)
theorem reads (os : Os) {H : Type} (enc : TypeId × Value → H) : ∃ places, DataW.whole enc Tryd.prog ((laidWorld os).forCall (fun _ _ => 0) ⟨#[], #[.int .u64 0], []⟩).memory Tryd.f5.params.toList Rows.digestHexSpec.vars false (#[.int .u64 0] : Array Value).toList 8 = some ([.lit (.int .u64 0)], [], places) :=
  ⟨[], by kernel_rfl⟩
set_option maxRecDepth 100000 in
theorem lifted (os : Os) (started : os.Started) (H : Type) (enc : TypeId × Value → H) (F : Stop.Interp) :
    ReturnsInHanded {} Tryd.checked os 5 .any ((OpenSpec.ofChange Rows.digestHexSpec).preRow enc Tryd.prog Tryd.f5 Rows.digestHexRow.domain false Rows.digestHexRow.laid) (((OpenSpec.ofChange Rows.digestHexSpec).at F).post enc Tryd.prog Tryd.f5 false true false false) := by
  obtain ⟨places, hx⟩ := reads os enc
  refine returnsInHanded_of_row (C := Tryd.checked) (s := OpenSpec.ofChange Rows.digestHexSpec) own started (by kernel_rfl) Tryd.func5
    (witness_row_at (enc := enc) (C := Tryd.checked) false (laidWorld os) #[.int .u64 0] rfl (by kernel_rfl) (by kernel_rfl) (by kernel_rfl)
      (OpenSpec.preRow_of_cond 8 hx (by kernel_rfl) (fun k hk => by cases hk) (by kernel_rfl) (laid_met os))) ?_
  intro W base args ds gs before hval hW _ hcond hsz hL _ _
  exact contract H enc W base args ds gs before hval hW hsz hL
theorem said : Rows.DigestHexSaid :=
  OpenClaim.holds_of_cond 5 Tryd.f5 rfl rfl rfl rfl rfl rfl rfl ⟨rfl, rfl, rfl, rfl, rfl⟩ rfl rfl rfl rfl rfl (by kernel_rfl) Tryd.func5 (by kernel_rfl)
    (of_decide_eq_true (by kernel_rfl)) (by unfold Func.isWrapper; first | (rw [if_pos (by decide +kernel)]; kernel_rfl) | (rw [if_neg (by decide +kernel)]; exact ⟨rfl, rfl⟩))
    (fun os started H enc _ F => by rw [OpenClaim.pre_eq_preRow]; exact lifted os started H enc F)
theorem plain (f : FuncId) (fn : Func) (hf : Tryd.pinned.checked.prog.funcNamed "mapsheets/mapsheetslaw03.DigestHex" = some f) (hfn : Tryd.pinned.checked.prog.funcs[f]? = some fn) :
    false = Tryd.pinned.checked.prog.looks [] ∧ ∀ (j : Nat) t, fn.params[j]? = some t → Tryd.pinned.checked.prog.wantsStandIn t = false := by
  obtain rfl : f = 5 := Option.some.inj ((show Tryd.prog.funcNamed "mapsheets/mapsheetslaw03.DigestHex" = some 5 by kernel_rfl).symm.trans hf) |>.symm
  obtain rfl : fn = Tryd.f5 := (Option.some.inj (Tryd.func5.symm.trans hfn)).symm
  refine ⟨by kernel_rfl, fun j t ht => ?_⟩
  rw [Tryd.params5] at ht
  have hm : t ∈ [24] := by simpa using Array.mem_of_getElem? ht
  have hall : ([24].all fun u => !Tryd.prog.wantsStandIn u) = true := by kernel_rfl
  exact (show Tryd.prog.wantsStandIn t = false by simpa using List.all_eq_true.1 hall t hm)
theorem card : Rows.DigestHexCardSaid :=
  Claim7.holds_tied_plain_at .later [] _ _ _ _ said (fun _ h => by cases h) (by kernel_rfl) (fun _ h => by cases h) digestHex_row_tie rfl ⟨rfl, rfl⟩ (by kernel_rfl) rfl plain (by kernel_rfl)
end Go.Proofs.YtnlkpnpjmbpgbaaDoor.DigestHex
