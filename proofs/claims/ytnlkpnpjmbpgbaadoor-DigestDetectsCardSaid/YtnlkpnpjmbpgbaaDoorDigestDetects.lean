/- DigestDetects returns true for every slice of bytes, place and change: a changed byte of sealed bytes is detected by Open. The table of the program is what its own text lays. No condition beyond the form's own reach. -/
import Derived.Test.YtnlkpnpjmbpgbaaDoorDLaid
namespace Go.Proofs.YtnlkpnpjmbpgbaaDoor.DigestDetects
open Go.ChangeShapes Go.WideShapes Go.ChangeAt Go.RowKit
open Go.ChangeMaps (open_string shut_string)
open Go.Proofs.YtnlkpnpjmbpgbaaDoor.Wire
open Go.Proofs.YtnlkpnpjmbpgbaaDoor.Digest
set_option linter.unusedVariables false
set_option linter.unusedSimpArgs false

theorem set_split {z : List Int} {k : Nat} (hk : k < z.length) (Y : Int) : z = z.take k ++ z.getD k 0 :: z.drop (k + 1) ∧ z.set k Y = z.take k ++ Y :: z.drop (k + 1) := by
  have hg : z.getD k 0 = z[k] := by simp [List.getD, List.getElem?_eq_getElem hk]
  constructor
  · rw [hg, ← List.drop_eq_getElem_cons hk, List.take_append_drop]
  · rw [List.set_eq_take_append_cons_drop, if_pos hk]
theorem changed {z : List Int} (hz : byts z) {k : Nat} (hk : k < z.length + 4) {Y : Int} (hY : 0 ≤ Y ∧ Y ≤ 255) (hne : (isld z).getD k 0 ≠ Y) : oe ((isld z).set k Y) = 6 ∧ oc ((isld z).set k Y) = [] := by
  have hl := isld_len z
  have hl' : ((isld z).set k Y).length = z.length + 4 := by rw [List.length_set, hl]
  have hst : (isld z).take z.length = z := by unfold isld; simp
  refine oe_sum (by omega) (eqb_no fun e => ?_)
  rw [hl', Nat.add_sub_cancel, List.take_set, hst] at e
  by_cases hkn : k < z.length
  · have hs : (isld z).set k Y = z.set k Y ++ ibeb 4 (icrc z) := by unfold isld; rw [List.set_append_left _ _ hkn]
    have hg : (isld z).getD k 0 = z.getD k 0 := by
      unfold isld
      simp only [List.getD]
      rw [List.getElem?_append_left hkn]
    obtain ⟨s1, s2⟩ := set_split hkn Y
    have hb : byts (z.set k Y) := by
      rw [s2]
      intro x hx
      rcases List.mem_append.1 hx with h | h
      · exact byts_take hz k x h
      · rcases List.mem_cons.1 h with rfl | h
        · exact hY
        · exact byts_drop hz (k + 1) x h
    rw [hs, isld] at e
    have e2 := List.append_cancel_left e
    rw [icrc_is hz, icrc_is hb] at e2
    unfold ibeb at e2
    rw [Int.toNat_natCast, Int.toNat_natCast] at e2
    have e3 := beb4_inj (crc_lt _) (crc_lt _) e2
    rw [s2] at e3
    have hzs : crc z = crc (z.take k ++ z.getD k 0 :: z.drop (k + 1)) := congrArg crc s1
    rw [hzs] at e3
    have hx := byts_at hz k
    exact crc_detects (byts_take hz k) (byts_drop hz (k + 1)) hY hx (fun h => hne (by rw [hg, h])) e3
  · rw [List.set_eq_of_length_le (by omega)] at e
    apply hne
    rw [e]
    have h2 : k < ((isld z).set k Y).length := by omega
    have : ((isld z).set k Y).getD k 0 = Y := by simp [List.getD, List.getElem?_set_self (show k < (isld z).length by omega)]
    exact this

set_option maxRecDepth 100000 in
set_option maxHeartbeats 1000000 in
theorem walk (a0 : Option Addr) (len0 cap0 : Nat) (z0 : List Int) (a1 : Int) (a2 : Int) (w : World) (s0 : Sh w w.heap.size .u8 a0 len0 z0) (l0 : len0 ≤ cap0) (w0 : ∀ n ∈ z0, (Lit.int .u8 n).wf = true) (b0 : cap0 ≤ 140737488351232) (w1 : (Lit.int .i64 a1).wf = true) (w2 : (Lit.int .u8 a2).wf = true) (hT : Tab w) :
    Calls Tryd.prog 9 #[.slice a0 len0 cap0, .int .i64 a1, .int .u8 a2] w fun e w' => e = .returned (.bool true) ∧ Bl w w' := by
  have hb : byts z0 := fun x hx => wf_u8 (w0 x hx)
  have hN := wf_i64 w1
  have hc := wf_u8 w2
  have hl := s0.len
  have hlen : (isld z0).length = len0 + 4 := by rw [isld_len, hl]
  have c1 := hid ((Seal_any a0 len0 cap0 z0 w s0 hb hT (by omega)).mono fun _ _ g => g.at hlen)
  have c7 := hid (fun w1 (h : Bl w w1) => awake_any w1 (hT.bl h))
  clear w0 w1 w2
  by_cases h1 : a1 < 0
  · clear hl hlen
    go_enter Tryd.func9, Tryd.ntmps9
    go_wp2_with fail
    refine c1.out.mono ?_
    rintro e w1 ⟨A1, c1', rfl, hs1, hc1, hb1⟩
    go_wp2_with fail
    refine (c7.out _ hb1).mono ?_
    rintro e w7 ⟨rfl, hb7⟩
    go_wp2_with fail
    go_ret
    exact ⟨rfl, hb1.trans hb7⟩
  by_cases h2 : (len0 : Int) + 4 ≤ a1
  · clear hl hlen
    go_enter Tryd.func9, Tryd.ntmps9
    go_wp2_with fail
    refine c1.out.mono ?_
    rintro e w1 ⟨A1, c1', rfl, hs1, hc1, hb1⟩
    go_wp2_with fail
    refine (c7.out _ hb1).mono ?_
    rintro e w7 ⟨rfl, hb7⟩
    go_wp2_with fail
    go_ret
    exact ⟨rfl, hb1.trans hb7⟩
  by_cases h3 : a2 = 0
  · subst h3
    clear hl hlen
    go_enter Tryd.func9, Tryd.ntmps9
    go_wp2_with fail
    refine c1.out.mono ?_
    rintro e w1 ⟨A1, c1', rfl, hs1, hc1, hb1⟩
    go_wp2_with fail
    refine (c7.out _ hb1).mono ?_
    rintro e w7 ⟨rfl, hb7⟩
    go_wp2_with fail
    go_ret
    exact ⟨rfl, hb1.trans hb7⟩
  obtain ⟨k, rfl⟩ : ∃ k : Nat, a1 = k := ⟨a1.toNat, by omega⟩
  have hk : k < len0 + 4 := by omega
  have hsb := isld_b hb
  have hx := byts_at hsb k
  have r1 := u8_xor ((isld z0).getD k 0) a2 hx.1 (by omega) hc.1 (by omega)
  have hy : ((isld z0).getD k 0).toNat ^^^ a2.toNat < 256 := Nat.xor_lt_two_pow (n := 8) (by omega) (by omega)
  have hyn : (isld z0).getD k 0 ≠ ((((isld z0).getD k 0).toNat ^^^ a2.toNat : Nat) : Int) := by
    intro e
    have e1 : ((isld z0).getD k 0).toNat ^^^ a2.toNat = ((isld z0).getD k 0).toNat := by omega
    have e2 := congrArg (fun t => ((isld z0).getD k 0).toNat ^^^ t) e1
    simp only [← Nat.xor_assoc, Nat.xor_self, Nat.zero_xor] at e2
    exact h3 (by omega)
  have fin := changed hb (by omega) (Y := ((((isld z0).getD k 0).toNat ^^^ a2.toNat : Nat) : Int)) (by omega) hyn
  have hyb : byts ((isld z0).set k ((((isld z0).getD k 0).toNat ^^^ a2.toNat : Nat) : Int)) := by
    intro x hx
    rcases List.mem_or_eq_of_mem_set hx with h | h
    · exact hsb x h
    · omega
  have c2 := hid (fun w1 A c (hS : Sh w1 w1.heap.size .u8 A (len0 + 4) ((isld z0).set k ((((isld z0).getD k 0).toNat ^^^ a2.toNat : Nat) : Int))) (hc : len0 + 4 ≤ c) (h : Bl w w1) => Open_any A (len0 + 4) c _ w1 hS hyb (hT.bl h) hc (by omega))
  rw [fin.1, fin.2] at c2
  have HL := hid hlen
  clear hyn fin hyb hsb hb hl hlen
  generalize ((((isld z0).getD k 0).toNat ^^^ a2.toNat : Nat) : Int) = Y at *
  generalize hX : (isld z0).getD k 0 = X at *
  have HX := hid hX
  clear hX
  generalize isld z0 = S at *
  have ik0 : (0 : Int) ≤ (k : Int) := by omega
  have t3 : (a2 == 0) = false := by simpa using h3
  go_enter Tryd.func9, Tryd.ntmps9
  go_wp2_with fail
  refine c1.out.mono ?_
  rintro e w1 ⟨A1, c1', rfl, hs1, hc1, hb1⟩
  go_wp2_with (at_builtin; refine wpList_app_own _ rfl (.tmp 32) (.tmp 33) _ rfl el8 (B := w.heap.size) (xs := []) rfl (Ow.none_ w1 _ _ _) rfl hs1 (by omega) (by omega) hb1.size ?_; intro A2 c2' w2 ho2 hb2; simp only [List.nil_append, Nat.zero_add] at ho2; obtain ⟨g, rfl, hg⟩ := ho2.form (by omega); have q1 := ho2.cellAt hk; rw [HX.out] at q1; have q2 := ho2.free k)
  have ho3 := ho2.set k Y
  have hb3 : Bl w (w2.setCell ⟨g, k, none⟩ (.int .u8 Y)) := Below.setCell (Below.trans hb1 hb2) hg _
  have hs3 := ho3.sh
  have hc3 := ow_cap ho3
  clear q1 q2 ho2 ho3 hb2
  generalize w2.setCell ⟨g, k, none⟩ (.int .u8 Y) = w3 at *
  refine (c2.out _ _ _ hs3 hc3 hb3).mono ?_
  rintro e w4 ⟨A4, c4', rfl, hs4, hc4, hb4⟩
  have hb14 := hb3.trans hb4
  clear hs3 hb3 hb4 hs4 hc4
  go_wp2_with fail
  refine (c7.out _ hb14).mono ?_
  rintro e w7 ⟨rfl, hb7⟩
  go_wp2_with fail
  go_ret
  exact ⟨rfl, hb14.trans hb7⟩

set_option maxRecDepth 100000 in
theorem contract (H : Type) (enc : TypeId × Value → H) (W : World) (base : Nat) (args : Array Value) (ds gs : List (DataW H)) (before : List MemPlace)
    (hval0 : ∀ (j : Nat) t v, Tryd.f9.params[j]? = some t → args[j]? = some v → Value.okWide Tryd.prog W .any base t v)
    (hW : DataW.Whole enc Tryd.prog Tryd.f9.params.toList Rows.digestDetectsSpec.vars false W args.toList ds gs before) (hsz0 : (DataW.weightsEach Tryd.prog (Tryd.f9.params.toList ++ Rows.digestDetectsSpec.plain.varTypes Tryd.prog) (ds ++ gs)).all (· ≤ reachBytes) = true) (hL : laidMetH Tryd.prog Rows.digestDetectsRow.laid W) :
    Calls Tryd.prog 9 args W fun e W' => ∃ v, e = .returned v ∧ Rows.digestDetectsSpec.post enc Tryd.prog Tryd.f9 false true false false W args v W' := by
  have hsz := hsz0
  have hval : ∀ (j : Nat) t v, Tryd.f9.params[j]? = some t → args[j]? = some v → Value.okWide Tryd.prog W .any base t v := hval0
  have hW' := hW
  obtain ⟨p, q, hA0, hV, rfl, hfz, hnd⟩ := hW
  have hA : DataW.TrodAll enc Tryd.prog W 0 (fun _ => true) true Tryd.f9.params.toList args.toList ds p := hA0
  rw [Tryd.params9] at hA hval hsz
  obtain ⟨v0, vs0, d0, ds0, p0, q0, hargs, rfl, rfl, h0, r0⟩ := trodAll_cons hA
  obtain ⟨v1, vs1, d1, ds1, p1, q1, rfl, rfl, rfl, h1, r1⟩ := trodAll_cons r0
  obtain ⟨v2, vs2, d2, ds2, p2, q2, rfl, rfl, rfl, h2, r2⟩ := trodAll_cons r1
  obtain ⟨rfl, rfl, rfl⟩ := trodAll_nil r2
  obtain rfl : args = #[v0, v1, v2] := by cases args; simp_all
  obtain ⟨rfl, rfl⟩ := trodVars_none hV
  have k0 := h0
  obtain ⟨a0, len0, cap0, z0, rfl, l0, m0, n0, s0, w0, f0, lt0⟩ := open_row Tryd.underlying22 Tryd.underlying5 (by kernel_rfl) (hval 0 22 v0 rfl rfl) h0
  have b0 := reach_row hsz (j := 0) (t := 22) (e := 5) 1 rfl rfl Tryd.underlying22 (by kernel_rfl) n0 l0 f0
  obtain ⟨a1, rfl, rfl, rfl, w1⟩ := open_int Tryd.underlying3 (hval 1 3 v1 rfl rfl) h1
  obtain ⟨a2, rfl, rfl, rfl, w2⟩ := open_int Tryd.underlying5 (hval 2 5 v2 rfl rfl) h2
  clear hA0 hval0
  refine (walk a0 len0 cap0 (z0.take len0) a1 a2 W s0 l0 (fun n hn => w0 n (List.mem_of_mem_take hn)) (by simpa using b0) w1 w2 (table hL)).mono fun e W' ⟨he, bel⟩ => ?_
  subst he
  exact ⟨_, rfl, _, _, _, [], _, [], hW', trodAll_mk1 (shut_bool Tryd.underlying4 _), (trodAll_cons_mk (Below.trod laidOut (by kernel_rfl) (of_decide_eq_true (by kernel_rfl)) k0 bel lt0) (trodAll_cons_mk (shut_int Tryd.underlying3 w1) (trodAll_cons_mk (shut_int Tryd.underlying5 w2) trodAll_mk0))), rfl, Below.frame bel _, fun h => by cases h⟩

theorem laid_met (os : Os) : laidMet Tryd.prog Rows.digestDetectsRow.laid ((laidWorld os).forCall (fun _ _ => 0) ⟨#[], #[.slice none 0 0, .int .i64 0, .int .u8 0], []⟩).memory :=
  laidMet_of_run' 8 (by kernel_rfl) (by kernel_rfl)
theorem reads (os : Os) {H : Type} (enc : TypeId × Value → H) : ∃ places, DataW.whole enc Tryd.prog ((laidWorld os).forCall (fun _ _ => 0) ⟨#[], #[.slice none 0 0, .int .i64 0, .int .u8 0], []⟩).memory Tryd.f9.params.toList Rows.digestDetectsSpec.vars false (#[.slice none 0 0, .int .i64 0, .int .u8 0] : Array Value).toList 8 = some ([.nil, .lit (.int .i64 0), .lit (.int .u8 0)], [], places) :=
  ⟨[], by kernel_rfl⟩
set_option maxRecDepth 100000 in
theorem lifted (os : Os) (started : os.Started) (H : Type) (enc : TypeId × Value → H) (F : Stop.Interp) :
    ReturnsInHanded {} Tryd.checked os 9 .any ((OpenSpec.ofChange Rows.digestDetectsSpec).preRow enc Tryd.prog Tryd.f9 Rows.digestDetectsRow.domain false Rows.digestDetectsRow.laid) (((OpenSpec.ofChange Rows.digestDetectsSpec).at F).post enc Tryd.prog Tryd.f9 false true false false) := by
  obtain ⟨places, hx⟩ := reads os enc
  refine returnsInHanded_of_row (C := Tryd.checked) (s := OpenSpec.ofChange Rows.digestDetectsSpec) own started (by kernel_rfl) Tryd.func9
    (witness_row_at (enc := enc) (C := Tryd.checked) false (laidWorld os) #[.slice none 0 0, .int .i64 0, .int .u8 0] rfl (by kernel_rfl) (by kernel_rfl) (by kernel_rfl)
      (OpenSpec.preRow_of_cond 8 hx (by kernel_rfl) (fun k hk => by cases hk) (by kernel_rfl) (laid_met os))) ?_
  intro W base args ds gs before hval hW _ hcond hsz hL _ _
  exact contract H enc W base args ds gs before hval hW hsz hL
theorem said : Rows.DigestDetectsSaid :=
  OpenClaim.holds_of_cond 9 Tryd.f9 rfl rfl rfl rfl rfl rfl rfl ⟨rfl, rfl, rfl, rfl, rfl⟩ rfl rfl rfl rfl rfl (by kernel_rfl) Tryd.func9 (by kernel_rfl)
    (of_decide_eq_true (by kernel_rfl)) (by unfold Func.isWrapper; first | (rw [if_pos (by decide +kernel)]; kernel_rfl) | (rw [if_neg (by decide +kernel)]; exact ⟨rfl, rfl⟩))
    (fun os started H enc _ F => by rw [OpenClaim.pre_eq_preRow]; exact lifted os started H enc F)
theorem plain (f : FuncId) (fn : Func) (hf : Tryd.pinned.checked.prog.funcNamed "mapsheets/mapsheetslaw03.DigestDetects" = some f) (hfn : Tryd.pinned.checked.prog.funcs[f]? = some fn) :
    false = Tryd.pinned.checked.prog.looks [] ∧ ∀ (j : Nat) t, fn.params[j]? = some t → Tryd.pinned.checked.prog.wantsStandIn t = false := by
  obtain rfl : f = 9 := Option.some.inj ((show Tryd.prog.funcNamed "mapsheets/mapsheetslaw03.DigestDetects" = some 9 by kernel_rfl).symm.trans hf) |>.symm
  obtain rfl : fn = Tryd.f9 := (Option.some.inj (Tryd.func9.symm.trans hfn)).symm
  refine ⟨by kernel_rfl, fun j t ht => ?_⟩
  rw [Tryd.params9] at ht
  have hm : t ∈ [22, 3, 5] := by simpa using Array.mem_of_getElem? ht
  have hall : ([22, 3, 5].all fun u => !Tryd.prog.wantsStandIn u) = true := by kernel_rfl
  exact (show Tryd.prog.wantsStandIn t = false by simpa using List.all_eq_true.1 hall t hm)
theorem card : Rows.DigestDetectsCardSaid :=
  Claim7.holds_tied_plain_at .later [] _ _ _ _ said (fun _ h => by cases h) (by kernel_rfl) (fun _ h => by cases h) digestDetects_row_tie rfl ⟨rfl, rfl⟩ (by kernel_rfl) rfl plain (by kernel_rfl)
end Go.Proofs.YtnlkpnpjmbpgbaaDoor.DigestDetects
