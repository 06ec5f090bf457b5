/- WireLists returns true for every slice of bytes, list of integers and limit that hold together at most 1048576 values: PutList and List answer as the reference does. One condition: that bound. -/
import Derived.Test.YtlpljhaogmfnkaaWOut
import Derived.Test.YtlpljhaogmfnkaaWArgs
namespace Go.Proofs.Ytlpljhaogmfnkaa.WireLists
open Go.ChangeShapes Go.WideShapes Go.ChangeAt Go.RowKit
open Go.ChangeMaps (open_string shut_string)
open Go.Proofs.Ytlpljhaogmfnkaa.Wire
set_option linter.unusedVariables false
set_option linter.unusedSimpArgs false

set_option maxRecDepth 100000 in
set_option maxHeartbeats 1000000 in
theorem walk (a0 : Option Addr) (len0 cap0 : Nat) (z0 : List Int) (a1 : Option Addr) (len1 cap1 : Nat) (z1 : List Int) (a2 : Int) (w : World) (s0 : Sh w w.heap.size .u8 a0 len0 z0) (l0 : len0 ≤ cap0) (w0 : ∀ n ∈ z0, (Lit.int .u8 n).wf = true)
    (s1 : Sh w w.heap.size .i64 a1 len1 z1) (l1 : len1 ≤ cap1) (w1 : ∀ n ∈ z1, (Lit.int .i64 n).wf = true) (w2 : (Lit.int .i64 a2).wf = true) (hbk : cap0 + cap1 ≤ 1048576) :
    Calls Try.prog 5 #[.slice a0 len0 cap0, .slice a1 len1 cap1, .int .i64 a2] w fun e w' => e = .returned (.bool true) ∧ Bl w w' := by
  have hb : byts z0 := fun x hx => wf_u8 (w0 x hx)
  have hok : oks z1 := fun x hx => wf_i64 (w1 x hx)
  have hN := wf_i64 w2
  have hl := s0.len
  have hl1 := s1.len
  have c1 := hid (list2 a0 len0 cap0 z0 a2 w s0 hb l0 (by omega))
  have c2 := hid (fun w1 (h : Bl w w1) => rlist2 a0 len0 cap0 z0 a2 w1 (s0.bl h) hb l0 (by omega))
  have c3 := hid (fun w1 (h : Bl w w1) => putList a0 len0 cap0 z0 a1 len1 cap1 z1 w1 (s0.bl h) (s1.bl h) hok l0 (by omega))
  have c4 := hid (fun w1 (h : Bl w w1) => rputList a0 len0 cap0 z0 a1 len1 cap1 z1 w1 (s0.bl h) (s1.bl h) hok (by omega))
  have he := enc_len10 len1
  have hes := encs_len z1
  have hz : Hid ((z0 ++ enc len1 ++ encs z1).length ≤ 140737488355328) := hid (by rw [List.length_append, List.length_append]; omega)
  have hll := hid (ll_len hb a2)
  have hln : Hid (z0.length ≤ 1048576) := hid (by omega)
  clear hl he hes hl1
  generalize z0 ++ enc len1 ++ encs z1 = zs at *
  generalize ll z0 a2 = L at *
  generalize lu z0 a2 = U at *
  generalize le z0 a2 = E at *
  go_enter Try.func5, Try.ntmps5
  go_wp2_with fail
  refine c1.out.mono ?_
  rintro e w1 ⟨A1, c1, rfl, hs1, hb1⟩
  go_wp2_with fail
  refine (c2.out _ hb1).mono ?_
  rintro e w2 ⟨A2, c2, rfl, hs2, hb2'⟩
  have hs1' := hs1.bl hb2'
  have hb2 := hb1.trans hb2'
  clear hs1 hb1 hb2'
  go_wp2_with fail
  refine (c3.out _ hb2).mono ?_
  rintro e w3 ⟨A3, c3, rfl, hs3, hc3, hb3'⟩
  have hr1 := hs1'.bl hb3'
  have hr2 := hs2.bl hb3'
  have hb3 := hb2.trans hb3'
  clear hs1' hs2 hb2 hb3'
  go_wp2_with fail
  refine (c4.out _ hb3).mono ?_
  rintro e w4 ⟨A4, c4, rfl, hs4, hc4, hb4'⟩
  have hs3' := hs3.bl hb4'
  have hr1' := hr1.bl hb4'
  have hr2' := hr2.bl hb4'
  have hb4 := hb3.trans hb4'
  clear hs3 hr1 hr2 hb3 hb4'
  go_wp2_with fail
  refine (same2 zs A3 A4 _ _ _ hz.out hs3' hs4).mono ?_
  rintro e w5 ⟨rfl, hq⟩
  have hq5 := (Bl.refl _).q hq
  have q1 := hr1'.bl hq5
  have q2 := hr2'.bl hq5
  have hb5 := hb4.trans hq5
  clear hq hq5 hr1' hr2' hb4 hs3' hs4
  go_wp2_with fail
  refine (sameI2 L A1 A2 _ _ _ (by have := hll.out; have := hln.out; omega) q1 q2).mono ?_
  rintro e w6 ⟨rfl, hq⟩
  have hb6 := hb5.q hq
  clear hq hb5 q1 q2
  go_wp2_with fail
  refine (awake_any _).mono ?_
  rintro e w7 ⟨rfl, hb7⟩
  have hb8 := hb6.trans hb7
  clear hb6 hb7
  go_wp2_with fail
  go_ret
  exact ⟨rfl, hb8⟩

set_option maxRecDepth 100000 in
theorem lifted (os : Os) (started : os.Started) (H : Type) (enc : TypeId × Value → H) (F : Stop.Interp) :
    ReturnsInHanded {} Try.checked os 5 .any ((Rows.OpenSpec.upto Rows.wireListsSpec).pre6 enc Try.prog Try.f5 Rows.wireListsUptoRow.domain false) (((Rows.OpenSpec.upto Rows.wireListsSpec).at F).post enc Try.prog Try.f5 false true false false) := by
  refine returnsInHanded_of_cond (C := Try.checked) (s := Rows.OpenSpec.upto Rows.wireListsSpec) (k := Rows.uptoSmall) rfl own started (by kernel_rfl) Try.func5
    (OpenSpec.witness (enc := enc) (C := Try.checked) (s := Rows.OpenSpec.upto Rows.wireListsSpec) (k := Rows.uptoSmall) rfl false ⟨#[], #[.slice none 0 0, .slice none 0 0, .int .i64 0], []⟩ 8 (by kernel_rfl) (by kernel_rfl) (by kernel_rfl)
      (x := ([.nil, .nil, .lit (.int .i64 0)], [], [])) (by kernel_rfl) rfl (by kernel_rfl)) ?_
  intro W base args ds gs before hval0 hW _ hk _
  have hval : ∀ (j : Nat) t v, Try.f5.params[j]? = some t → args[j]? = some v → Value.okWide Try.prog W .any base t v := hval0
  have hW' := hW
  obtain ⟨p, q, hA0, hV, rfl, hfz, hnd⟩ := hW
  have hA : DataW.TrodAll enc Try.prog W 0 (fun _ => true) true Try.f5.params.toList args.toList ds p := hA0
  rw [Try.params5] at hA hval
  obtain ⟨v0, vs0, d0, ds0, p0, q0, hargs, rfl, rfl, h0, r0⟩ := trodAll_cons hA
  obtain ⟨v1, vs1, d1, ds1, p1, q1, rfl, rfl, rfl, h1, r1⟩ := trodAll_cons r0
  obtain ⟨v2, vs2, d2, ds2, p2, q2, rfl, rfl, rfl, h2, r2⟩ := trodAll_cons r1
  obtain ⟨rfl, rfl, rfl⟩ := trodAll_nil r2
  obtain rfl : args = #[v0, v1, v2] := by cases args; simp_all
  obtain ⟨rfl, rfl⟩ := trodVars_none hV
  have k0 := h0
  obtain ⟨a0, len0, cap0, z0, rfl, l0, m0, n0, s0, w0, f0, lt0⟩ := open_row Try.underlying22 Try.underlying5 (by kernel_rfl) (hval 0 22 v0 rfl rfl) h0
  have g0 := bulk_row n0 l0 f0
  have k1 := h1
  obtain ⟨a1, len1, cap1, z1, rfl, l1, m1, n1, s1, w1, f1, lt1⟩ := open_row Try.underlying34 Try.underlying3 (by kernel_rfl) (hval 1 34 v1 rfl rfl) h1
  have g1 := bulk_row n1 l1 f1
  obtain ⟨a2, rfl, rfl, rfl, w2⟩ := open_int Try.underlying3 (hval 2 3 v2 rfl rfl) h2
  have hbk : cap0 + cap1 ≤ 1048576 := by
    have h := of_decide_eq_true hk
    simp only [List.append_nil, List.cons_append, List.nil_append, Rows.uptoBulkAll] at h
    omega
  clear hA0 hval0
  refine (walk a0 len0 cap0 (z0.take len0) a1 len1 cap1 (z1.take len1) a2 W s0 l0 (fun n hn => w0 n (List.mem_of_mem_take hn)) s1 l1 (fun n hn => w1 n (List.mem_of_mem_take hn)) w2 hbk).mono fun e W' ⟨he, bel⟩ => ?_
  subst he
  exact ⟨_, rfl, _, _, _, [], _, [], hW', trodAll_mk1 (shut_bool Try.underlying4 _), (trodAll_cons_mk (Below.trod laidOut (by kernel_rfl) (of_decide_eq_true (by kernel_rfl)) k0 bel lt0) (trodAll_cons_mk (Below.trod laidOut (by kernel_rfl) (of_decide_eq_true (by kernel_rfl)) k1 bel lt1) (trodAll_cons_mk (shut_int Try.underlying3 w2) trodAll_mk0))), rfl, Below.frame bel _, fun h => by cases h⟩

theorem holds : Rows.WireListsUptoSaid :=
  OpenClaim.holds_of_cond 5 Try.f5 rfl rfl rfl rfl rfl rfl rfl ⟨rfl, rfl, rfl, rfl, rfl⟩ rfl rfl rfl rfl rfl (by kernel_rfl) Try.func5 (by kernel_rfl)
    (of_decide_eq_true (by kernel_rfl)) (by unfold Func.isWrapper; first | (rw [if_pos (by decide +kernel)]; kernel_rfl) | (rw [if_neg (by decide +kernel)]; exact ⟨rfl, rfl⟩))
    (fun os started H enc _ F => lifted os started H enc F)
end Go.Proofs.Ytlpljhaogmfnkaa.WireLists
