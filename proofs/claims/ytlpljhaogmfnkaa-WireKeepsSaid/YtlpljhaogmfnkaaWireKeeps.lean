/- WireKeeps returns true for every slice of bytes, integer, string, list of integers and number: the bytes behind the length are not changed, and the result begins with the argument. No condition. -/
import Derived.Test.YtlpljhaogmfnkaaWOut
import Derived.Test.YtlpljhaogmfnkaaWArgs
namespace Go.Proofs.Ytlpljhaogmfnkaa.WireKeeps
open Go.ChangeShapes Go.WideShapes Go.ChangeAt Go.RowKit
open Go.ChangeMaps (open_string shut_string)
open Go.Proofs.Ytlpljhaogmfnkaa.Wire
set_option linter.unusedVariables false
set_option linter.unusedSimpArgs false

set_option maxRecDepth 100000 in
set_option maxHeartbeats 4000000 in
theorem walk (a0 : Option Addr) (len0 cap0 : Nat) (z0 : List Int) (a1 : Int) (a2 : ByteArray) (a3 : Option Addr) (len3 cap3 : Nat) (z3 : List Int) (a4 : Int) (w : World) (s0 : Sh w w.heap.size .u8 a0 len0 z0) (l0 : len0 ≤ cap0) (w0 : ∀ n ∈ z0, (Lit.int .u8 n).wf = true) (w1 : (Lit.int .i64 a1).wf = true) (s3 : Sh w w.heap.size .i64 a3 len3 z3) (l3 : len3 ≤ cap3) (w3 : ∀ n ∈ z3, (Lit.int .i64 n).wf = true) (w4 : (Lit.int .u8 a4).wf = true) :
    Calls Try.prog 10 #[.slice a0 len0 cap0, .int .i64 a1, .string a2, .slice a3 len3 cap3, .int .u8 a4] w fun e w' => e = .returned (.bool true) ∧ Bl w w' := by
  have hN := wf_i64 w1
  have hK := wf_u8 w4
  have hok : oks z3 := fun x hx => wf_i64 (w3 x hx)
  have hl0 := s0.len
  have hl3 := s3.len
  clear w0 w1 w3 w4
  by_cases hb : 1000 < len0
  · go_enter Try.func10, Try.ntmps10
    go_wp2_with fail
    refine (awake_any _).mono ?_
    rintro e wz ⟨rfl, hz⟩
    go_wp2_with fail
    go_ret
    exact ⟨rfl, hz⟩
  by_cases hs : 1000 < a2.size
  · go_enter Try.func10, Try.ntmps10
    go_wp2_with fail
    refine (awake_any _).mono ?_
    rintro e wz ⟨rfl, hz⟩
    go_wp2_with fail
    go_ret
    exact ⟨rfl, hz⟩
  by_cases hl : 200 < len3
  · go_enter Try.func10, Try.ntmps10
    go_wp2_with fail
    refine (awake_any _).mono ?_
    rintro e wz ⟨rfl, hz⟩
    go_wp2_with fail
    go_ret
    exact ⟨rfl, hz⟩
  obtain ⟨at_, rfl⟩ := Int.eq_ofNat_of_zero_le hK.1
  have hn0 : len0 ≤ 1000 := by omega
  have hn2 : a2.size ≤ 1000 := by omega
  have hn3 : len3 ≤ 200 := by omega
  -- how many bytes are kept
  obtain ⟨k, hk⟩ : ∃ k : Nat, k = if 0 < len0 then at_ % len0 else 0 := ⟨_, rfl⟩
  have hkl : k ≤ len0 := by
    rw [hk]
    split
    · exact Nat.le_of_lt (Nat.mod_lt _ ‹_›)
    · omega
  have e1 := enc_len a1
  have e2 := enc_len a2.size
  have e3 := enc_len len3
  have b3 := encs_len z3
  -- the contracts, in every world behind the one in which the copy was made
  have p1 : Hid (∀ (wo w1 : World) (A : Option Addr) (c : Nat), Sh wo wo.heap.size .u8 A len0 z0 → len0 ≤ c → Bl wo w1 → Calls Try.prog 14 #[.slice A k c, .int .i64 a1] w1 (Out2 w1 (z0.take k ++ enc a1))) :=
    hid (fun wo w1 A c h hc hbl => putInt A k c (z0.take k) a1 w1 ((h.bl hbl).take hkl) hN.1 hN.2 (by omega) (by omega))
  have p2 : Hid (∀ (wo w1 : World) (A : Option Addr) (c : Nat), Sh wo wo.heap.size .u8 A len0 z0 → len0 ≤ c → Bl wo w1 → Calls Try.prog 19 #[.slice A k c, .string a2] w1 (Out2 w1 (z0.take k ++ (enc a2.size ++ sb a2)))) :=
    hid (fun wo w1 A c h hc hbl => by have := putText A k c (z0.take k) a2 w1 ((h.bl hbl).take hkl) (by omega) (by omega); rwa [List.append_assoc] at this)
  have p3 : Hid (∀ (w1 : World) (wo : World) (A : Option Addr) (c : Nat), Sh wo wo.heap.size .u8 A len0 z0 → len0 ≤ c → Bl wo w1 → Bl w w1 → Calls Try.prog 23 #[.slice A k c, .slice a3 len3 cap3] w1 (Out2 w1 (z0.take k ++ (enc len3 ++ encs z3)))) :=
    hid (fun w1 wo A c h hc hbl hw => by have := putList A k c (z0.take k) a3 len3 cap3 z3 w1 ((h.bl hbl).take hkl) (s3.bl hw) hok (by omega) (by omega); rwa [List.append_assoc] at this)
  have g1 : 0 < (enc a1).length := by omega
  have g2 : 0 < (enc a2.size ++ sb a2).length := by rw [List.length_append]; omega
  have g3 : 0 < (enc len3 ++ encs z3).length := by rw [List.length_append]; omega
  have g1' : (enc a1).length ≤ 100000 := by omega
  have g2' : (enc a2.size ++ sb a2).length ≤ 100000 := by rw [List.length_append, sb_len]; omega
  have g3' : (enc len3 ++ encs z3).length ≤ 100000 := by rw [List.length_append]; omega
  clear e1 e2 e3 b3 hok hl3 hN s3
  generalize enc a1 = L1 at *
  generalize enc a2.size ++ sb a2 = L2 at *
  generalize enc len3 ++ encs z3 = L3 at *
  have y1 : (z0.take k ++ L1).length = k + L1.length := by rw [List.length_append, List.length_take]; omega
  have y2 : (z0.take k ++ L2).length = k + L2.length := by rw [List.length_append, List.length_take]; omega
  have y3 : (z0.take k ++ L3).length = k + L3.length := by rw [List.length_append, List.length_take]; omega
  -- the beginning of what was put is the beginning of the argument
  have q : Hid (∀ (L : List Int) (w1 w2 : World) (A : Option Addr) (m c : Nat), (z0.take k ++ L).length = m → Sh w1 w1.heap.size .u8 A m (z0.take k ++ L) → Bl w1 w2 → Bl w w2 → Calls Try.prog 13 #[.slice A k c, .slice a0 k cap0] w2 fun e w' => e = .returned (.bool true) ∧ Q w2 w') :=
    hid (fun L w1 w2 A m c hm h hb1 hb2 => by
      have hlen : (z0.take k).length = k := by rw [List.length_take]; omega
      have t1 := (h.bl hb1).take (m := k) (by rw [← hm, List.length_append]; omega)
      rw [List.take_left' hlen] at t1
      exact Same_eq A a0 k c cap0 (z0.take k) w2 _ _ t1 ((s0.bl hb2).take hkl) (by omega))
  have qq : Hid (∀ (wo w1 : World) (A : Option Addr) (c : Nat), Sh wo wo.heap.size .u8 A len0 z0 → Bl wo w1 → Bl w w1 → Calls Try.prog 13 #[.slice A len0 c, .slice a0 len0 cap0] w1 fun e w' => e = .returned (.bool true) ∧ Q w1 w') :=
    hid (fun wo w1 A c h h1 h2 => Same_eq A a0 len0 c cap0 z0 w1 _ _ (h.bl h1) (s0.bl h2) (by omega))
  generalize hZ1 : z0.take k ++ L1 = Z1 at *
  generalize hZ2 : z0.take k ++ L2 = Z2 at *
  generalize hZ3 : z0.take k ++ L3 = Z3 at *
  have Q1 := hid (fun w1 w2 A c h => q.out L1 w1 w2 A Z1.length c (by rw [hZ1]) h)
  rw [hZ1] at Q1
  have Q2 := hid (fun w1 w2 A c h => q.out L2 w1 w2 A Z2.length c (by rw [hZ2]) h)
  rw [hZ2] at Q2
  have Q3 := hid (fun w1 w2 A c h => q.out L3 w1 w2 A Z3.length c (by rw [hZ3]) h)
  rw [hZ3] at Q3
  have gx : (k : Int) < (Z1.length : Int) := by omega
  have gy : (k : Int) < (Z2.length : Int) := by omega
  have gz : (k : Int) < (Z3.length : Int) := by omega
  have gk : (0 : Int) ≤ (k : Int) := by omega
  have gb : (k : Int) ≤ (cap0 : Int) := by omega
  have gl : (k : Int) ≤ (len0 : Int) := by omega
  have HK := hid hk
  clear hk q hZ1 hZ2 hZ3 y1 y2 y3 g1 g2 g3 g1' g2' g3' hl0
  by_cases h0 : len0 = 0
  · obtain rfl : k = 0 := by omega
    have t0 : decide ((0 : Int) < (len0 : Int)) = false := by simp; omega
    have t0' : ¬ 0 < len0 := by omega
    clear h0 gk
    go_enter Try.func10, Try.ntmps10
    go_wp2_with (at_builtin; refine wpList_app_own _ rfl (.tmp 30) (.tmp 31) _ rfl el8 rfl (Ow.new w _ _) rfl (s0.alloc (Nat.le_refl _) _) (by omega) (by omega) (by simp) ?_; intro Ao co wo ho hbl)
    have hwo : Bl w wo := ((Below.refl w.heap.size w).alloc (Nat.le_refl _) _).trans hbl
    rw [Nat.zero_add, List.nil_append] at ho
    have hso := ho.sh
    have hco := ow_cap ho
    clear ho hbl
    have hB : Bl wo wo.drew := (Bl.refl wo).drew
    go_region_held3 (fun w' => True) (trivial) (first
      | (go_at_call 14; refine (p1.out wo _ _ _ hso hco (by assumption)).mono ?_; rintro e wx ⟨Ax, cx, rfl, hsx, hcx, hbx⟩; have hB : Bl wo wx := Bl.trans (by assumption) hbx)
      | (go_at_call 19; refine (p2.out wo _ _ _ hso hco (by assumption)).mono ?_; rintro e wy ⟨Ay, cy, rfl, hsy, hcy, hby⟩; have hB : Bl wo wy := Bl.trans (by assumption) hby; have hsx := Sh.bl hsx hby)
      | (go_at_call 23; refine (p3.out _ wo _ _ hso hco (by assumption) (Bl.trans hwo (by assumption))).mono ?_; rintro e wc ⟨Az, cz, rfl, hsz, hcz, hbz⟩; have hB : Bl wo wc := Bl.trans (by assumption) hbz; have hsx := Sh.bl hsx hbz; have hsy := Sh.bl hsy hbz))
    go_wp2_with fail
    have hW : Bl w wc.drew := Bl.trans hwo (Bl.drew (by assumption))
    have hC : Bl wc wc.drew := (Bl.refl wc).drew
    have hB : Bl wo wc := by assumption
    have nx : Z1 ≠ [] := by intro e; rw [e] at gx; simp at gx
    have ux : decide (Z1 = []) = false := decide_eq_false nx
    have vx : decide (Z1.length = 0) = false := decide_eq_false (by omega)
    have ny : Z2 ≠ [] := by intro e; rw [e] at gy; simp at gy
    have uy : decide (Z2 = []) = false := decide_eq_false ny
    have vy : decide (Z2.length = 0) = false := decide_eq_false (by omega)
    have nz : Z3 ≠ [] := by intro e; rw [e] at gz; simp at gz
    have uz : decide (Z3 = []) = false := decide_eq_false nz
    have vz : decide (Z3.length = 0) = false := decide_eq_false (by omega)
    clear p1 p2 p3 hcx hcy hcz hco
    go_region_held3 (fun w' => True) (trivial) (first
      | (go_at_call 13; (with_reducible refine (Q1.out wc _ Ax cx hsx (by assumption) (by assumption)).mono ?_); rintro e wd ⟨rfl, hq⟩; have hW : Bl w wd := Bl.q (by assumption) hq; have hC : Bl wc wd := Bl.q (by assumption) hq)
      | (go_at_call 13; (with_reducible refine (Q2.out wc _ Ay cy hsy (by assumption) (by assumption)).mono ?_); rintro e wd ⟨rfl, hq⟩; have hW : Bl w wd := Bl.q (by assumption) hq; have hC : Bl wc wd := Bl.q (by assumption) hq)
      | (go_at_call 13; (with_reducible refine (Q3.out wc _ Az cz hsz (by assumption) (by assumption)).mono ?_); rintro e wd ⟨rfl, hq⟩; have hW : Bl w wd := Bl.q (by assumption) hq; have hC : Bl wc wd := Bl.q (by assumption) hq))
    go_wp2_with fail
    refine (qq.out wo _ _ _ hso (Bl.trans hB (by assumption)) (by assumption)).mono ?_
    rintro e we ⟨rfl, hq⟩
    have hW : Bl w we := Bl.q (by assumption) hq
    clear hq
    go_wp2_with fail
    refine (awake_any _).mono ?_
    rintro e wz ⟨rfl, hz⟩
    have hend : Bl w wz := Bl.trans hW hz
    go_wp2_with fail
    go_ret
    exact ⟨rfl, hend⟩

  · have h0' : 0 < len0 := by omega
    have hkk : ((at_ : Int) % (len0 : Int)) = (k : Int) := by rw [HK.out, if_pos h0']; rfl
    have t0 : decide ((0 : Int) < (len0 : Int)) = true := by simp; omega
    clear h0
    go_enter Try.func10, Try.ntmps10
    go_wp2_with (at_builtin; refine wpList_app_own _ rfl (.tmp 30) (.tmp 31) _ rfl el8 rfl (Ow.new w _ _) rfl (s0.alloc (Nat.le_refl _) _) (by omega) (by omega) (by simp) ?_; intro Ao co wo ho hbl)
    have hwo : Bl w wo := ((Below.refl w.heap.size w).alloc (Nat.le_refl _) _).trans hbl
    rw [Nat.zero_add, List.nil_append] at ho
    have hso := ho.sh
    have hco := ow_cap ho
    clear ho hbl
    have go1 : (k : Int) ≤ (co : Int) := by omega
    have hB : Bl wo wo.drew := (Bl.refl wo).drew
    go_region_held3 (fun w' => True) (trivial) (first
      | (go_at_call 14; refine (p1.out wo _ _ _ hso hco (by assumption)).mono ?_; rintro e wx ⟨Ax, cx, rfl, hsx, hcx, hbx⟩; have hB : Bl wo wx := Bl.trans (by assumption) hbx)
      | (go_at_call 19; refine (p2.out wo _ _ _ hso hco (by assumption)).mono ?_; rintro e wy ⟨Ay, cy, rfl, hsy, hcy, hby⟩; have hB : Bl wo wy := Bl.trans (by assumption) hby; have hsx := Sh.bl hsx hby)
      | (go_at_call 23; refine (p3.out _ wo _ _ hso hco (by assumption) (Bl.trans hwo (by assumption))).mono ?_; rintro e wc ⟨Az, cz, rfl, hsz, hcz, hbz⟩; have hB : Bl wo wc := Bl.trans (by assumption) hbz; have hsx := Sh.bl hsx hbz; have hsy := Sh.bl hsy hbz))
    go_wp2_with fail
    have hW : Bl w wc.drew := Bl.trans hwo (Bl.drew (by assumption))
    have hC : Bl wc wc.drew := (Bl.refl wc).drew
    have hB : Bl wo wc := by assumption
    have vx : (k : Int) ≤ (cx : Int) := by omega
    have vy : (k : Int) ≤ (cy : Int) := by omega
    have vz : (k : Int) ≤ (cz : Int) := by omega
    have ux : decide (Z1.length ≤ k) = false := by simp; omega
    have uy : decide (Z2.length ≤ k) = false := by simp; omega
    have uz : decide (Z3.length ≤ k) = false := by simp; omega
    clear p1 p2 p3 hcx hcy hcz hco
    go_region_held3 (fun w' => True) (trivial) (first
      | (go_at_call 13; (with_reducible refine (Q1.out wc _ Ax cx hsx (by assumption) (by assumption)).mono ?_); rintro e wd ⟨rfl, hq⟩; have hW : Bl w wd := Bl.q (by assumption) hq; have hC : Bl wc wd := Bl.q (by assumption) hq)
      | (go_at_call 13; (with_reducible refine (Q2.out wc _ Ay cy hsy (by assumption) (by assumption)).mono ?_); rintro e wd ⟨rfl, hq⟩; have hW : Bl w wd := Bl.q (by assumption) hq; have hC : Bl wc wd := Bl.q (by assumption) hq)
      | (go_at_call 13; (with_reducible refine (Q3.out wc _ Az cz hsz (by assumption) (by assumption)).mono ?_); rintro e wd ⟨rfl, hq⟩; have hW : Bl w wd := Bl.q (by assumption) hq; have hC : Bl wc wd := Bl.q (by assumption) hq))
    go_wp2_with fail
    refine (qq.out wo _ _ _ hso (Bl.trans hB (by assumption)) (by assumption)).mono ?_
    rintro e we ⟨rfl, hq⟩
    have hW : Bl w we := Bl.q (by assumption) hq
    clear hq
    go_wp2_with fail
    refine (awake_any _).mono ?_
    rintro e wz ⟨rfl, hz⟩
    have hend : Bl w wz := Bl.trans hW hz
    go_wp2_with fail
    go_ret
    exact ⟨rfl, hend⟩

set_option maxRecDepth 100000 in
theorem lifted (os : Os) (started : os.Started) (H : Type) (enc : TypeId × Value → H) :
    ReturnsInHanded {} Try.checked os 10 .any (Rows.wireKeepsSpec.pre6 enc Try.prog Try.f10 Rows.wireKeepsRow.domain false) (Rows.wireKeepsSpec.post enc Try.prog Try.f10 false true false false) := by
  refine returnsInHanded_of_change (C := Try.checked) own started (by kernel_rfl) Try.func10
    (ChangeSpec.witness6 (enc := enc) (C := Try.checked) false ⟨#[], #[.slice none 0 0, .int .i64 0, .string ByteArray.empty, .slice none 0 0, .int .u8 0], []⟩ 8 (by kernel_rfl) (by kernel_rfl) (by kernel_rfl) (by kernel_rfl)) ?_
  intro W base args ds gs before hval0 hW _ _
  have hval : ∀ (j : Nat) t v, Try.f10.params[j]? = some t → args[j]? = some v → Value.okWide Try.prog W .any base t v := hval0
  have hW' := hW
  obtain ⟨p, q, hA0, hV, rfl, hfz, hnd⟩ := hW
  have hA : DataW.TrodAll enc Try.prog W 0 (fun _ => true) true Try.f10.params.toList args.toList ds p := hA0
  rw [Try.params10] at hA hval
  obtain ⟨v0, vs0, d0, ds0, p0, q0, hargs, rfl, rfl, h0, r0⟩ := trodAll_cons hA
  obtain ⟨v1, vs1, d1, ds1, p1, q1, rfl, rfl, rfl, h1, r1⟩ := trodAll_cons r0
  obtain ⟨v2, vs2, d2, ds2, p2, q2, rfl, rfl, rfl, h2, r2⟩ := trodAll_cons r1
  obtain ⟨v3, vs3, d3, ds3, p3, q3, rfl, rfl, rfl, h3, r3⟩ := trodAll_cons r2
  obtain ⟨v4, vs4, d4, ds4, p4, q4, rfl, rfl, rfl, h4, r4⟩ := trodAll_cons r3
  obtain ⟨rfl, rfl, rfl⟩ := trodAll_nil r4
  obtain rfl : args = #[v0, v1, v2, v3, v4] := by cases args; simp_all
  obtain ⟨rfl, rfl⟩ := trodVars_none hV
  have k0 := h0
  obtain ⟨a0, len0, cap0, z0, rfl, l0, m0, n0, s0, w0, f0, lt0⟩ := open_row Try.underlying22 Try.underlying5 (by kernel_rfl) (hval 0 22 v0 rfl rfl) h0
  obtain ⟨a1, rfl, rfl, rfl, w1⟩ := open_int Try.underlying3 (hval 1 3 v1 rfl rfl) h1
  obtain ⟨a2, rfl, rfl, rfl, w2⟩ := open_string Try.underlying9 (hval 2 9 v2 rfl rfl) h2
  have k3 := h3
  obtain ⟨a3, len3, cap3, z3, rfl, l3, m3, n3, s3, w3, f3, lt3⟩ := open_row Try.underlying34 Try.underlying3 (by kernel_rfl) (hval 3 34 v3 rfl rfl) h3
  obtain ⟨a4, rfl, rfl, rfl, w4⟩ := open_int Try.underlying5 (hval 4 5 v4 rfl rfl) h4
  clear hA0 hval0
  refine (walk a0 len0 cap0 (z0.take len0) a1 a2 a3 len3 cap3 (z3.take len3) a4 W s0 l0 (fun n hn => w0 n (List.mem_of_mem_take hn)) w1 s3 l3 (fun n hn => w3 n (List.mem_of_mem_take hn)) w4).mono fun e W' ⟨he, bel⟩ => ?_
  subst he
  exact ⟨_, rfl, _, _, _, [], _, [], hW', trodAll_mk1 (shut_bool Try.underlying4 _), (trodAll_cons_mk (Below.trod laidOut (by kernel_rfl) (of_decide_eq_true (by kernel_rfl)) k0 bel lt0) (trodAll_cons_mk (shut_int Try.underlying3 w1) (trodAll_cons_mk (shut_string Try.underlying9 w2) (trodAll_cons_mk (Below.trod laidOut (by kernel_rfl) (of_decide_eq_true (by kernel_rfl)) k3 bel lt3) (trodAll_cons_mk (shut_int Try.underlying5 w4) trodAll_mk0))))), rfl, Below.frame bel _, fun h => by cases h⟩

theorem holds : Rows.WireKeepsSaid :=
  OpenClaim.holds_of_wide 10 Try.f10 rfl rfl rfl rfl rfl rfl rfl ⟨rfl, rfl, rfl, rfl, rfl⟩ rfl rfl rfl rfl rfl (by kernel_rfl) Try.func10 (by kernel_rfl)
    (of_decide_eq_true (by kernel_rfl)) (by unfold Func.isWrapper; first | (rw [if_pos (by decide +kernel)]; kernel_rfl) | (rw [if_neg (by decide +kernel)]; exact ⟨rfl, rfl⟩))
    (fun os started H enc _ => lifted os started H enc)
end Go.Proofs.Ytlpljhaogmfnkaa.WireKeeps
