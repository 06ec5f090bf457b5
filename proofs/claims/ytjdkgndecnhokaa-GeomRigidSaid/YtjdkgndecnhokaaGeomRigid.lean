/- GeomRigid returns true for all points: movements and quarter turns change neither areas nor distances nor common points. No condition. -/
import Derived.Test.YtjdkgndecnhokaaEAwake
import Derived.Test.YtjdkgndecnhokaaWArgs
import Derived.ChangeOld
import Derived.Test.YtjdkgndecnhokaaEOps
import Derived.Test.YtjdkgndecnhokaaGBox
namespace Go.Proofs.Ytjdkgndecnhokaa.GeomRigid
open Go.ChangeShapes Go.WideShapes Go.ChangeAt Go.RowKit
open Go.ChangeMaps (open_string shut_string)
open Go.Proofs.Ytjdkgndecnhokaa.Wire
open Go.Proofs.Ytjdkgndecnhokaa.Geom
set_option linter.unusedVariables false
set_option linter.unusedSimpArgs false

def Sm (p : P) : Prop := -1048576 ≤ p.1 ∧ p.1 ≤ 1048576 ∧ -1048576 ≤ p.2 ∧ p.2 ≤ 1048576
instance (p : P) : Decidable (Sm p) := by unfold Sm; infer_instance
def Sms (l : List P) : Prop := ∀ p ∈ l, Sm p
theorem sms5 {a b c d e : P} : Sms [a, b, c, d, e] ↔ Sm a ∧ Sm b ∧ Sm c ∧ Sm d ∧ Sm e := by simp [Sms]
theorem Sm.nr {p : P} (h : Sm p) : Nr p := by unfold Sm at h; unfold Nr; omega
theorem Sm.shift {p v : P} (h : Sm p) (g : Sm v) : Nr (p.1 + v.1, p.2 + v.2) := by unfold Sm at h g; unfold Nr; simp only; omega
theorem Sm.turn {p : P} (h : Sm p) : Nr (-p.2, p.1) := by unfold Sm at h; unfold Nr; simp only; omega
set_option maxRecDepth 100000 in
set_option maxHeartbeats 8000000 in
theorem walk (a0_0 a0_1 : Int) (a1_0 a1_1 : Int) (a2_0 a2_1 : Int) (a3_0 a3_1 : Int) (a4_0 a4_1 : Int) (w : World) (w0_0 : (Lit.int .i64 a0_0).wf = true) (w0_1 : (Lit.int .i64 a0_1).wf = true) (w1_0 : (Lit.int .i64 a1_0).wf = true) (w1_1 : (Lit.int .i64 a1_1).wf = true) (w2_0 : (Lit.int .i64 a2_0).wf = true) (w2_1 : (Lit.int .i64 a2_1).wf = true) (w3_0 : (Lit.int .i64 a3_0).wf = true) (w3_1 : (Lit.int .i64 a3_1).wf = true) (w4_0 : (Lit.int .i64 a4_0).wf = true) (w4_1 : (Lit.int .i64 a4_1).wf = true) :
    Calls Try.prog 9 #[.agg #[.int .i64 a0_0, .int .i64 a0_1], .agg #[.int .i64 a1_0, .int .i64 a1_1], .agg #[.int .i64 a2_0, .int .i64 a2_1], .agg #[.int .i64 a3_0, .int .i64 a3_1], .agg #[.int .i64 a4_0, .int .i64 a4_1]] w fun e w' => e = .returned (.bool true) ∧ Bl w w' := by
  have aw := hid (fun w' => awake_any w')
  have mixed : Try.prog.follows .mixedOrders = true := by kernel_rfl
  go_enter Try.func9, Try.ntmps9
  go_wp2_with fail
  obtain ⟨v0, hv0⟩ : ∃ v0, v0 = (((((w.alloc (.cells #[.int .i64 a0_0, .int .i64 a0_1] 23)).alloc (.cells #[.int .i64 a1_0, .int .i64 a1_1] 23)).alloc (.cells #[.int .i64 a2_0, .int .i64 a2_1] 23)).alloc (.cells #[.int .i64 a3_0, .int .i64 a3_1] 23)).alloc (.cells #[.int .i64 a4_0, .int .i64 a4_1] 23)) := ⟨_, rfl⟩
  have hB0 : Bl w v0 := by rw [hv0]; exact (((((Bl.refl w).alloc _).alloc _).alloc _).alloc _).alloc _
  have X0_0 : BX v0 (w.heap.size) a0_0 a0_1 := by rw [hv0]; exact ((((BX.new (by simp)).al _).al _).al _).al _
  have X1_0 : BX v0 (w.heap.size + 1) a1_0 a1_1 := by rw [hv0]; exact (((BX.new (by simp)).al _).al _).al _
  have X2_0 : BX v0 (w.heap.size + 1 + 1) a2_0 a2_1 := by rw [hv0]; exact ((BX.new (by simp)).al _).al _
  have X3_0 : BX v0 (w.heap.size + 1 + 1 + 1) a3_0 a3_1 := by rw [hv0]; exact (BX.new (by simp)).al _
  have X4_0 : BX v0 (w.heap.size + 1 + 1 + 1 + 1) a4_0 a4_1 := by rw [hv0]; exact BX.new (by simp)
  have HZ := hid (show v0.heap.size = w.heap.size + 1 + 1 + 1 + 1 + 1 by rw [hv0]; simp)
  rw [← hv0]
  clear hv0
  have fX0_0 := X0_0.c0
  have fX0_1 := X0_0.c1
  have fX1_0 := X1_0.c0
  have fX1_1 := X1_0.c1
  have fX2_0 := X2_0.c0
  have fX2_1 := X2_0.c1
  have fX3_0 := X3_0.c0
  have fX3_1 := X3_0.c1
  have fX4_0 := X4_0.c0
  have fX4_1 := X4_0.c1
  obtain ⟨v1, hv1⟩ : ∃ v1, v1 = v0.alloc (.cells #[.int .i64 a0_0, .int .i64 a0_1, .int .i64 a1_0, .int .i64 a1_1, .int .i64 a2_0, .int .i64 a2_1, .int .i64 a3_0, .int .i64 a3_1, .int .i64 a4_0, .int .i64 a4_1] 23) := ⟨_, rfl⟩
  have hS : ShP v1 v1.heap.size (some ⟨w.heap.size + 1 + 1 + 1 + 1 + 1, 0, none⟩) 5 [(a0_0, a0_1), (a1_0, a1_1), (a2_0, a2_1), (a3_0, a3_1), (a4_0, a4_1)] := by rw [hv1]; exact ShP.made v0 23 (0, 0) [(a0_0, a0_1), (a1_0, a1_1), (a2_0, a2_1), (a3_0, a3_1), (a4_0, a4_1)] _ rfl HZ.out.symm
  have b1 : Bl v0 v1 := by rw [hv1]; exact (Bl.refl _).alloc _
  rw [← hv1]
  clear hv1
  clear fX0_0 fX0_1 fX1_0 fX1_1 fX2_0 fX2_1 fX3_0 fX3_1 fX4_0 fX4_1
  have X0_1 := X0_0.bl b1
  have X1_1 := X1_0.bl b1
  have X2_1 := X2_0.bl b1
  have X3_1 := X3_0.bl b1
  have X4_1 := X4_0.bl b1
  have hB1 := Bl.trans hB0 b1
  clear X0_0 X1_0 X2_0 X3_0 X4_0 hB0 b1
  have fX0_0 := X0_1.c0
  have fX0_1 := X0_1.c1
  have fX1_0 := X1_1.c0
  have fX1_1 := X1_1.c1
  have fX2_0 := X2_1.c0
  have fX2_1 := X2_1.c1
  have fX3_0 := X3_1.c0
  have fX3_1 := X3_1.c1
  have fX4_0 := X4_1.c0
  have fX4_1 := X4_1.c1
  obtain ⟨PS, hPS⟩ : ∃ PS : List P, PS = [(a0_0, a0_1), (a1_0, a1_1), (a2_0, a2_1), (a3_0, a3_1), (a4_0, a4_1)] := ⟨_, rfl⟩
  have hPS := hid hPS
  rw [← hPS.out] at hS
  go_loop [12] (fun i => ∃ (k : Nat), i = .int .i64 k ∧ k ≤ 5 ∧ Hid (Sms (PS.take k))) (fun i => 5 - (intOf i).toNat)
  case atStart => exact ⟨0, rfl, by omega, hid (by simp [Sms])⟩
  case round =>
    obtain ⟨k, rfl, hk, hp⟩ := hrel
    have hl := hid hS.len
    by_cases hlt : k < 5
    · obtain ⟨b, o, hbo, _, hcell⟩ := hS.2 (by omega)
      obtain ⟨rfl, rfl, _⟩ : w.heap.size + 1 + 1 + 1 + 1 + 1 = b ∧ 0 = o ∧ True := by cases hbo; exact ⟨rfl, rfl, trivial⟩
      clear hbo
      obtain ⟨hc1, hc2⟩ := hcell k hlt
      have hkl : k < PS.length := by rw [hl.out]; exact hlt
      have hget : PS.getD k (0, 0) = PS[k] := by simp [List.getD, List.getElem?_eq_getElem hkl]
      have hsn := hid (show PS.take (k + 1) = PS.take k ++ [PS.getD k (0, 0)] by rw [List.take_succ_eq_append_getElem hkl, hget])
      clear hcell hget hkl
      generalize PS.getD k (0, 0) = q at *
      obtain ⟨x, y⟩ := q
      simp only [Nat.zero_add] at hc1 hc2
      by_cases hn : Sm (x, y)
      · have hn' : Hid (Sms (PS.take (k + 1))) := hid (by
          rw [hsn.out]
          intro p hpm
          rcases List.mem_append.1 hpm with h | h
          · exact hp.out p h
          · rw [List.mem_singleton.1 h]; exact hn)
        unfold Sm at hn
        obtain ⟨n1, n2, n3, n4⟩ := hn
        simp only at n1 n2 n3 n4
        go_wp2_with fail
        go_round
        case rel => exact ⟨k + 1, by go_num, by omega, hn'⟩
        case measure => simp [intOf]; omega
      · have hcase : x < -1048576 ∨ (¬ x < -1048576 ∧ 1048576 < x) ∨ (¬ x < -1048576 ∧ ¬ 1048576 < x ∧ y < -1048576) ∨ (¬ x < -1048576 ∧ ¬ 1048576 < x ∧ ¬ y < -1048576 ∧ 1048576 < y) := by
          unfold Sm at hn; simp only at hn; omega
        clear hn
        rcases hcase with h1 | ⟨h1, h2⟩ | ⟨h1, h2, h3⟩ | ⟨h1, h2, h3, h4⟩
        all_goals
          go_wp2_with fail
          refine (aw.out _).mono ?_
          rintro e v2 ⟨rfl, b2⟩
          go_wp2_with fail
          go_ret
          exact ⟨rfl, hB1.trans b2⟩
    · obtain rfl : k = 5 := by omega
      have hAll := hid (show Sms PS by have := hp.out; rwa [List.take_of_length_le (by rw [hl.out]; exact Nat.le_refl _)] at this)
      clear hp hl hk hlt hS
      have hsm := sms5.1 (by have := hAll.out; rwa [hPS.out] at this)
      obtain ⟨s0, s1, s2, s3, s4⟩ := hsm
      clear hAll hPS
      have cn' := fun w' => Twice_any (a0_0, a0_1) (a1_0, a1_1) (a2_0, a2_1) w'
      have cm' := fun w' => Meet_any (a0_0, a0_1) (a1_0, a1_1) (a2_0, a2_1) (a3_0, a3_1) w'
      have cs' := fun w' => On_any (a0_0, a0_1) (a1_0, a1_1) (a2_0, a2_1) w'
      have cf' := fun w' => Dist_any (a0_0, a0_1) (a1_0, a1_1) (a2_0, a2_1) w'
      unfold DisOut at cf'
      generalize hN : tw (a0_0, a0_1) (a1_0, a1_1) (a2_0, a2_1) = N at *
      generalize hM : mt (a0_0, a0_1) (a1_0, a1_1) (a2_0, a2_1) (a3_0, a3_1) = M at *
      generalize hS' : on (a0_0, a0_1) (a1_0, a1_1) (a2_0, a2_1) = S at *
      generalize hF : dis (a0_0, a0_1) (a1_0, a1_1) (a2_0, a2_1) = F at *
      obtain ⟨F1, F2⟩ := F
      simp only at cf'
      have cn := hid cn'
      have cm := hid cm'
      have cs := hid cs'
      have cf := hid cf'
      clear cn' cm' cs' cf'
      have HN := hid hN
      have HM := hid hM
      have HS := hid hS'
      have HF := hid hF
      have H0 := hid s0
      have H1 := hid s1
      have H2 := hid s2
      have H3 := hid s3
      have H4 := hid s4
      clear hN hM hS' hF s0 s1 s2 s3 s4
      go_wp2_with fail
      clear fX0_0 fX0_1 fX1_0 fX1_1 fX2_0 fX2_1 fX3_0 fX3_1 fX4_0 fX4_1
      refine wp_region_slots [some 64, some 65, some 66, some 67, some 68, some 69, some 70, some 71, some 72, some 73, some 74, some 75, some 76, some 77, some 78, some 79, some 80, some 16, some 13, some 14, some 15, none] (GA 32 v1 (fun i => ([some (.agg #[.int .i64 a0_0, .int .i64 a0_1]), some (.agg #[.int .i64 a1_0, .int .i64 a1_1]), some (.agg #[.int .i64 a2_0, .int .i64 a2_1]), some (.int .i64 N), some (.agg #[.int .i64 a0_0, .int .i64 a0_1]), some (.agg #[.int .i64 a1_0, .int .i64 a1_1]), some (.agg #[.int .i64 a2_0, .int .i64 a2_1]), some (.agg #[.int .i64 a3_0, .int .i64 a3_1]), some (.int .i64 M), some (.agg #[.int .i64 a0_0, .int .i64 a0_1]), some (.agg #[.int .i64 a1_0, .int .i64 a1_1]), some (.agg #[.int .i64 a2_0, .int .i64 a2_1]), some (.bool S), some (.agg #[.int .i64 a0_0, .int .i64 a0_1]), some (.agg #[.int .i64 a1_0, .int .i64 a1_1]), some (.agg #[.int .i64 a2_0, .int .i64 a2_1]), some (.agg #[.int .i64 F1, .int .i64 F2]), none, some (.int .i64 N), some (.int .i64 M), some (.bool S), none] : List (Option Value)).getD i none) [(17, 21, F1, F2)]) 177 rfl mixed (by kernel_rfl) rfl (by kernel_rfl) (fun f => GA.start _ _ _ _ _ f) ?_ ?_
      · intro hz i l f a' w' hi hj hdep hS hG
        have hlen := hS.len
        have hi' : i < 22 := hi
        clear hi
        obtain rfl | rfl | rfl | rfl | rfl | rfl | rfl | rfl | rfl | rfl | rfl | rfl | rfl | rfl | rfl | rfl | rfl | rfl | rfl | rfl | rfl | rfl : i = 0 ∨ i = 1 ∨ i = 2 ∨ i = 3 ∨ i = 4 ∨ i = 5 ∨ i = 6 ∨ i = 7 ∨ i = 8 ∨ i = 9 ∨ i = 10 ∨ i = 11 ∨ i = 12 ∨ i = 13 ∨ i = 14 ∨ i = 15 ∨ i = 16 ∨ i = 17 ∨ i = 18 ∨ i = 19 ∨ i = 20 ∨ i = 21 := by omega
        · refine wpOp_of rfl rfl (op_load_pt ((hS.old rfl).trans rfl) (X0_1.bl hG.bl) ?_)
          exact ⟨_, hS.put rfl (hz 64 (by decide)) _, hG.const rfl (by simp) (Bl.refl _)⟩
        · refine wpOp_of rfl rfl (op_load_pt ((hS.old rfl).trans rfl) (X1_1.bl hG.bl) ?_)
          exact ⟨_, hS.put rfl (hz 65 (by decide)) _, hG.const rfl (by simp) (Bl.refl _)⟩
        · refine wpOp_of rfl rfl (op_load_pt ((hS.old rfl).trans rfl) (X2_1.bl hG.bl) ?_)
          exact ⟨_, hS.put rfl (hz 66 (by decide)) _, hG.const rfl (by simp) (Bl.refl _)⟩
        · have d0 : l.getD 0 false = true := hdep _ rfl ⟨0, .data⟩ (by simp) rfl
          have d1 : l.getD 1 false = true := hdep _ rfl ⟨1, .data⟩ (by simp) rfl
          have d2 : l.getD 2 false = true := hdep _ rfl ⟨2, .data⟩ (by simp) rfl
          have q0 := (hS.done (i := 0) (d := 64) rfl d0).trans (hG.con 0 _ rfl d0)
          have q1 := (hS.done (i := 1) (d := 65) rfl d1).trans (hG.con 1 _ rfl d1)
          have q2 := (hS.done (i := 2) (d := 66) rfl d2).trans (hG.con 2 _ rfl d2)
          refine wpOp_of rfl rfl (op_call Try.func11 (by kernel_rfl) (by kernel_rfl) (vs := #[.agg #[.int .i64 a0_0, .int .i64 a0_1], .agg #[.int .i64 a1_0, .int .i64 a1_1], .agg #[.int .i64 a2_0, .int .i64 a2_1]]) (by simp only [List.map_toArray, List.map_cons, List.map_nil, q0, q1, q2]) (cn.out _) (fun w'' hb => ?_))
          exact ⟨_, hS.put rfl (hz 67 (by decide)) _, hG.const rfl (by simp) hb⟩
        · refine wpOp_of rfl rfl (op_load_pt ((hS.old rfl).trans rfl) (X0_1.bl hG.bl) ?_)
          exact ⟨_, hS.put rfl (hz 68 (by decide)) _, hG.const rfl (by simp) (Bl.refl _)⟩
        · refine wpOp_of rfl rfl (op_load_pt ((hS.old rfl).trans rfl) (X1_1.bl hG.bl) ?_)
          exact ⟨_, hS.put rfl (hz 69 (by decide)) _, hG.const rfl (by simp) (Bl.refl _)⟩
        · refine wpOp_of rfl rfl (op_load_pt ((hS.old rfl).trans rfl) (X2_1.bl hG.bl) ?_)
          exact ⟨_, hS.put rfl (hz 70 (by decide)) _, hG.const rfl (by simp) (Bl.refl _)⟩
        · refine wpOp_of rfl rfl (op_load_pt ((hS.old rfl).trans rfl) (X3_1.bl hG.bl) ?_)
          exact ⟨_, hS.put rfl (hz 71 (by decide)) _, hG.const rfl (by simp) (Bl.refl _)⟩
        · have d4 : l.getD 4 false = true := hdep _ rfl ⟨4, .data⟩ (by simp) rfl
          have d5 : l.getD 5 false = true := hdep _ rfl ⟨5, .data⟩ (by simp) rfl
          have d6 : l.getD 6 false = true := hdep _ rfl ⟨6, .data⟩ (by simp) rfl
          have d7 : l.getD 7 false = true := hdep _ rfl ⟨7, .data⟩ (by simp) rfl
          have q4 := (hS.done (i := 4) (d := 68) rfl d4).trans (hG.con 4 _ rfl d4)
          have q5 := (hS.done (i := 5) (d := 69) rfl d5).trans (hG.con 5 _ rfl d5)
          have q6 := (hS.done (i := 6) (d := 70) rfl d6).trans (hG.con 6 _ rfl d6)
          have q7 := (hS.done (i := 7) (d := 71) rfl d7).trans (hG.con 7 _ rfl d7)
          refine wpOp_of rfl rfl (op_call Try.func19 (by kernel_rfl) (by kernel_rfl) (vs := #[.agg #[.int .i64 a0_0, .int .i64 a0_1], .agg #[.int .i64 a1_0, .int .i64 a1_1], .agg #[.int .i64 a2_0, .int .i64 a2_1], .agg #[.int .i64 a3_0, .int .i64 a3_1]]) (by simp only [List.map_toArray, List.map_cons, List.map_nil, q4, q5, q6, q7]) (cm.out _) (fun w'' hb => ?_))
          exact ⟨_, hS.put rfl (hz 72 (by decide)) _, hG.const rfl (by simp) hb⟩
        · refine wpOp_of rfl rfl (op_load_pt ((hS.old rfl).trans rfl) (X0_1.bl hG.bl) ?_)
          exact ⟨_, hS.put rfl (hz 73 (by decide)) _, hG.const rfl (by simp) (Bl.refl _)⟩
        · refine wpOp_of rfl rfl (op_load_pt ((hS.old rfl).trans rfl) (X1_1.bl hG.bl) ?_)
          exact ⟨_, hS.put rfl (hz 74 (by decide)) _, hG.const rfl (by simp) (Bl.refl _)⟩
        · refine wpOp_of rfl rfl (op_load_pt ((hS.old rfl).trans rfl) (X2_1.bl hG.bl) ?_)
          exact ⟨_, hS.put rfl (hz 75 (by decide)) _, hG.const rfl (by simp) (Bl.refl _)⟩
        · have d9 : l.getD 9 false = true := hdep _ rfl ⟨9, .data⟩ (by simp) rfl
          have d10 : l.getD 10 false = true := hdep _ rfl ⟨10, .data⟩ (by simp) rfl
          have d11 : l.getD 11 false = true := hdep _ rfl ⟨11, .data⟩ (by simp) rfl
          have q9 := (hS.done (i := 9) (d := 73) rfl d9).trans (hG.con 9 _ rfl d9)
          have q10 := (hS.done (i := 10) (d := 74) rfl d10).trans (hG.con 10 _ rfl d10)
          have q11 := (hS.done (i := 11) (d := 75) rfl d11).trans (hG.con 11 _ rfl d11)
          refine wpOp_of rfl rfl (op_call Try.func15 (by kernel_rfl) (by kernel_rfl) (vs := #[.agg #[.int .i64 a0_0, .int .i64 a0_1], .agg #[.int .i64 a1_0, .int .i64 a1_1], .agg #[.int .i64 a2_0, .int .i64 a2_1]]) (by simp only [List.map_toArray, List.map_cons, List.map_nil, q9, q10, q11]) (cs.out _) (fun w'' hb => ?_))
          exact ⟨_, hS.put rfl (hz 76 (by decide)) _, hG.const rfl (by simp) hb⟩
        · refine wpOp_of rfl rfl (op_load_pt ((hS.old rfl).trans rfl) (X0_1.bl hG.bl) ?_)
          exact ⟨_, hS.put rfl (hz 77 (by decide)) _, hG.const rfl (by simp) (Bl.refl _)⟩
        · refine wpOp_of rfl rfl (op_load_pt ((hS.old rfl).trans rfl) (X1_1.bl hG.bl) ?_)
          exact ⟨_, hS.put rfl (hz 78 (by decide)) _, hG.const rfl (by simp) (Bl.refl _)⟩
        · refine wpOp_of rfl rfl (op_load_pt ((hS.old rfl).trans rfl) (X2_1.bl hG.bl) ?_)
          exact ⟨_, hS.put rfl (hz 79 (by decide)) _, hG.const rfl (by simp) (Bl.refl _)⟩
        · have d13 : l.getD 13 false = true := hdep _ rfl ⟨13, .data⟩ (by simp) rfl
          have d14 : l.getD 14 false = true := hdep _ rfl ⟨14, .data⟩ (by simp) rfl
          have d15 : l.getD 15 false = true := hdep _ rfl ⟨15, .data⟩ (by simp) rfl
          have q13 := (hS.done (i := 13) (d := 77) rfl d13).trans (hG.con 13 _ rfl d13)
          have q14 := (hS.done (i := 14) (d := 78) rfl d14).trans (hG.con 14 _ rfl d14)
          have q15 := (hS.done (i := 15) (d := 79) rfl d15).trans (hG.con 15 _ rfl d15)
          refine wpOp_of rfl rfl (op_call Try.func24 (by kernel_rfl) (by kernel_rfl) (vs := #[.agg #[.int .i64 a0_0, .int .i64 a0_1], .agg #[.int .i64 a1_0, .int .i64 a1_1], .agg #[.int .i64 a2_0, .int .i64 a2_1]]) (by simp only [List.map_toArray, List.map_cons, List.map_nil, q13, q14, q15]) (cf.out _) (fun w'' hb => ?_))
          exact ⟨_, hS.put rfl (hz 80 (by decide)) _, hG.const rfl (by simp) hb⟩
        · refine wpOp_of rfl rfl (op_alloc_fr ?_)
          exact ⟨_, hS.put rfl (hz 16 (by decide)) _, hG.alloc (by rw [hlen]; decide) hj rfl (by simp)⟩
        · have d3 : l.getD 3 false = true := hdep _ rfl ⟨3, .data⟩ (by simp) rfl
          refine wpOp_of rfl rfl (op_assign ((hS.done (i := 3) (d := 67) rfl d3).trans (hG.con 3 _ rfl d3)) ?_)
          exact ⟨_, hS.put rfl (hz 13 (by decide)) _, hG.const rfl (by simp) (Bl.refl _)⟩
        · have d8 : l.getD 8 false = true := hdep _ rfl ⟨8, .data⟩ (by simp) rfl
          refine wpOp_of rfl rfl (op_assign ((hS.done (i := 8) (d := 72) rfl d8).trans (hG.con 8 _ rfl d8)) ?_)
          exact ⟨_, hS.put rfl (hz 14 (by decide)) _, hG.const rfl (by simp) (Bl.refl _)⟩
        · have d12 : l.getD 12 false = true := hdep _ rfl ⟨12, .data⟩ (by simp) rfl
          refine wpOp_of rfl rfl (op_assign ((hS.done (i := 12) (d := 76) rfl d12).trans (hG.con 12 _ rfl d12)) ?_)
          exact ⟨_, hS.put rfl (hz 15 (by decide)) _, hG.const rfl (by simp) (Bl.refl _)⟩
        · have d17 : l.getD 17 false = true := hdep _ rfl ⟨17, .data⟩ (by simp) rfl
          have d16 : l.getD 16 false = true := hdep _ rfl ⟨16, .data⟩ (by simp) rfl
          obtain ⟨g, e, hg, hB⟩ := hG.box (17, 21, F1, F2) (by simp) d17
          refine wpOp_of rfl rfl (op_store_fr ((hS.done (i := 17) (d := 16) rfl d17).trans e) ((hS.done (i := 16) (d := 80) rfl d16).trans (hG.con 16 _ rfl d16)) (show BY _ _ _ _ from hB) ?_)
          exact ⟨_, hS.skip rfl _, hG.store (i := 17) (by simp) (by rw [hlen]; decide) rfl d17 e (by simp)⟩
      · intro l f v2 hG hl
        have e0 := hG.con 0 _ rfl (hl 0 (by decide))
        have e1 := hG.con 1 _ rfl (hl 1 (by decide))
        have e2 := hG.con 2 _ rfl (hl 2 (by decide))
        have e3 := hG.con 3 _ rfl (hl 3 (by decide))
        have e4 := hG.con 4 _ rfl (hl 4 (by decide))
        have e5 := hG.con 5 _ rfl (hl 5 (by decide))
        have e6 := hG.con 6 _ rfl (hl 6 (by decide))
        have e7 := hG.con 7 _ rfl (hl 7 (by decide))
        have e8 := hG.con 8 _ rfl (hl 8 (by decide))
        have e9 := hG.con 9 _ rfl (hl 9 (by decide))
        have e10 := hG.con 10 _ rfl (hl 10 (by decide))
        have e11 := hG.con 11 _ rfl (hl 11 (by decide))
        have e12 := hG.con 12 _ rfl (hl 12 (by decide))
        have e13 := hG.con 13 _ rfl (hl 13 (by decide))
        have e14 := hG.con 14 _ rfl (hl 14 (by decide))
        have e15 := hG.con 15 _ rfl (hl 15 (by decide))
        have e16 := hG.con 16 _ rfl (hl 16 (by decide))
        have e18 := hG.con 18 _ rfl (hl 18 (by decide))
        have e19 := hG.con 19 _ rfl (hl 19 (by decide))
        have e20 := hG.con 20 _ rfl (hl 20 (by decide))
        obtain ⟨ga17, e17, hga17, Ya17⟩ := hG.box (17, 21, F1, F2) (by simp) (hl 17 (by decide))
        simp only [if_pos (hl 21 (by decide))] at Ya17
        have b2 := hG.bl
        simp only [putFrom, Act.put, List.setIfInBounds_toArray, List.set_cons_zero, List.set_cons_succ, e0, e1, e2, e3, e4, e5, e6, e7, e8, e9, e10, e11, e12, e13, e14, e15, e16, e18, e19, e20, e17]
        clear e0 e1 e2 e3 e4 e5 e6 e7 e8 e9 e10 e11 e12 e13 e14 e15 e16 e18 e19 e20 e17 hG hl
        have X0_2 := X0_1.bl b2
        have X1_2 := X1_1.bl b2
        have X2_2 := X2_1.bl b2
        have X3_2 := X3_1.bl b2
        have X4_2 := X4_1.bl b2
        have hB2 := Bl.trans hB1 b2
        clear X0_1 X1_1 X2_1 X3_1 X4_1 hB1 b2
        have fX0_0 := X0_2.c0
        have fX0_1 := X0_2.c1
        have fX1_0 := X1_2.c0
        have fX1_1 := X1_2.c1
        have fX2_0 := X2_2.c0
        have fX2_1 := X2_2.c1
        have fX3_0 := X3_2.c0
        have fX3_1 := X3_2.c1
        have fX4_0 := X4_2.c0
        have fX4_1 := X4_2.c1
        clear fX0_0 fX0_1 fX1_0 fX1_1 fX2_0 fX2_1 fX3_0 fX3_1 fX4_0 fX4_1
        have F_2 : BY v2 ga17 F1 F2 := Ya17
        clear Ya17
        have E1 : tw (a0_0 + a4_0, a0_1 + a4_1) (a1_0 + a4_0, a1_1 + a4_1) (a2_0 + a4_0, a2_1 + a4_1) = N := (tw_rigid (shift_rigid (a4_0, a4_1)) (nrs3.2 ⟨H0.out.nr, H1.out.nr, H2.out.nr⟩) (nrs3.2 ⟨H0.out.shift H4.out, H1.out.shift H4.out, H2.out.shift H4.out⟩)).trans HN.out
        have E2 : mt (a0_0 + a4_0, a0_1 + a4_1) (a1_0 + a4_0, a1_1 + a4_1) (a2_0 + a4_0, a2_1 + a4_1) (a3_0 + a4_0, a3_1 + a4_1) = M := (mt_rigid (shift_rigid (a4_0, a4_1)) (nrs4.2 ⟨H0.out.nr, H1.out.nr, H2.out.nr, H3.out.nr⟩) (nrs4.2 ⟨H0.out.shift H4.out, H1.out.shift H4.out, H2.out.shift H4.out, H3.out.shift H4.out⟩)).trans HM.out
        have E3 : on (a0_0 + a4_0, a0_1 + a4_1) (a1_0 + a4_0, a1_1 + a4_1) (a2_0 + a4_0, a2_1 + a4_1) = S := (on_rigid (shift_rigid (a4_0, a4_1)) (nrs3.2 ⟨H0.out.nr, H1.out.nr, H2.out.nr⟩) (nrs3.2 ⟨H0.out.shift H4.out, H1.out.shift H4.out, H2.out.shift H4.out⟩)).trans HS.out
        have E4 : dis (a0_0 + a4_0, a0_1 + a4_1) (a1_0 + a4_0, a1_1 + a4_1) (a2_0 + a4_0, a2_1 + a4_1) = (F1, F2) := (dis_rigid (shift_rigid (a4_0, a4_1)) (nrs3.2 ⟨H0.out.nr, H1.out.nr, H2.out.nr⟩) (nrs3.2 ⟨H0.out.shift H4.out, H1.out.shift H4.out, H2.out.shift H4.out⟩)).trans HF.out
        have cn2' := fun w' => Twice_any (a0_0 + a4_0, a0_1 + a4_1) (a1_0 + a4_0, a1_1 + a4_1) (a2_0 + a4_0, a2_1 + a4_1) w'
        rw [E1] at cn2'
        have cm2' := fun w' => Meet_any (a0_0 + a4_0, a0_1 + a4_1) (a1_0 + a4_0, a1_1 + a4_1) (a2_0 + a4_0, a2_1 + a4_1) (a3_0 + a4_0, a3_1 + a4_1) w'
        rw [E2] at cm2'
        have cs2' := fun w' => On_any (a0_0 + a4_0, a0_1 + a4_1) (a1_0 + a4_0, a1_1 + a4_1) (a2_0 + a4_0, a2_1 + a4_1) w'
        rw [E3] at cs2'
        have cf2' := fun w' => Dist_any (a0_0 + a4_0, a0_1 + a4_1) (a1_0 + a4_0, a1_1 + a4_1) (a2_0 + a4_0, a2_1 + a4_1) w'
        unfold DisOut at cf2'
        rw [E4] at cf2'
        simp only at cn2' cm2' cs2' cf2'
        have mv0' := fun w' => moved_any (a0_0, a0_1) (a4_0, a4_1) w' H0.out.nr H4.out.nr
        simp only at mv0'
        have mv1' := fun w' => moved_any (a1_0, a1_1) (a4_0, a4_1) w' H1.out.nr H4.out.nr
        simp only at mv1'
        have mv2' := fun w' => moved_any (a2_0, a2_1) (a4_0, a4_1) w' H2.out.nr H4.out.nr
        simp only at mv2'
        have mv3' := fun w' => moved_any (a3_0, a3_1) (a4_0, a4_1) w' H3.out.nr H4.out.nr
        simp only at mv3'
        clear E1 E2 E3 E4
        generalize a0_0 + a4_0 = p0 at *
        generalize a0_1 + a4_1 = q0 at *
        generalize a1_0 + a4_0 = p1 at *
        generalize a1_1 + a4_1 = q1 at *
        generalize a2_0 + a4_0 = p2 at *
        generalize a2_1 + a4_1 = q2 at *
        generalize a3_0 + a4_0 = p3 at *
        generalize a3_1 + a4_1 = q3 at *
        have cn2 := hid cn2'
        have cm2 := hid cm2'
        have cs2 := hid cs2'
        have cf2 := hid cf2'
        have mv0 := hid mv0'
        have mv1 := hid mv1'
        have mv2 := hid mv2'
        have mv3 := hid mv3'
        clear cn2' cm2' cs2' cf2' mv0' mv1' mv2' mv3'
        go_wp2_with fail
        refine wp_region_slots [some 81, some 82, some 83, some 84, some 85, some 86, some 87, some 88, some 89, some 90, some 91, some 92, some 17, some 18, some 19, some 20, none, none, none, none] (GA 23 v2 (fun i => ([some (.agg #[.int .i64 a0_0, .int .i64 a0_1]), some (.agg #[.int .i64 a4_0, .int .i64 a4_1]), some (.agg #[.int .i64 p0, .int .i64 q0]), some (.agg #[.int .i64 a1_0, .int .i64 a1_1]), some (.agg #[.int .i64 a4_0, .int .i64 a4_1]), some (.agg #[.int .i64 p1, .int .i64 q1]), some (.agg #[.int .i64 a2_0, .int .i64 a2_1]), some (.agg #[.int .i64 a4_0, .int .i64 a4_1]), some (.agg #[.int .i64 p2, .int .i64 q2]), some (.agg #[.int .i64 a3_0, .int .i64 a3_1]), some (.agg #[.int .i64 a4_0, .int .i64 a4_1]), some (.agg #[.int .i64 p3, .int .i64 q3]), none, none, none, none, none, none, none, none] : List (Option Value)).getD i none) [(12, 16, p0, q0), (13, 17, p1, q1), (14, 18, p2, q2), (15, 19, p3, q3)]) 177 rfl mixed (by kernel_rfl) rfl (by kernel_rfl) (fun f => GA.start _ _ _ _ _ f) ?_ ?_
        · intro hz i l f a' w' hi hj hdep hS hG
          have hlen := hS.len
          have hi' : i < 20 := hi
          clear hi
          obtain rfl | rfl | rfl | rfl | rfl | rfl | rfl | rfl | rfl | rfl | rfl | rfl | rfl | rfl | rfl | rfl | rfl | rfl | rfl | rfl : i = 0 ∨ i = 1 ∨ i = 2 ∨ i = 3 ∨ i = 4 ∨ i = 5 ∨ i = 6 ∨ i = 7 ∨ i = 8 ∨ i = 9 ∨ i = 10 ∨ i = 11 ∨ i = 12 ∨ i = 13 ∨ i = 14 ∨ i = 15 ∨ i = 16 ∨ i = 17 ∨ i = 18 ∨ i = 19 := by omega
          · refine wpOp_of rfl rfl (op_load_pt ((hS.old rfl).trans rfl) (X0_2.bl hG.bl) ?_)
            exact ⟨_, hS.put rfl (hz 81 (by decide)) _, hG.const rfl (by simp) (Bl.refl _)⟩
          · refine wpOp_of rfl rfl (op_load_pt ((hS.old rfl).trans rfl) (X4_2.bl hG.bl) ?_)
            exact ⟨_, hS.put rfl (hz 82 (by decide)) _, hG.const rfl (by simp) (Bl.refl _)⟩
          · have d0 : l.getD 0 false = true := hdep _ rfl ⟨0, .data⟩ (by simp) rfl
            have d1 : l.getD 1 false = true := hdep _ rfl ⟨1, .data⟩ (by simp) rfl
            have q0 := (hS.done (i := 0) (d := 81) rfl d0).trans (hG.con 0 _ rfl d0)
            have q1 := (hS.done (i := 1) (d := 82) rfl d1).trans (hG.con 1 _ rfl d1)
            refine wpOp_of rfl rfl (op_call Try.func30 (by kernel_rfl) (by kernel_rfl) (vs := #[.agg #[.int .i64 a0_0, .int .i64 a0_1], .agg #[.int .i64 a4_0, .int .i64 a4_1]]) (by simp only [List.map_toArray, List.map_cons, List.map_nil, q0, q1]) (mv0.out _) (fun w'' hb => ?_))
            exact ⟨_, hS.put rfl (hz 83 (by decide)) _, hG.const rfl (by simp) hb⟩
          · refine wpOp_of rfl rfl (op_load_pt ((hS.old rfl).trans rfl) (X1_2.bl hG.bl) ?_)
            exact ⟨_, hS.put rfl (hz 84 (by decide)) _, hG.const rfl (by simp) (Bl.refl _)⟩
          · refine wpOp_of rfl rfl (op_load_pt ((hS.old rfl).trans rfl) (X4_2.bl hG.bl) ?_)
            exact ⟨_, hS.put rfl (hz 85 (by decide)) _, hG.const rfl (by simp) (Bl.refl _)⟩
          · have d3 : l.getD 3 false = true := hdep _ rfl ⟨3, .data⟩ (by simp) rfl
            have d4 : l.getD 4 false = true := hdep _ rfl ⟨4, .data⟩ (by simp) rfl
            have q3 := (hS.done (i := 3) (d := 84) rfl d3).trans (hG.con 3 _ rfl d3)
            have q4 := (hS.done (i := 4) (d := 85) rfl d4).trans (hG.con 4 _ rfl d4)
            refine wpOp_of rfl rfl (op_call Try.func30 (by kernel_rfl) (by kernel_rfl) (vs := #[.agg #[.int .i64 a1_0, .int .i64 a1_1], .agg #[.int .i64 a4_0, .int .i64 a4_1]]) (by simp only [List.map_toArray, List.map_cons, List.map_nil, q3, q4]) (mv1.out _) (fun w'' hb => ?_))
            exact ⟨_, hS.put rfl (hz 86 (by decide)) _, hG.const rfl (by simp) hb⟩
          · refine wpOp_of rfl rfl (op_load_pt ((hS.old rfl).trans rfl) (X2_2.bl hG.bl) ?_)
            exact ⟨_, hS.put rfl (hz 87 (by decide)) _, hG.const rfl (by simp) (Bl.refl _)⟩
          · refine wpOp_of rfl rfl (op_load_pt ((hS.old rfl).trans rfl) (X4_2.bl hG.bl) ?_)
            exact ⟨_, hS.put rfl (hz 88 (by decide)) _, hG.const rfl (by simp) (Bl.refl _)⟩
          · have d6 : l.getD 6 false = true := hdep _ rfl ⟨6, .data⟩ (by simp) rfl
            have d7 : l.getD 7 false = true := hdep _ rfl ⟨7, .data⟩ (by simp) rfl
            have q6 := (hS.done (i := 6) (d := 87) rfl d6).trans (hG.con 6 _ rfl d6)
            have q7 := (hS.done (i := 7) (d := 88) rfl d7).trans (hG.con 7 _ rfl d7)
            refine wpOp_of rfl rfl (op_call Try.func30 (by kernel_rfl) (by kernel_rfl) (vs := #[.agg #[.int .i64 a2_0, .int .i64 a2_1], .agg #[.int .i64 a4_0, .int .i64 a4_1]]) (by simp only [List.map_toArray, List.map_cons, List.map_nil, q6, q7]) (mv2.out _) (fun w'' hb => ?_))
            exact ⟨_, hS.put rfl (hz 89 (by decide)) _, hG.const rfl (by simp) hb⟩
          · refine wpOp_of rfl rfl (op_load_pt ((hS.old rfl).trans rfl) (X3_2.bl hG.bl) ?_)
            exact ⟨_, hS.put rfl (hz 90 (by decide)) _, hG.const rfl (by simp) (Bl.refl _)⟩
          · refine wpOp_of rfl rfl (op_load_pt ((hS.old rfl).trans rfl) (X4_2.bl hG.bl) ?_)
            exact ⟨_, hS.put rfl (hz 91 (by decide)) _, hG.const rfl (by simp) (Bl.refl _)⟩
          · have d9 : l.getD 9 false = true := hdep _ rfl ⟨9, .data⟩ (by simp) rfl
            have d10 : l.getD 10 false = true := hdep _ rfl ⟨10, .data⟩ (by simp) rfl
            have q9 := (hS.done (i := 9) (d := 90) rfl d9).trans (hG.con 9 _ rfl d9)
            have q10 := (hS.done (i := 10) (d := 91) rfl d10).trans (hG.con 10 _ rfl d10)
            refine wpOp_of rfl rfl (op_call Try.func30 (by kernel_rfl) (by kernel_rfl) (vs := #[.agg #[.int .i64 a3_0, .int .i64 a3_1], .agg #[.int .i64 a4_0, .int .i64 a4_1]]) (by simp only [List.map_toArray, List.map_cons, List.map_nil, q9, q10]) (mv3.out _) (fun w'' hb => ?_))
            exact ⟨_, hS.put rfl (hz 92 (by decide)) _, hG.const rfl (by simp) hb⟩
          · refine wpOp_of rfl rfl (op_alloc_pt ?_)
            exact ⟨_, hS.put rfl (hz 17 (by decide)) _, hG.alloc (by rw [hlen]; decide) hj rfl (by simp)⟩
          · refine wpOp_of rfl rfl (op_alloc_pt ?_)
            exact ⟨_, hS.put rfl (hz 18 (by decide)) _, hG.alloc (by rw [hlen]; decide) hj rfl (by simp)⟩
          · refine wpOp_of rfl rfl (op_alloc_pt ?_)
            exact ⟨_, hS.put rfl (hz 19 (by decide)) _, hG.alloc (by rw [hlen]; decide) hj rfl (by simp)⟩
          · refine wpOp_of rfl rfl (op_alloc_pt ?_)
            exact ⟨_, hS.put rfl (hz 20 (by decide)) _, hG.alloc (by rw [hlen]; decide) hj rfl (by simp)⟩
          · have d12 : l.getD 12 false = true := hdep _ rfl ⟨12, .data⟩ (by simp) rfl
            have d2 : l.getD 2 false = true := hdep _ rfl ⟨2, .data⟩ (by simp) rfl
            obtain ⟨g, e, hg, hB⟩ := hG.box (12, 16, p0, q0) (by simp) d12
            refine wpOp_of rfl rfl (op_store_pt ((hS.done (i := 12) (d := 17) rfl d12).trans e) ((hS.done (i := 2) (d := 83) rfl d2).trans (hG.con 2 _ rfl d2)) (show BX _ _ _ _ from hB) ?_)
            exact ⟨_, hS.skip rfl _, hG.store (i := 12) (by simp) (by rw [hlen]; decide) rfl d12 e (by simp)⟩
          · have d13 : l.getD 13 false = true := hdep _ rfl ⟨13, .data⟩ (by simp) rfl
            have d5 : l.getD 5 false = true := hdep _ rfl ⟨5, .data⟩ (by simp) rfl
            obtain ⟨g, e, hg, hB⟩ := hG.box (13, 17, p1, q1) (by simp) d13
            refine wpOp_of rfl rfl (op_store_pt ((hS.done (i := 13) (d := 18) rfl d13).trans e) ((hS.done (i := 5) (d := 86) rfl d5).trans (hG.con 5 _ rfl d5)) (show BX _ _ _ _ from hB) ?_)
            exact ⟨_, hS.skip rfl _, hG.store (i := 13) (by simp) (by rw [hlen]; decide) rfl d13 e (by simp)⟩
          · have d14 : l.getD 14 false = true := hdep _ rfl ⟨14, .data⟩ (by simp) rfl
            have d8 : l.getD 8 false = true := hdep _ rfl ⟨8, .data⟩ (by simp) rfl
            obtain ⟨g, e, hg, hB⟩ := hG.box (14, 18, p2, q2) (by simp) d14
            refine wpOp_of rfl rfl (op_store_pt ((hS.done (i := 14) (d := 19) rfl d14).trans e) ((hS.done (i := 8) (d := 89) rfl d8).trans (hG.con 8 _ rfl d8)) (show BX _ _ _ _ from hB) ?_)
            exact ⟨_, hS.skip rfl _, hG.store (i := 14) (by simp) (by rw [hlen]; decide) rfl d14 e (by simp)⟩
          · have d15 : l.getD 15 false = true := hdep _ rfl ⟨15, .data⟩ (by simp) rfl
            have d11 : l.getD 11 false = true := hdep _ rfl ⟨11, .data⟩ (by simp) rfl
            obtain ⟨g, e, hg, hB⟩ := hG.box (15, 19, p3, q3) (by simp) d15
            refine wpOp_of rfl rfl (op_store_pt ((hS.done (i := 15) (d := 20) rfl d15).trans e) ((hS.done (i := 11) (d := 92) rfl d11).trans (hG.con 11 _ rfl d11)) (show BX _ _ _ _ from hB) ?_)
            exact ⟨_, hS.skip rfl _, hG.store (i := 15) (by simp) (by rw [hlen]; decide) rfl d15 e (by simp)⟩
        · intro l f v3 hG hl
          have e0 := hG.con 0 _ rfl (hl 0 (by decide))
          have e1 := hG.con 1 _ rfl (hl 1 (by decide))
          have e2 := hG.con 2 _ rfl (hl 2 (by decide))
          have e3 := hG.con 3 _ rfl (hl 3 (by decide))
          have e4 := hG.con 4 _ rfl (hl 4 (by decide))
          have e5 := hG.con 5 _ rfl (hl 5 (by decide))
          have e6 := hG.con 6 _ rfl (hl 6 (by decide))
          have e7 := hG.con 7 _ rfl (hl 7 (by decide))
          have e8 := hG.con 8 _ rfl (hl 8 (by decide))
          have e9 := hG.con 9 _ rfl (hl 9 (by decide))
          have e10 := hG.con 10 _ rfl (hl 10 (by decide))
          have e11 := hG.con 11 _ rfl (hl 11 (by decide))
          obtain ⟨gb12, e12, hgb12, Yb12⟩ := hG.box (12, 16, p0, q0) (by simp) (hl 12 (by decide))
          simp only [if_pos (hl 16 (by decide))] at Yb12
          obtain ⟨gb13, e13, hgb13, Yb13⟩ := hG.box (13, 17, p1, q1) (by simp) (hl 13 (by decide))
          simp only [if_pos (hl 17 (by decide))] at Yb13
          obtain ⟨gb14, e14, hgb14, Yb14⟩ := hG.box (14, 18, p2, q2) (by simp) (hl 14 (by decide))
          simp only [if_pos (hl 18 (by decide))] at Yb14
          obtain ⟨gb15, e15, hgb15, Yb15⟩ := hG.box (15, 19, p3, q3) (by simp) (hl 15 (by decide))
          simp only [if_pos (hl 19 (by decide))] at Yb15
          have nb12_13 : gb12 ≠ gb13 := fun h => hG.dis (12, 16, p0, q0) (by simp) (13, 17, p1, q1) (by simp) (by simp) (hl 12 (by decide)) (hl 13 (by decide)) (by rw [e12, e13, h])
          have nb12_14 : gb12 ≠ gb14 := fun h => hG.dis (12, 16, p0, q0) (by simp) (14, 18, p2, q2) (by simp) (by simp) (hl 12 (by decide)) (hl 14 (by decide)) (by rw [e12, e14, h])
          have nb13_14 : gb13 ≠ gb14 := fun h => hG.dis (13, 17, p1, q1) (by simp) (14, 18, p2, q2) (by simp) (by simp) (hl 13 (by decide)) (hl 14 (by decide)) (by rw [e13, e14, h])
          have nb12_15 : gb12 ≠ gb15 := fun h => hG.dis (12, 16, p0, q0) (by simp) (15, 19, p3, q3) (by simp) (by simp) (hl 12 (by decide)) (hl 15 (by decide)) (by rw [e12, e15, h])
          have nb13_15 : gb13 ≠ gb15 := fun h => hG.dis (13, 17, p1, q1) (by simp) (15, 19, p3, q3) (by simp) (by simp) (hl 13 (by decide)) (hl 15 (by decide)) (by rw [e13, e15, h])
          have nb14_15 : gb14 ≠ gb15 := fun h => hG.dis (14, 18, p2, q2) (by simp) (15, 19, p3, q3) (by simp) (by simp) (hl 14 (by decide)) (hl 15 (by decide)) (by rw [e14, e15, h])
          have b3 := hG.bl
          simp only [putFrom, Act.put, List.setIfInBounds_toArray, List.set_cons_zero, List.set_cons_succ, e0, e1, e2, e3, e4, e5, e6, e7, e8, e9, e10, e11, e12, e13, e14, e15]
          clear e0 e1 e2 e3 e4 e5 e6 e7 e8 e9 e10 e11 e12 e13 e14 e15 hG hl
          have zw := hB2.size
          have zg12 : w.heap.size ≤ gb12 := Nat.le_trans zw hgb12
          have nz12_0 : gb12 ≠ w.heap.size := fun h => by have := X0_2.lt; omega
          have nz12_1 : gb12 ≠ w.heap.size + 1 := fun h => by have := X1_2.lt; omega
          have nz12_2 : gb12 ≠ w.heap.size + 1 + 1 := fun h => by have := X2_2.lt; omega
          have nz12_3 : gb12 ≠ w.heap.size + 1 + 1 + 1 := fun h => by have := X3_2.lt; omega
          have nz12_F : gb12 ≠ ga17 := fun h => by have := F_2.lt; omega
          have zg13 : w.heap.size ≤ gb13 := Nat.le_trans zw hgb13
          have nz13_0 : gb13 ≠ w.heap.size := fun h => by have := X0_2.lt; omega
          have nz13_1 : gb13 ≠ w.heap.size + 1 := fun h => by have := X1_2.lt; omega
          have nz13_2 : gb13 ≠ w.heap.size + 1 + 1 := fun h => by have := X2_2.lt; omega
          have nz13_3 : gb13 ≠ w.heap.size + 1 + 1 + 1 := fun h => by have := X3_2.lt; omega
          have nz13_F : gb13 ≠ ga17 := fun h => by have := F_2.lt; omega
          have zg14 : w.heap.size ≤ gb14 := Nat.le_trans zw hgb14
          have nz14_0 : gb14 ≠ w.heap.size := fun h => by have := X0_2.lt; omega
          have nz14_1 : gb14 ≠ w.heap.size + 1 := fun h => by have := X1_2.lt; omega
          have nz14_2 : gb14 ≠ w.heap.size + 1 + 1 := fun h => by have := X2_2.lt; omega
          have nz14_3 : gb14 ≠ w.heap.size + 1 + 1 + 1 := fun h => by have := X3_2.lt; omega
          have nz14_F : gb14 ≠ ga17 := fun h => by have := F_2.lt; omega
          have zg15 : w.heap.size ≤ gb15 := Nat.le_trans zw hgb15
          have nz15_0 : gb15 ≠ w.heap.size := fun h => by have := X0_2.lt; omega
          have nz15_1 : gb15 ≠ w.heap.size + 1 := fun h => by have := X1_2.lt; omega
          have nz15_2 : gb15 ≠ w.heap.size + 1 + 1 := fun h => by have := X2_2.lt; omega
          have nz15_3 : gb15 ≠ w.heap.size + 1 + 1 + 1 := fun h => by have := X3_2.lt; omega
          have nz15_F : gb15 ≠ ga17 := fun h => by have := F_2.lt; omega
          clear zw hgb12 hgb13 hgb14 hgb15
          have X0_3 := X0_2.bl b3
          have X1_3 := X1_2.bl b3
          have X2_3 := X2_2.bl b3
          have X3_3 := X3_2.bl b3
          have X4_3 := X4_2.bl b3
          have F_3 := F_2.bl b3
          have hB3 := Bl.trans hB2 b3
          clear X0_2 X1_2 X2_2 X3_2 X4_2 F_2 hB2 b3
          have fX0_0 := X0_3.c0
          have fX0_1 := X0_3.c1
          have fX1_0 := X1_3.c0
          have fX1_1 := X1_3.c1
          have fX2_0 := X2_3.c0
          have fX2_1 := X2_3.c1
          have fX3_0 := X3_3.c0
          have fX3_1 := X3_3.c1
          have fX4_0 := X4_3.c0
          have fX4_1 := X4_3.c1
          have fF_0 := F_3.c0
          have fF_1 := F_3.c1
          clear fX0_0 fX0_1 fX1_0 fX1_1 fX2_0 fX2_1 fX3_0 fX3_1 fX4_0 fX4_1 fF_0 fF_1
          have Z0_3 : BX v3 gb12 p0 q0 := Yb12
          clear Yb12
          have Z1_3 : BX v3 gb13 p1 q1 := Yb13
          clear Yb13
          have Z2_3 : BX v3 gb14 p2 q2 := Yb14
          clear Yb14
          have Z3_3 : BX v3 gb15 p3 q3 := Yb15
          clear Yb15
          have fX0_0 := X0_3.c0
          have fX0_1 := X0_3.c1
          have fX1_0 := X1_3.c0
          have fX1_1 := X1_3.c1
          have fX2_0 := X2_3.c0
          have fX2_1 := X2_3.c1
          have fX3_0 := X3_3.c0
          have fX3_1 := X3_3.c1
          have fX4_0 := X4_3.c0
          have fX4_1 := X4_3.c1
          have fF_0 := F_3.c0
          have fF_1 := F_3.c1
          have fZ0_0 := Z0_3.c0
          have fZ0_1 := Z0_3.c1
          have fZ1_0 := Z1_3.c0
          have fZ1_1 := Z1_3.c1
          have fZ2_0 := Z2_3.c0
          have fZ2_1 := Z2_3.c1
          have fZ3_0 := Z3_3.c0
          have fZ3_1 := Z3_3.c1
          go_wp2_with fail
          clear fX0_0 fX0_1 fX1_0 fX1_1 fX2_0 fX2_1 fX3_0 fX3_1 fX4_0 fX4_1 fF_0 fF_1 fZ0_0 fZ0_1 fZ1_0 fZ1_1 fZ2_0 fZ2_1 fZ3_0 fZ3_1
          have kX0_0 := GB.cell X0_3.lt X0_3.c0
          have kX0_1 := GB.cell X0_3.lt X0_3.c1
          have kX1_0 := GB.cell X1_3.lt X1_3.c0
          have kX1_1 := GB.cell X1_3.lt X1_3.c1
          have kX2_0 := GB.cell X2_3.lt X2_3.c0
          have kX2_1 := GB.cell X2_3.lt X2_3.c1
          have kX3_0 := GB.cell X3_3.lt X3_3.c0
          have kX3_1 := GB.cell X3_3.lt X3_3.c1
          have kX4_0 := GB.cell X4_3.lt X4_3.c0
          have kX4_1 := GB.cell X4_3.lt X4_3.c1
          have kF_0 := GB.cell F_3.lt F_3.c0
          have kF_1 := GB.cell F_3.lt F_3.c1
          have kZ0_0 := GB.cell Z0_3.lt Z0_3.c0
          have kZ0_1 := GB.cell Z0_3.lt Z0_3.c1
          have kZ1_0 := GB.cell Z1_3.lt Z1_3.c0
          have kZ1_1 := GB.cell Z1_3.lt Z1_3.c1
          have kZ2_0 := GB.cell Z2_3.lt Z2_3.c0
          have kZ2_1 := GB.cell Z2_3.lt Z2_3.c1
          have kZ3_0 := GB.cell Z3_3.lt Z3_3.c0
          have kZ3_1 := GB.cell Z3_3.lt Z3_3.c1
          refine wp_region_gb mixed (by kernel_rfl) ?_
          try simp only [List.append]
          repeat
            with_reducible refine wpQuiet_step (fun K hK => ?_)
            go_simp
            first
              | (with_reducible refine hK _ ?_; clear hK K)
              | (rw [if_neg]; rotate_left; · (intro h; cases h); with_reducible refine hK _ ?_; clear hK K)
              | (apply Exists.intro; with_reducible refine ⟨fun _ => ?_, hK _ ?_⟩; (first | (go_at_call 11; with_reducible refine gb_of (cn2.out _)) | (go_at_call 19; with_reducible refine gb_of (cm2.out _)) | (go_at_call 15; with_reducible refine gb_of (cs2.out _)) | (go_at_call 24; with_reducible refine gb_of (cf2.out _))); clear hK K)
          with_reducible refine wpQuiet_nil ?_
          intro w' hw'
          obtain ⟨⟨v4, b4⟩, hw''⟩ := hw'
          have hw3 : v4 = w' := hw''.symm
          subst hw3
          clear hw''
          clear kX0_0 kX0_1 kX1_0 kX1_1 kX2_0 kX2_1 kX3_0 kX3_1 kX4_0 kX4_1 kF_0 kF_1 kZ0_0 kZ0_1 kZ1_0 kZ1_1 kZ2_0 kZ2_1 kZ3_0 kZ3_1
          have X0_4 := X0_3.bl b4
          have X1_4 := X1_3.bl b4
          have X2_4 := X2_3.bl b4
          have X3_4 := X3_3.bl b4
          have X4_4 := X4_3.bl b4
          have F_4 := F_3.bl b4
          have Z0_4 := Z0_3.bl b4
          have Z1_4 := Z1_3.bl b4
          have Z2_4 := Z2_3.bl b4
          have Z3_4 := Z3_3.bl b4
          have hB4 := Bl.trans hB3 b4
          clear X0_3 X1_3 X2_3 X3_3 X4_3 F_3 Z0_3 Z1_3 Z2_3 Z3_3 hB3 b4
          have fX0_0 := X0_4.c0
          have fX0_1 := X0_4.c1
          have fX1_0 := X1_4.c0
          have fX1_1 := X1_4.c1
          have fX2_0 := X2_4.c0
          have fX2_1 := X2_4.c1
          have fX3_0 := X3_4.c0
          have fX3_1 := X3_4.c1
          have fX4_0 := X4_4.c0
          have fX4_1 := X4_4.c1
          have fF_0 := F_4.c0
          have fF_1 := F_4.c1
          have fZ0_0 := Z0_4.c0
          have fZ0_1 := Z0_4.c1
          have fZ1_0 := Z1_4.c0
          have fZ1_1 := Z1_4.c1
          have fZ2_0 := Z2_4.c0
          have fZ2_1 := Z2_4.c1
          have fZ3_0 := Z3_4.c0
          have fZ3_1 := Z3_4.c1
          clear fX0_0 fX0_1 fX1_0 fX1_1 fX2_0 fX2_1 fX3_0 fX3_1 fX4_0 fX4_1 fF_0 fF_1 fZ0_0 fZ0_1 fZ1_0 fZ1_1 fZ2_0 fZ2_1 fZ3_0 fZ3_1
          have E1 : tw (-a0_1, a0_0) (-a1_1, a1_0) (-a2_1, a2_0) = N := (tw_rigid turn_rigid (nrs3.2 ⟨H0.out.nr, H1.out.nr, H2.out.nr⟩) (nrs3.2 ⟨H0.out.turn, H1.out.turn, H2.out.turn⟩)).trans HN.out
          have E2 : mt (-a0_1, a0_0) (-a1_1, a1_0) (-a2_1, a2_0) (-a3_1, a3_0) = M := (mt_rigid turn_rigid (nrs4.2 ⟨H0.out.nr, H1.out.nr, H2.out.nr, H3.out.nr⟩) (nrs4.2 ⟨H0.out.turn, H1.out.turn, H2.out.turn, H3.out.turn⟩)).trans HM.out
          have E3 : on (-a0_1, a0_0) (-a1_1, a1_0) (-a2_1, a2_0) = S := (on_rigid turn_rigid (nrs3.2 ⟨H0.out.nr, H1.out.nr, H2.out.nr⟩) (nrs3.2 ⟨H0.out.turn, H1.out.turn, H2.out.turn⟩)).trans HS.out
          have E4 : dis (-a0_1, a0_0) (-a1_1, a1_0) (-a2_1, a2_0) = (F1, F2) := (dis_rigid turn_rigid (nrs3.2 ⟨H0.out.nr, H1.out.nr, H2.out.nr⟩) (nrs3.2 ⟨H0.out.turn, H1.out.turn, H2.out.turn⟩)).trans HF.out
          have cn3' := fun w' => Twice_any (-a0_1, a0_0) (-a1_1, a1_0) (-a2_1, a2_0) w'
          rw [E1] at cn3'
          have cm3' := fun w' => Meet_any (-a0_1, a0_0) (-a1_1, a1_0) (-a2_1, a2_0) (-a3_1, a3_0) w'
          rw [E2] at cm3'
          have cs3' := fun w' => On_any (-a0_1, a0_0) (-a1_1, a1_0) (-a2_1, a2_0) w'
          rw [E3] at cs3'
          have cf3' := fun w' => Dist_any (-a0_1, a0_0) (-a1_1, a1_0) (-a2_1, a2_0) w'
          unfold DisOut at cf3'
          rw [E4] at cf3'
          simp only at cn3' cm3' cs3' cf3'
          have E5 : sd (-a0_1, a0_0) (-a1_1, a1_0) (-a2_1, a2_0) = sd (a0_0, a0_1) (a1_0, a1_1) (a2_0, a2_1) := by unfold sd; rw [E1, HN.out]
          have cd3' := fun w' => Side_any (-a0_1, a0_0) (-a1_1, a1_0) (-a2_1, a2_0) w'
          rw [E5] at cd3'
          have ce3' := fun w' => Side_any (a0_0, a0_1) (a1_0, a1_1) (a2_0, a2_1) w'
          generalize sd (a0_0, a0_1) (a1_0, a1_1) (a2_0, a2_1) = SD at *
          simp only at cd3' ce3'
          clear E5
          have tn0' := fun w' => turned_any (a0_0, a0_1) w' H0.out.nr
          simp only at tn0'
          have tn1' := fun w' => turned_any (a1_0, a1_1) w' H1.out.nr
          simp only at tn1'
          have tn2' := fun w' => turned_any (a2_0, a2_1) w' H2.out.nr
          simp only at tn2'
          have tn3' := fun w' => turned_any (a3_0, a3_1) w' H3.out.nr
          simp only at tn3'
          clear E1 E2 E3 E4
          generalize -a0_1 = r0 at *
          generalize -a1_1 = r1 at *
          generalize -a2_1 = r2 at *
          generalize -a3_1 = r3 at *
          have cn3 := hid cn3'
          have cm3 := hid cm3'
          have cs3 := hid cs3'
          have cf3 := hid cf3'
          have cd3 := hid cd3'
          have ce3 := hid ce3'
          have tn0 := hid tn0'
          have tn1 := hid tn1'
          have tn2 := hid tn2'
          have tn3 := hid tn3'
          clear cn3' cm3' cs3' cf3' cd3' ce3' tn0' tn1' tn2' tn3'
          go_wp2_with fail
          have kx0 : ∀ k ∈ ([(8, gb12, (p0, q0), (r0, a0_0)), (9, gb13, (p1, q1), (r1, a1_0)), (10, gb14, (p2, q2), (r2, a2_0)), (11, gb15, (p3, q3), (r3, a3_0))] : List (Nat × Nat × (Int × Int) × (Int × Int))), k.2.1 ≠ w.heap.size := by simp [nz12_0, nz13_0, nz14_0, nz15_0]
          have kx1 : ∀ k ∈ ([(8, gb12, (p0, q0), (r0, a0_0)), (9, gb13, (p1, q1), (r1, a1_0)), (10, gb14, (p2, q2), (r2, a2_0)), (11, gb15, (p3, q3), (r3, a3_0))] : List (Nat × Nat × (Int × Int) × (Int × Int))), k.2.1 ≠ w.heap.size + 1 := by simp [nz12_1, nz13_1, nz14_1, nz15_1]
          have kx2 : ∀ k ∈ ([(8, gb12, (p0, q0), (r0, a0_0)), (9, gb13, (p1, q1), (r1, a1_0)), (10, gb14, (p2, q2), (r2, a2_0)), (11, gb15, (p3, q3), (r3, a3_0))] : List (Nat × Nat × (Int × Int) × (Int × Int))), k.2.1 ≠ w.heap.size + 1 + 1 := by simp [nz12_2, nz13_2, nz14_2, nz15_2]
          have kx3 : ∀ k ∈ ([(8, gb12, (p0, q0), (r0, a0_0)), (9, gb13, (p1, q1), (r1, a1_0)), (10, gb14, (p2, q2), (r2, a2_0)), (11, gb15, (p3, q3), (r3, a3_0))] : List (Nat × Nat × (Int × Int) × (Int × Int))), k.2.1 ≠ w.heap.size + 1 + 1 + 1 := by simp [nz12_3, nz13_3, nz14_3, nz15_3]
          have kxF : ∀ k ∈ ([(8, gb12, (p0, q0), (r0, a0_0)), (9, gb13, (p1, q1), (r1, a1_0)), (10, gb14, (p2, q2), (r2, a2_0)), (11, gb15, (p3, q3), (r3, a3_0))] : List (Nat × Nat × (Int × Int) × (Int × Int))), k.2.1 ≠ ga17 := by simp [nz12_F, nz13_F, nz14_F, nz15_F]
          have ks0 : ∀ k ∈ ([(8, gb12, (p0, q0), (r0, a0_0)), (9, gb13, (p1, q1), (r1, a1_0)), (10, gb14, (p2, q2), (r2, a2_0)), (11, gb15, (p3, q3), (r3, a3_0))] : List (Nat × Nat × (Int × Int) × (Int × Int))), (k.1 = 8 → k = (8, gb12, (p0, q0), (r0, a0_0))) ∧ (k.1 ≠ 8 → k.2.1 ≠ gb12) := by simp [nb12_13, nb12_14, nb12_15, nb13_14, nb13_15, nb14_15, nb12_13.symm, nb12_14.symm, nb12_15.symm, nb13_14.symm, nb13_15.symm, nb14_15.symm]
          have ks1 : ∀ k ∈ ([(8, gb12, (p0, q0), (r0, a0_0)), (9, gb13, (p1, q1), (r1, a1_0)), (10, gb14, (p2, q2), (r2, a2_0)), (11, gb15, (p3, q3), (r3, a3_0))] : List (Nat × Nat × (Int × Int) × (Int × Int))), (k.1 = 9 → k = (9, gb13, (p1, q1), (r1, a1_0))) ∧ (k.1 ≠ 9 → k.2.1 ≠ gb13) := by simp [nb12_13, nb12_14, nb12_15, nb13_14, nb13_15, nb14_15, nb12_13.symm, nb12_14.symm, nb12_15.symm, nb13_14.symm, nb13_15.symm, nb14_15.symm]
          have ks2 : ∀ k ∈ ([(8, gb12, (p0, q0), (r0, a0_0)), (9, gb13, (p1, q1), (r1, a1_0)), (10, gb14, (p2, q2), (r2, a2_0)), (11, gb15, (p3, q3), (r3, a3_0))] : List (Nat × Nat × (Int × Int) × (Int × Int))), (k.1 = 10 → k = (10, gb14, (p2, q2), (r2, a2_0))) ∧ (k.1 ≠ 10 → k.2.1 ≠ gb14) := by simp [nb12_13, nb12_14, nb12_15, nb13_14, nb13_15, nb14_15, nb12_13.symm, nb12_14.symm, nb12_15.symm, nb13_14.symm, nb13_15.symm, nb14_15.symm]
          have ks3 : ∀ k ∈ ([(8, gb12, (p0, q0), (r0, a0_0)), (9, gb13, (p1, q1), (r1, a1_0)), (10, gb14, (p2, q2), (r2, a2_0)), (11, gb15, (p3, q3), (r3, a3_0))] : List (Nat × Nat × (Int × Int) × (Int × Int))), (k.1 = 11 → k = (11, gb15, (p3, q3), (r3, a3_0))) ∧ (k.1 ≠ 11 → k.2.1 ≠ gb15) := by simp [nb12_13, nb12_14, nb12_15, nb13_14, nb13_15, nb14_15, nb12_13.symm, nb12_14.symm, nb12_15.symm, nb13_14.symm, nb13_15.symm, nb14_15.symm]
          have kb : ∀ k ∈ ([(8, gb12, (p0, q0), (r0, a0_0)), (9, gb13, (p1, q1), (r1, a1_0)), (10, gb14, (p2, q2), (r2, a2_0)), (11, gb15, (p3, q3), (r3, a3_0))] : List (Nat × Nat × (Int × Int) × (Int × Int))), B2 23 v4 k.2.1 k.2.2.1.1 k.2.2.1.2 := by
            intro k hk
            simp only [List.mem_cons, List.not_mem_nil, or_false] at hk
            rcases hk with rfl | rfl | rfl | rfl
            · exact Z0_4
            · exact Z1_4
            · exact Z2_4
            · exact Z3_4
          refine wp_region_slots [some 124, some 125, some 126, some 127, some 128, some 129, some 130, some 131, none, none, none, none] (GS 23 w v4 (fun i => ([some (.agg #[.int .i64 a0_0, .int .i64 a0_1]), some (.agg #[.int .i64 r0, .int .i64 a0_0]), some (.agg #[.int .i64 a1_0, .int .i64 a1_1]), some (.agg #[.int .i64 r1, .int .i64 a1_0]), some (.agg #[.int .i64 a2_0, .int .i64 a2_1]), some (.agg #[.int .i64 r2, .int .i64 a2_0]), some (.agg #[.int .i64 a3_0, .int .i64 a3_1]), some (.agg #[.int .i64 r3, .int .i64 a3_0]), none, none, none, none] : List (Option Value)).getD i none) [(8, gb12, (p0, q0), (r0, a0_0)), (9, gb13, (p1, q1), (r1, a1_0)), (10, gb14, (p2, q2), (r2, a2_0)), (11, gb15, (p3, q3), (r3, a3_0))]) 177 rfl mixed (by kernel_rfl) rfl (by kernel_rfl) (fun f => GS.start _ _ _ _ _ _ f hB4 kb) ?_ ?_
          · intro hz i l f a' w' hi hj hdep hS hG
            have hlen := hS.len
            have hi' : i < 12 := hi
            clear hi
            obtain rfl | rfl | rfl | rfl | rfl | rfl | rfl | rfl | rfl | rfl | rfl | rfl : i = 0 ∨ i = 1 ∨ i = 2 ∨ i = 3 ∨ i = 4 ∨ i = 5 ∨ i = 6 ∨ i = 7 ∨ i = 8 ∨ i = 9 ∨ i = 10 ∨ i = 11 := by omega
            · refine wpOp_of rfl rfl (op_load_pt ((hS.old rfl).trans rfl) (hG.keep _ _ kx0 X0_4) ?_)
              exact ⟨_, hS.put rfl (hz 124 (by decide)) _, hG.const rfl (by simp) (Bl.refl _)⟩
            · have d0 : l.getD 0 false = true := hdep _ rfl ⟨0, .data⟩ (by simp) rfl
              have q0 := (hS.done (i := 0) (d := 124) rfl d0).trans (hG.con 0 _ rfl d0)
              refine wpOp_of rfl rfl (op_call Try.func31 (by kernel_rfl) (by kernel_rfl) (vs := #[.agg #[.int .i64 a0_0, .int .i64 a0_1]]) (by simp only [List.map_toArray, List.map_cons, List.map_nil, q0]) (tn0.out _) (fun w'' hb => ?_))
              exact ⟨_, hS.put rfl (hz 125 (by decide)) _, hG.const rfl (by simp) hb⟩
            · refine wpOp_of rfl rfl (op_load_pt ((hS.old rfl).trans rfl) (hG.keep _ _ kx1 X1_4) ?_)
              exact ⟨_, hS.put rfl (hz 126 (by decide)) _, hG.const rfl (by simp) (Bl.refl _)⟩
            · have d2 : l.getD 2 false = true := hdep _ rfl ⟨2, .data⟩ (by simp) rfl
              have q2 := (hS.done (i := 2) (d := 126) rfl d2).trans (hG.con 2 _ rfl d2)
              refine wpOp_of rfl rfl (op_call Try.func31 (by kernel_rfl) (by kernel_rfl) (vs := #[.agg #[.int .i64 a1_0, .int .i64 a1_1]]) (by simp only [List.map_toArray, List.map_cons, List.map_nil, q2]) (tn1.out _) (fun w'' hb => ?_))
              exact ⟨_, hS.put rfl (hz 127 (by decide)) _, hG.const rfl (by simp) hb⟩
            · refine wpOp_of rfl rfl (op_load_pt ((hS.old rfl).trans rfl) (hG.keep _ _ kx2 X2_4) ?_)
              exact ⟨_, hS.put rfl (hz 128 (by decide)) _, hG.const rfl (by simp) (Bl.refl _)⟩
            · have d4 : l.getD 4 false = true := hdep _ rfl ⟨4, .data⟩ (by simp) rfl
              have q4 := (hS.done (i := 4) (d := 128) rfl d4).trans (hG.con 4 _ rfl d4)
              refine wpOp_of rfl rfl (op_call Try.func31 (by kernel_rfl) (by kernel_rfl) (vs := #[.agg #[.int .i64 a2_0, .int .i64 a2_1]]) (by simp only [List.map_toArray, List.map_cons, List.map_nil, q4]) (tn2.out _) (fun w'' hb => ?_))
              exact ⟨_, hS.put rfl (hz 129 (by decide)) _, hG.const rfl (by simp) hb⟩
            · refine wpOp_of rfl rfl (op_load_pt ((hS.old rfl).trans rfl) (hG.keep _ _ kx3 X3_4) ?_)
              exact ⟨_, hS.put rfl (hz 130 (by decide)) _, hG.const rfl (by simp) (Bl.refl _)⟩
            · have d6 : l.getD 6 false = true := hdep _ rfl ⟨6, .data⟩ (by simp) rfl
              have q6 := (hS.done (i := 6) (d := 130) rfl d6).trans (hG.con 6 _ rfl d6)
              refine wpOp_of rfl rfl (op_call Try.func31 (by kernel_rfl) (by kernel_rfl) (vs := #[.agg #[.int .i64 a3_0, .int .i64 a3_1]]) (by simp only [List.map_toArray, List.map_cons, List.map_nil, q6]) (tn3.out _) (fun w'' hb => ?_))
              exact ⟨_, hS.put rfl (hz 131 (by decide)) _, hG.const rfl (by simp) hb⟩
            · have d1 : l.getD 1 false = true := hdep _ rfl ⟨1, .data⟩ (by simp) rfl
              refine wpOp_of rfl rfl (op_store_pt ((hS.old (d := 17) rfl).trans rfl) ((hS.done (i := 1) (d := 125) rfl d1).trans (hG.con 1 _ rfl d1)) (show BX _ _ _ _ from hG.box (8, gb12, (p0, q0), (r0, a0_0)) (by simp)) ?_)
              exact ⟨_, hS.skip rfl _, hG.store (o := (p0, q0)) (by simp) zg12 (by rw [hlen]; decide) rfl ks0⟩
            · have d3 : l.getD 3 false = true := hdep _ rfl ⟨3, .data⟩ (by simp) rfl
              refine wpOp_of rfl rfl (op_store_pt ((hS.old (d := 18) rfl).trans rfl) ((hS.done (i := 3) (d := 127) rfl d3).trans (hG.con 3 _ rfl d3)) (show BX _ _ _ _ from hG.box (9, gb13, (p1, q1), (r1, a1_0)) (by simp)) ?_)
              exact ⟨_, hS.skip rfl _, hG.store (o := (p1, q1)) (by simp) zg13 (by rw [hlen]; decide) rfl ks1⟩
            · have d5 : l.getD 5 false = true := hdep _ rfl ⟨5, .data⟩ (by simp) rfl
              refine wpOp_of rfl rfl (op_store_pt ((hS.old (d := 19) rfl).trans rfl) ((hS.done (i := 5) (d := 129) rfl d5).trans (hG.con 5 _ rfl d5)) (show BX _ _ _ _ from hG.box (10, gb14, (p2, q2), (r2, a2_0)) (by simp)) ?_)
              exact ⟨_, hS.skip rfl _, hG.store (o := (p2, q2)) (by simp) zg14 (by rw [hlen]; decide) rfl ks2⟩
            · have d7 : l.getD 7 false = true := hdep _ rfl ⟨7, .data⟩ (by simp) rfl
              refine wpOp_of rfl rfl (op_store_pt ((hS.old (d := 20) rfl).trans rfl) ((hS.done (i := 7) (d := 131) rfl d7).trans (hG.con 7 _ rfl d7)) (show BX _ _ _ _ from hG.box (11, gb15, (p3, q3), (r3, a3_0)) (by simp)) ?_)
              exact ⟨_, hS.skip rfl _, hG.store (o := (p3, q3)) (by simp) zg15 (by rw [hlen]; decide) rfl ks3⟩
          · intro l f v5 hG hl
            have e0 := hG.con 0 _ rfl (hl 0 (by decide))
            have e1 := hG.con 1 _ rfl (hl 1 (by decide))
            have e2 := hG.con 2 _ rfl (hl 2 (by decide))
            have e3 := hG.con 3 _ rfl (hl 3 (by decide))
            have e4 := hG.con 4 _ rfl (hl 4 (by decide))
            have e5 := hG.con 5 _ rfl (hl 5 (by decide))
            have e6 := hG.con 6 _ rfl (hl 6 (by decide))
            have e7 := hG.con 7 _ rfl (hl 7 (by decide))
            have X0_5 : BX v5 (w.heap.size) a0_0 a0_1 := hG.keep _ _ kx0 X0_4
            have X1_5 : BX v5 (w.heap.size + 1) a1_0 a1_1 := hG.keep _ _ kx1 X1_4
            have X2_5 : BX v5 (w.heap.size + 1 + 1) a2_0 a2_1 := hG.keep _ _ kx2 X2_4
            have X3_5 : BX v5 (w.heap.size + 1 + 1 + 1) a3_0 a3_1 := hG.keep _ _ kx3 X3_4
            have F_5 : BY v5 ga17 F1 F2 := hG.keep _ _ kxF F_4
            have Z0_5 : BX v5 gb12 r0 a0_0 := by have := hG.box (8, gb12, (p0, q0), (r0, a0_0)) (by simp); simp only [if_pos (hl 8 (by decide))] at this; exact this
            have Z1_5 : BX v5 gb13 r1 a1_0 := by have := hG.box (9, gb13, (p1, q1), (r1, a1_0)) (by simp); simp only [if_pos (hl 9 (by decide))] at this; exact this
            have Z2_5 : BX v5 gb14 r2 a2_0 := by have := hG.box (10, gb14, (p2, q2), (r2, a2_0)) (by simp); simp only [if_pos (hl 10 (by decide))] at this; exact this
            have Z3_5 : BX v5 gb15 r3 a3_0 := by have := hG.box (11, gb15, (p3, q3), (r3, a3_0)) (by simp); simp only [if_pos (hl 11 (by decide))] at this; exact this
            have hB5 := hG.bl
            simp only [putFrom, Act.put, List.setIfInBounds_toArray, List.set_cons_zero, List.set_cons_succ, e0, e1, e2, e3, e4, e5, e6, e7]
            clear e0 e1 e2 e3 e4 e5 e6 e7 hG hl X0_4 X1_4 X2_4 X3_4 X4_4 F_4 Z0_4 Z1_4 Z2_4 Z3_4 hB4 kx0 kx1 kx2 kx3 kxF ks0 ks1 ks2 ks3 kb
            have fX0_0 := X0_5.c0
            have fX0_1 := X0_5.c1
            have fX1_0 := X1_5.c0
            have fX1_1 := X1_5.c1
            have fX2_0 := X2_5.c0
            have fX2_1 := X2_5.c1
            have fX3_0 := X3_5.c0
            have fX3_1 := X3_5.c1
            have fF_0 := F_5.c0
            have fF_1 := F_5.c1
            have fZ0_0 := Z0_5.c0
            have fZ0_1 := Z0_5.c1
            have fZ1_0 := Z1_5.c0
            have fZ1_1 := Z1_5.c1
            have fZ2_0 := Z2_5.c0
            have fZ2_1 := Z2_5.c1
            have fZ3_0 := Z3_5.c0
            have fZ3_1 := Z3_5.c1
            go_wp2_with fail
            clear fX0_0 fX0_1 fX1_0 fX1_1 fX2_0 fX2_1 fX3_0 fX3_1 fF_0 fF_1 fZ0_0 fZ0_1 fZ1_0 fZ1_1 fZ2_0 fZ2_1 fZ3_0 fZ3_1
            have kX0_0 := GB.cell X0_5.lt X0_5.c0
            have kX0_1 := GB.cell X0_5.lt X0_5.c1
            have kX1_0 := GB.cell X1_5.lt X1_5.c0
            have kX1_1 := GB.cell X1_5.lt X1_5.c1
            have kX2_0 := GB.cell X2_5.lt X2_5.c0
            have kX2_1 := GB.cell X2_5.lt X2_5.c1
            have kX3_0 := GB.cell X3_5.lt X3_5.c0
            have kX3_1 := GB.cell X3_5.lt X3_5.c1
            have kF_0 := GB.cell F_5.lt F_5.c0
            have kF_1 := GB.cell F_5.lt F_5.c1
            have kZ0_0 := GB.cell Z0_5.lt Z0_5.c0
            have kZ0_1 := GB.cell Z0_5.lt Z0_5.c1
            have kZ1_0 := GB.cell Z1_5.lt Z1_5.c0
            have kZ1_1 := GB.cell Z1_5.lt Z1_5.c1
            have kZ2_0 := GB.cell Z2_5.lt Z2_5.c0
            have kZ2_1 := GB.cell Z2_5.lt Z2_5.c1
            have kZ3_0 := GB.cell Z3_5.lt Z3_5.c0
            have kZ3_1 := GB.cell Z3_5.lt Z3_5.c1
            refine wp_region_gb mixed (by kernel_rfl) ?_
            try simp only [List.append]
            repeat
              with_reducible refine wpQuiet_step (fun K hK => ?_)
              go_simp
              first
                | (with_reducible refine hK _ ?_; clear hK K)
                | (rw [if_neg]; rotate_left; · (intro h; cases h); with_reducible refine hK _ ?_; clear hK K)
                | (apply Exists.intro; with_reducible refine ⟨fun _ => ?_, hK _ ?_⟩; (first | (go_at_call 11; with_reducible refine gb_of (cn3.out _)) | (go_at_call 19; with_reducible refine gb_of (cm3.out _)) | (go_at_call 15; with_reducible refine gb_of (cs3.out _)) | (go_at_call 24; with_reducible refine gb_of (cf3.out _)) | (go_at_call 13; with_reducible refine gb_of (cd3.out _)) | (go_at_call 13; with_reducible refine gb_of (ce3.out _)) | (go_at_call 17; with_reducible refine gb_of (aw.out _))); clear hK K)
            with_reducible refine wpQuiet_nil ?_
            intro w' hw'
            obtain ⟨⟨v6, b6⟩, hw''⟩ := hw'
            have hw3 : v6 = w' := hw''.symm
            subst hw3
            clear hw''
            clear kX0_0 kX0_1 kX1_0 kX1_1 kX2_0 kX2_1 kX3_0 kX3_1 kF_0 kF_1 kZ0_0 kZ0_1 kZ1_0 kZ1_1 kZ2_0 kZ2_1 kZ3_0 kZ3_1
            have X0_6 := X0_5.bl b6
            have X1_6 := X1_5.bl b6
            have X2_6 := X2_5.bl b6
            have X3_6 := X3_5.bl b6
            have F_6 := F_5.bl b6
            have Z0_6 := Z0_5.bl b6
            have Z1_6 := Z1_5.bl b6
            have Z2_6 := Z2_5.bl b6
            have Z3_6 := Z3_5.bl b6
            have hB6 := Bl.trans hB5 b6
            clear X0_5 X1_5 X2_5 X3_5 F_5 Z0_5 Z1_5 Z2_5 Z3_5 hB5 b6
            have fX0_0 := X0_6.c0
            have fX0_1 := X0_6.c1
            have fX1_0 := X1_6.c0
            have fX1_1 := X1_6.c1
            have fX2_0 := X2_6.c0
            have fX2_1 := X2_6.c1
            have fX3_0 := X3_6.c0
            have fX3_1 := X3_6.c1
            have fF_0 := F_6.c0
            have fF_1 := F_6.c1
            have fZ0_0 := Z0_6.c0
            have fZ0_1 := Z0_6.c1
            have fZ1_0 := Z1_6.c0
            have fZ1_1 := Z1_6.c1
            have fZ2_0 := Z2_6.c0
            have fZ2_1 := Z2_6.c1
            have fZ3_0 := Z3_6.c0
            have fZ3_1 := Z3_6.c1
            go_wp2_with fail
            go_ret
            exact ⟨rfl, hB6⟩

set_option maxRecDepth 100000 in
theorem lifted (os : Os) (started : os.Started) (H : Type) (enc : TypeId × Value → H) :
    ReturnsInHanded {} Try.checked os 9 .any (Rows.geomRigidSpec.pre6 enc Try.prog Try.f9 Rows.geomRigidRow.domain false) (Rows.geomRigidSpec.post enc Try.prog Try.f9 false true false false) := by
  refine returnsInHanded_of_change (C := Try.checked) own started (by kernel_rfl) Try.func9
    (ChangeSpec.witness6 (enc := enc) (C := Try.checked) false ⟨#[], #[.agg #[.int .i64 0, .int .i64 0], .agg #[.int .i64 0, .int .i64 0], .agg #[.int .i64 0, .int .i64 0], .agg #[.int .i64 0, .int .i64 0], .agg #[.int .i64 0, .int .i64 0]], []⟩ 8 (by kernel_rfl) (by kernel_rfl) (by kernel_rfl) (by kernel_rfl)) ?_
  intro W base args ds gs before hval0 hW _ _
  have hval : ∀ (j : Nat) t v, Try.f9.params[j]? = some t → args[j]? = some v → Value.okWide Try.prog W .any base t v := hval0
  have hW' := hW
  obtain ⟨p, q, hA0, hV, rfl, hfz, hnd⟩ := hW
  have hA : DataW.TrodAll enc Try.prog W 0 (fun _ => true) true Try.f9.params.toList args.toList ds p := hA0
  rw [Try.params9] at hA hval
  obtain ⟨v0, vs0, d0, ds0, p0, q0, hargs, rfl, rfl, h0, r0⟩ := trodAll_cons hA
  obtain ⟨v1, vs1, d1, ds1, p1, q1, rfl, rfl, rfl, h1, r1⟩ := trodAll_cons r0
  obtain ⟨v2, vs2, d2, ds2, p2, q2, rfl, rfl, rfl, h2, r2⟩ := trodAll_cons r1
  obtain ⟨v3, vs3, d3, ds3, p3, q3, rfl, rfl, rfl, h3, r3⟩ := trodAll_cons r2
  obtain ⟨v4, vs4, d4, ds4, p4, q4, rfl, rfl, rfl, h4, r4⟩ := trodAll_cons r3
  obtain ⟨rfl, rfl, rfl⟩ := trodAll_nil r4
  obtain rfl : args = #[v0, v1, v2, v3, v4] := by cases args; simp_all
  obtain ⟨rfl, rfl⟩ := trodVars_none hV
  have k0 := h0
  obtain ⟨a0_0, a0_1, rfl, rfl, rfl, w0_0, w0_1⟩ := open_st2 Try.underlying23 (by kernel_rfl) ⟨rfl, rfl⟩ ⟨rfl, rfl⟩ (hval 0 23 v0 rfl rfl) h0
  have k1 := h1
  obtain ⟨a1_0, a1_1, rfl, rfl, rfl, w1_0, w1_1⟩ := open_st2 Try.underlying23 (by kernel_rfl) ⟨rfl, rfl⟩ ⟨rfl, rfl⟩ (hval 1 23 v1 rfl rfl) h1
  have k2 := h2
  obtain ⟨a2_0, a2_1, rfl, rfl, rfl, w2_0, w2_1⟩ := open_st2 Try.underlying23 (by kernel_rfl) ⟨rfl, rfl⟩ ⟨rfl, rfl⟩ (hval 2 23 v2 rfl rfl) h2
  have k3 := h3
  obtain ⟨a3_0, a3_1, rfl, rfl, rfl, w3_0, w3_1⟩ := open_st2 Try.underlying23 (by kernel_rfl) ⟨rfl, rfl⟩ ⟨rfl, rfl⟩ (hval 3 23 v3 rfl rfl) h3
  have k4 := h4
  obtain ⟨a4_0, a4_1, rfl, rfl, rfl, w4_0, w4_1⟩ := open_st2 Try.underlying23 (by kernel_rfl) ⟨rfl, rfl⟩ ⟨rfl, rfl⟩ (hval 4 23 v4 rfl rfl) h4
  clear hA0 hval0
  refine (walk a0_0 a0_1 a1_0 a1_1 a2_0 a2_1 a3_0 a3_1 a4_0 a4_1 W w0_0 w0_1 w1_0 w1_1 w2_0 w2_1 w3_0 w3_1 w4_0 w4_1).mono fun e W' ⟨he, bel⟩ => ?_
  subst he
  exact ⟨_, rfl, _, _, _, [], _, [], hW', trodAll_mk1 (shut_bool Try.underlying4 _), (trodAll_cons_mk (Below.trod laidOut (by kernel_rfl) (of_decide_eq_true (by kernel_rfl)) k0 bel (fun x hx => by cases hx)) (trodAll_cons_mk (Below.trod laidOut (by kernel_rfl) (of_decide_eq_true (by kernel_rfl)) k1 bel (fun x hx => by cases hx)) (trodAll_cons_mk (Below.trod laidOut (by kernel_rfl) (of_decide_eq_true (by kernel_rfl)) k2 bel (fun x hx => by cases hx)) (trodAll_cons_mk (Below.trod laidOut (by kernel_rfl) (of_decide_eq_true (by kernel_rfl)) k3 bel (fun x hx => by cases hx)) (trodAll_cons_mk (Below.trod laidOut (by kernel_rfl) (of_decide_eq_true (by kernel_rfl)) k4 bel (fun x hx => by cases hx)) trodAll_mk0))))), rfl, Below.frame bel _, fun h => by cases h⟩

theorem holds : Rows.GeomRigidSaid :=
  OpenClaim.holds_of_wide 9 Try.f9 rfl rfl rfl rfl rfl rfl rfl ⟨rfl, rfl, rfl, rfl, rfl⟩ rfl rfl rfl rfl rfl (by kernel_rfl) Try.func9 (by kernel_rfl)
    (of_decide_eq_true (by kernel_rfl)) (by unfold Func.isWrapper; first | (rw [if_pos (by decide +kernel)]; kernel_rfl) | (rw [if_neg (by decide +kernel)]; exact ⟨rfl, rfl⟩))
    (fun os started H enc _ => lifted os started H enc)
end Go.Proofs.Ytjdkgndecnhokaa.GeomRigid
