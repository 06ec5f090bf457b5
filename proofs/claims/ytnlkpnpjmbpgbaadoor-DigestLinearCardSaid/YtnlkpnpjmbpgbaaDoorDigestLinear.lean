/- DigestLinear returns true for every three slices of bytes: the exclusive or of the checksums of three byte strings of one length is the checksum of their exclusive or. The table of the program is what its own text lays. No condition beyond the form's own reach. -/
import Derived.Test.YtnlkpnpjmbpgbaaDoorDLaid
namespace Go.Proofs.YtnlkpnpjmbpgbaaDoor.DigestLinear
open Go.ChangeShapes Go.WideShapes Go.ChangeAt Go.RowKit
open Go.ChangeMaps (open_string shut_string)
open Go.Proofs.YtnlkpnpjmbpgbaaDoor.Wire
open Go.Proofs.YtnlkpnpjmbpgbaaDoor.Digest
set_option linter.unusedVariables false
set_option linter.unusedSimpArgs false

theorem xor3_len (l : List Int) : ∀ (m n : List Int), l.length = m.length → l.length = n.length → (xor3 l m n).length = l.length := by
  induction l with
  | nil =>
    intro m n h1 h2
    obtain rfl : m = [] := List.eq_nil_of_length_eq_zero h1.symm
    obtain rfl : n = [] := List.eq_nil_of_length_eq_zero h2.symm
    rfl
  | cons a l ih =>
    intro m n h1 h2
    match m, n, h1, h2 with
    | b :: m, c :: n, h1, h2 =>
      rw [xor3_cons, List.length_cons, List.length_cons, ih m n (by simpa using h1) (by simpa using h2)]
theorem xor3_get (l : List Int) : ∀ (m n : List Int) (k : Nat), l.length = m.length → l.length = n.length → k < l.length → (xor3 l m n).getD k 0 = ((((l.getD k 0).toNat ^^^ (m.getD k 0).toNat) ^^^ (n.getD k 0).toNat : Nat) : Int) := by
  induction l with
  | nil => intro m n k _ _ h; simp at h
  | cons a l ih =>
    intro m n k h1 h2 hk
    match m, n, h1, h2 with
    | b :: m, c :: n, h1, h2 =>
      rw [xor3_cons]
      cases k with
      | zero => simp
      | succ k =>
        simp only [List.getD_cons_succ]
        exact ih m n k (by simpa using h1) (by simpa using h2) (by simpa using hk)
theorem xor8 {a b : Nat} (ha : a < 256) (hb : b < 256) : a ^^^ b < 256 := Nat.xor_lt_two_pow (n := 8) ha hb
theorem xor3_b (l : List Int) : ∀ (m n : List Int), byts l → byts m → byts n → byts (xor3 l m n) := by
  induction l with
  | nil => intro m n _ _ _ x hx; simp [xor3] at hx
  | cons a l ih =>
    intro m n hl hm hn
    match m, n with
    | [], n => intro x hx; simp [xor3] at hx
    | b :: m, [] => intro x hx; simp [xor3] at hx
    | b :: m, c :: n =>
      rw [xor3_cons]
      intro x hx
      rcases List.mem_cons.1 hx with rfl | hx
      · have h1 := hl a (by simp)
        have h2 := hm b (by simp)
        have h3 := hn c (by simp)
        have := xor8 (xor8 (a := a.toNat) (b := b.toNat) (by omega) (by omega)) (b := c.toNat) (by omega)
        omega
      · exact ih m n (fun y hy => hl y (by simp [hy])) (fun y hy => hm y (by simp [hy])) (fun y hy => hn y (by simp [hy])) x hx
theorem i64_xor (a b : Int) (h0 : 0 ≤ a) (h : a ≤ 4294967295) (g0 : 0 ≤ b) (g : b ≤ 4294967295) : bits .xor .i64 a b = ixor a b := by
  obtain ⟨A, rfl⟩ := Int.eq_ofNat_of_zero_le h0
  obtain ⟨B, rfl⟩ := Int.eq_ofNat_of_zero_le g0
  have hx : A ^^^ B < 2 ^ 32 := Nat.xor_lt_two_pow (by omega) (by omega)
  show IntKind.i64.wrap ((BitVec.ofInt 64 (A : Int) ^^^ BitVec.ofInt 64 (B : Int)).toNat : Int) = _
  rw [BitVec.toNat_xor, ofInt_u64 A (by omega), ofInt_u64 B (by omega)]
  unfold ixor
  simp only [Int.toNat_natCast]
  generalize A ^^^ B = X at *
  simp [IntKind.wrap, IntKind.bits, IntKind.signed]
  omega

set_option maxRecDepth 100000 in
set_option maxHeartbeats 1000000 in
theorem walk (a0 : Option Addr) (len0 cap0 : Nat) (z0 : List Int) (a1 : Option Addr) (len1 cap1 : Nat) (z1 : List Int) (a2 : Option Addr) (len2 cap2 : Nat) (z2 : List Int) (w : World) (s0 : Sh w w.heap.size .u8 a0 len0 z0) (l0 : len0 ≤ cap0) (w0 : ∀ n ∈ z0, (Lit.int .u8 n).wf = true) (b0 : cap0 ≤ 140737488351232) (s1 : Sh w w.heap.size .u8 a1 len1 z1) (l1 : len1 ≤ cap1) (w1 : ∀ n ∈ z1, (Lit.int .u8 n).wf = true) (b1 : cap1 ≤ 140737488351232) (s2 : Sh w w.heap.size .u8 a2 len2 z2) (l2 : len2 ≤ cap2) (w2 : ∀ n ∈ z2, (Lit.int .u8 n).wf = true) (b2 : cap2 ≤ 140737488351232) (hT : Tab w) :
    Calls Tryd.prog 8 #[.slice a0 len0 cap0, .slice a1 len1 cap1, .slice a2 len2 cap2] w fun e w' => e = .returned (.bool true) ∧ Bl w w' := by
  have c7 := hid (fun w1 (h : Bl w w1) => awake_any w1 (hT.bl h))
  by_cases h1 : len0 = len1
  · by_cases h2 : len0 = len2
    · subst h1; subst h2
      have hb0 : byts z0 := fun x hx => wf_u8 (w0 x hx)
      have hb1 : byts z1 := fun x hx => wf_u8 (w1 x hx)
      have hb2 : byts z2 := fun x hx => wf_u8 (w2 x hx)
      have e0 := hid s0.len
      have e1 := hid s1.len
      have e2 := hid s2.len
      have k0 := hid (fun w' (h : Bl w w') => Crc_any a0 len0 cap0 z0 w' _ (s0.bl h) hb0 (hT.bl h) (by omega))
      have k1 := hid (fun w' (h : Bl w w') => Crc_any a1 len0 cap1 z1 w' _ (s1.bl h) hb1 (hT.bl h) (by omega))
      have k2 := hid (fun w' (h : Bl w w') => Crc_any a2 len0 cap2 z2 w' _ (s2.bl h) hb2 (hT.bl h) (by omega))
      have k3 := hid (fun w' A c (hS : Sh w' w'.heap.size .u8 A len0 (xor3 z0 z1 z2)) (h : Bl w w') => Crc_any A len0 c _ w' _ hS (xor3_b z0 z1 z2 hb0 hb1 hb2) (hT.bl h) (by omega))
      have hxl := hid (show (xor3 z0 z1 z2).length = len0 by rw [xor3_len _ _ _ (by rw [e0.out, e1.out]) (by rw [e0.out, e2.out]), e0.out])
      have hxg := hid (fun k => xor3_get z0 z1 z2 k (by rw [e0.out, e1.out]) (by rw [e0.out, e2.out]))
      have hlin : ixor (ixor (icrc z0) (icrc z1)) (icrc z2) = icrc (xor3 z0 z1 z2) := by
        rw [icrc_is hb0, icrc_is hb1, icrc_is hb2, icrc_is (xor3_b z0 z1 z2 hb0 hb1 hb2), ← crc_linear (by rw [e0.out, e1.out]) (by rw [e0.out, e2.out]) hb0 hb1 hb2]
        rfl
      have q0 := icrc_b hb0
      have q1 := icrc_b hb1
      have q2 := icrc_b hb2
      have q01 := ixor_b q0.1 q0.2 q1.2
      have x1 := i64_xor _ _ q0.1 q0.2 q1.1 q1.2
      have x2 := i64_xor _ _ q01.1 q01.2 q2.1 q2.2
      rw [hlin] at x2
      have B0 := hid hb0
      have B1 := hid hb1
      have B2 := hid hb2
      clear w0 w1 w2 q0 q1 q2 hlin hb0 hb1 hb2
      generalize hX : xor3 z0 z1 z2 = X at *
      clear hX
      generalize ixor (icrc z0) (icrc z1) = D at *
      generalize icrc z0 = C0 at *
      generalize icrc z1 = C1 at *
      generalize icrc z2 = C2 at *
      generalize icrc X = C3 at *
      go_enter Tryd.func8, Tryd.ntmps8
      go_wp2_with fail
      go_loopw [7, 8] (fun b i wr => ∃ (A' : Option Addr) (c' k : Nat), b = .slice A' k c' ∧ i = .int .i64 k ∧ k ≤ len0 ∧ Ow wr w.heap.size 5 .u8 A' k c' (X.take k) ∧ Bl w wr) (fun _ i _ => len0 - (intOf i).toNat)
      case atStart => exact ⟨none, 0, 0, rfl, rfl, by omega, Ow.none_ _ _ _ _, Bl.refl _⟩
      case round =>
        obtain ⟨A', c', k, rfl, rfl, hk, ho, hb⟩ := hrel
        by_cases hlt : k < len0
        · obtain ⟨p0, o0, rfl, g0, hc0⟩ := s0.2 (by omega)
          obtain ⟨p1, o1, rfl, g1, hc1⟩ := s1.2 (by omega)
          obtain ⟨p2, o2, rfl, g2, hc2⟩ := s2.2 (by omega)
          have t0 := (hb.cell (p := ⟨p0, o0 + k, none⟩) g0).trans (hc0 k hlt)
          have t1 := (hb.cell (p := ⟨p1, o1 + k, none⟩) g1).trans (hc1 k hlt)
          have t2 := (hb.cell (p := ⟨p2, o2 + k, none⟩) g2).trans (hc2 k hlt)
          have v0 := byts_at B0.out k
          have v1 := byts_at B1.out k
          have v2 := byts_at B2.out k
          have hg := hxg.out k (by rw [e0.out]; exact hlt)
          have hsn := hid (take_snoc (l := X) (i := k) (by rw [hxl.out]; exact hlt))
          have hsz := hb.size
          clear hc0 hc1 hc2
          generalize z0.getD k 0 = x0 at *
          generalize z1.getD k 0 = x1 at *
          generalize z2.getD k 0 = x2 at *
          have r1 := u8_xor x0 x1 v0.1 (by omega) v1.1 (by omega)
          have hy := xor8 (a := x0.toNat) (b := x1.toNat) (by omega) (by omega)
          have r2 := u8_xor ((x0.toNat ^^^ x1.toNat : Nat) : Int) x2 (by omega) (by omega) v2.1 (by omega)
          rw [Int.toNat_natCast, ← hg] at r2
          clear hg
          generalize X.getD k 0 = V at *
          generalize ((x0.toNat ^^^ x1.toNat : Nat) : Int) = Y at *
          clear hy v0 v1 v2
          have ik0 : (0 : Int) ≤ (k : Int) := by omega
          have ik1 : (k : Int) < (len0 : Int) := by omega
          go_wp2_with fail
          go_region_held3 (fun w' => w'.cell? ⟨p0, o0 + k, none⟩ = some (.int .u8 x0) ∧ w'.cell? ⟨p1, o1 + k, none⟩ = some (.int .u8 x1) ∧ w'.cell? ⟨p2, o2 + k, none⟩ = some (.int .u8 x2))
            (first
              | go_keep
              | (go_split_ands
                 exact ⟨(hb2.cell (p := ⟨p0, o0 + k, none⟩) g0).trans (by assumption), (hb2.cell (p := ⟨p1, o1 + k, none⟩) g1).trans (by assumption), (hb2.cell (p := ⟨p2, o2 + k, none⟩) g2).trans (by assumption)⟩))
            ((refine step_app_own _ (by rfl) (.tmp 28) (.tmp 43) _ (by rfl) el8 (by rfl) ((ho.alloc _).drew) (by rfl) ((Sh.one _ _ _ _).drew) (by omega) (by omega) (by simp; omega) ?_; intro A2 c2 w2 ho2 hb2))
          go_wp2_with fail
          go_roundw
          case rel => exact ⟨A2, c2, k + 1, rfl, by go_num, by omega, by rw [hsn.out]; exact ho2, Below.trans (Bl.drew (hb.alloc _)) hb2⟩
          case measure => simp [intOf]; omega
        · obtain rfl : k = len0 := by omega
          rw [take_all (by rw [hxl.out]; omega)] at ho
          have hs := ho.sh
          clear ho
          go_wp2_with fail
          refine (k0.out _ hb).mono ?_
          rintro e w' ⟨rfl, rfl⟩
          go_wp2_with fail
          refine (k1.out _ hb).mono ?_
          rintro e w' ⟨rfl, rfl⟩
          go_wp2_with fail
          refine (k2.out _ hb).mono ?_
          rintro e w' ⟨rfl, rfl⟩
          go_wp2_with fail
          refine (k3.out _ _ _ hs hb).mono ?_
          rintro e w' ⟨rfl, rfl⟩
          go_wp2_with fail
          refine (c7.out _ hb).mono ?_
          rintro e w7 ⟨rfl, hb7⟩
          go_wp2_with fail
          go_ret
          exact ⟨rfl, hb.trans hb7⟩
    · have t2 : ((len0 : Int) == (len2 : Int)) = false := by simp; omega
      subst h1
      go_enter Tryd.func8, Tryd.ntmps8
      go_wp2_with fail
      refine (c7.out _ (Bl.refl _)).mono ?_
      rintro e w7 ⟨rfl, hb7⟩
      go_wp2_with fail
      go_ret
      exact ⟨rfl, hb7⟩
  · have t1 : ((len0 : Int) == (len1 : Int)) = false := by simp; omega
    go_enter Tryd.func8, Tryd.ntmps8
    go_wp2_with fail
    refine (c7.out _ (Bl.refl _)).mono ?_
    rintro e w7 ⟨rfl, hb7⟩
    go_wp2_with fail
    go_ret
    exact ⟨rfl, hb7⟩

set_option maxRecDepth 100000 in
theorem contract (H : Type) (enc : TypeId × Value → H) (W : World) (base : Nat) (args : Array Value) (ds gs : List (DataW H)) (before : List MemPlace)
    (hval0 : ∀ (j : Nat) t v, Tryd.f8.params[j]? = some t → args[j]? = some v → Value.okWide Tryd.prog W .any base t v)
    (hW : DataW.Whole enc Tryd.prog Tryd.f8.params.toList Rows.digestLinearSpec.vars false W args.toList ds gs before) (hsz0 : (DataW.weightsEach Tryd.prog (Tryd.f8.params.toList ++ Rows.digestLinearSpec.plain.varTypes Tryd.prog) (ds ++ gs)).all (· ≤ reachBytes) = true) (hL : laidMetH Tryd.prog Rows.digestLinearRow.laid W) :
    Calls Tryd.prog 8 args W fun e W' => ∃ v, e = .returned v ∧ Rows.digestLinearSpec.post enc Tryd.prog Tryd.f8 false true false false W args v W' := by
  have hsz := hsz0
  have hval : ∀ (j : Nat) t v, Tryd.f8.params[j]? = some t → args[j]? = some v → Value.okWide Tryd.prog W .any base t v := hval0
  have hW' := hW
  obtain ⟨p, q, hA0, hV, rfl, hfz, hnd⟩ := hW
  have hA : DataW.TrodAll enc Tryd.prog W 0 (fun _ => true) true Tryd.f8.params.toList args.toList ds p := hA0
  rw [Tryd.params8] at hA hval hsz
  obtain ⟨v0, vs0, d0, ds0, p0, q0, hargs, rfl, rfl, h0, r0⟩ := trodAll_cons hA
  obtain ⟨v1, vs1, d1, ds1, p1, q1, rfl, rfl, rfl, h1, r1⟩ := trodAll_cons r0
  obtain ⟨v2, vs2, d2, ds2, p2, q2, rfl, rfl, rfl, h2, r2⟩ := trodAll_cons r1
  obtain ⟨rfl, rfl, rfl⟩ := trodAll_nil r2
  obtain rfl : args = #[v0, v1, v2] := by cases args; simp_all
  obtain ⟨rfl, rfl⟩ := trodVars_none hV
  have k0 := h0
  obtain ⟨a0, len0, cap0, z0, rfl, l0, m0, n0, s0, w0, f0, lt0⟩ := open_row Tryd.underlying22 Tryd.underlying5 (by kernel_rfl) (hval 0 22 v0 rfl rfl) h0
  have b0 := reach_row hsz (j := 0) (t := 22) (e := 5) 1 rfl rfl Tryd.underlying22 (by kernel_rfl) n0 l0 f0
  have k1 := h1
  obtain ⟨a1, len1, cap1, z1, rfl, l1, m1, n1, s1, w1, f1, lt1⟩ := open_row Tryd.underlying22 Tryd.underlying5 (by kernel_rfl) (hval 1 22 v1 rfl rfl) h1
  have b1 := reach_row hsz (j := 1) (t := 22) (e := 5) 1 rfl rfl Tryd.underlying22 (by kernel_rfl) n1 l1 f1
  have k2 := h2
  obtain ⟨a2, len2, cap2, z2, rfl, l2, m2, n2, s2, w2, f2, lt2⟩ := open_row Tryd.underlying22 Tryd.underlying5 (by kernel_rfl) (hval 2 22 v2 rfl rfl) h2
  have b2 := reach_row hsz (j := 2) (t := 22) (e := 5) 1 rfl rfl Tryd.underlying22 (by kernel_rfl) n2 l2 f2
  clear hA0 hval0
  refine (walk a0 len0 cap0 (z0.take len0) a1 len1 cap1 (z1.take len1) a2 len2 cap2 (z2.take len2) W s0 l0 (fun n hn => w0 n (List.mem_of_mem_take hn)) (by simpa using b0) s1 l1 (fun n hn => w1 n (List.mem_of_mem_take hn)) (by simpa using b1) s2 l2 (fun n hn => w2 n (List.mem_of_mem_take hn)) (by simpa using b2) (table hL)).mono fun e W' ⟨he, bel⟩ => ?_
  subst he
  exact ⟨_, rfl, _, _, _, [], _, [], hW', trodAll_mk1 (shut_bool Tryd.underlying4 _), (trodAll_cons_mk (Below.trod laidOut (by kernel_rfl) (of_decide_eq_true (by kernel_rfl)) k0 bel lt0) (trodAll_cons_mk (Below.trod laidOut (by kernel_rfl) (of_decide_eq_true (by kernel_rfl)) k1 bel lt1) (trodAll_cons_mk (Below.trod laidOut (by kernel_rfl) (of_decide_eq_true (by kernel_rfl)) k2 bel lt2) trodAll_mk0))), rfl, Below.frame bel _, fun h => by cases h⟩

theorem laid_met (os : Os) : laidMet Tryd.prog Rows.digestLinearRow.laid ((laidWorld os).forCall (fun _ _ => 0) ⟨#[], #[.slice none 0 0, .slice none 0 0, .slice none 0 0], []⟩).memory :=
  laidMet_of_run' 8 (by kernel_rfl) (by kernel_rfl)
theorem reads (os : Os) {H : Type} (enc : TypeId × Value → H) : ∃ places, DataW.whole enc Tryd.prog ((laidWorld os).forCall (fun _ _ => 0) ⟨#[], #[.slice none 0 0, .slice none 0 0, .slice none 0 0], []⟩).memory Tryd.f8.params.toList Rows.digestLinearSpec.vars false (#[.slice none 0 0, .slice none 0 0, .slice none 0 0] : Array Value).toList 8 = some ([.nil, .nil, .nil], [], places) :=
  ⟨[], by kernel_rfl⟩
set_option maxRecDepth 100000 in
theorem lifted (os : Os) (started : os.Started) (H : Type) (enc : TypeId × Value → H) (F : Stop.Interp) :
    ReturnsInHanded {} Tryd.checked os 8 .any ((OpenSpec.ofChange Rows.digestLinearSpec).preRow enc Tryd.prog Tryd.f8 Rows.digestLinearRow.domain false Rows.digestLinearRow.laid) (((OpenSpec.ofChange Rows.digestLinearSpec).at F).post enc Tryd.prog Tryd.f8 false true false false) := by
  obtain ⟨places, hx⟩ := reads os enc
  refine returnsInHanded_of_row (C := Tryd.checked) (s := OpenSpec.ofChange Rows.digestLinearSpec) own started (by kernel_rfl) Tryd.func8
    (witness_row_at (enc := enc) (C := Tryd.checked) false (laidWorld os) #[.slice none 0 0, .slice none 0 0, .slice none 0 0] rfl (by kernel_rfl) (by kernel_rfl) (by kernel_rfl)
      (OpenSpec.preRow_of_cond 8 hx (by kernel_rfl) (fun k hk => by cases hk) (by kernel_rfl) (laid_met os))) ?_
  intro W base args ds gs before hval hW _ hcond hsz hL _ _
  exact contract H enc W base args ds gs before hval hW hsz hL
theorem said : Rows.DigestLinearSaid :=
  OpenClaim.holds_of_cond 8 Tryd.f8 rfl rfl rfl rfl rfl rfl rfl ⟨rfl, rfl, rfl, rfl, rfl⟩ rfl rfl rfl rfl rfl (by kernel_rfl) Tryd.func8 (by kernel_rfl)
    (of_decide_eq_true (by kernel_rfl)) (by unfold Func.isWrapper; first | (rw [if_pos (by decide +kernel)]; kernel_rfl) | (rw [if_neg (by decide +kernel)]; exact ⟨rfl, rfl⟩))
    (fun os started H enc _ F => by rw [OpenClaim.pre_eq_preRow]; exact lifted os started H enc F)
theorem plain (f : FuncId) (fn : Func) (hf : Tryd.pinned.checked.prog.funcNamed "mapsheets/mapsheetslaw03.DigestLinear" = some f) (hfn : Tryd.pinned.checked.prog.funcs[f]? = some fn) :
    false = Tryd.pinned.checked.prog.looks [] ∧ ∀ (j : Nat) t, fn.params[j]? = some t → Tryd.pinned.checked.prog.wantsStandIn t = false := by
  obtain rfl : f = 8 := Option.some.inj ((show Tryd.prog.funcNamed "mapsheets/mapsheetslaw03.DigestLinear" = some 8 by kernel_rfl).symm.trans hf) |>.symm
  obtain rfl : fn = Tryd.f8 := (Option.some.inj (Tryd.func8.symm.trans hfn)).symm
  refine ⟨by kernel_rfl, fun j t ht => ?_⟩
  rw [Tryd.params8] at ht
  have hm : t ∈ [22, 22, 22] := by simpa using Array.mem_of_getElem? ht
  have hall : ([22, 22, 22].all fun u => !Tryd.prog.wantsStandIn u) = true := by kernel_rfl
  exact (show Tryd.prog.wantsStandIn t = false by simpa using List.all_eq_true.1 hall t hm)
theorem card : Rows.DigestLinearCardSaid :=
  Claim7.holds_tied_plain_at .later [] _ _ _ _ said (fun _ h => by cases h) (by kernel_rfl) (fun _ h => by cases h) digestLinear_row_tie rfl ⟨rfl, rfl⟩ (by kernel_rfl) rfl plain (by kernel_rfl)
end Go.Proofs.YtnlkpnpjmbpgbaaDoor.DigestLinear
