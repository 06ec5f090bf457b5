/- WireSequence returns true for every list of values and bytes that hold together at most 1048576 values and letters: what was encoded is decoded in the same order. One condition: that bound. -/
import Derived.Test.YtlpljhaogmfnkaaWOut
import Derived.Test.YtlpljhaogmfnkaaWArgs
import Derived.Test.YtlpljhaogmfnkaaWItems
namespace Go.Proofs.Ytlpljhaogmfnkaa.WireSequence
open Go.ChangeShapes Go.WideShapes Go.ChangeAt Go.RowKit
open Go.ChangeMaps (open_string shut_string)
open Go.Proofs.Ytlpljhaogmfnkaa.Wire
set_option linter.unusedVariables false
set_option linter.unusedSimpArgs false

theorem strOf_sb (s : ByteArray) : strOfNums (sb s) = s := by
  have h : ((sb s).map fun n : Int => UInt8.ofNat n.toNat) = s.data.toList := by
    unfold sb
    rw [List.map_map]
    have : ∀ x ∈ s.data.toList, ((fun n : Int => UInt8.ofNat n.toNat) ∘ fun b : UInt8 => (b.toNat : Int)) x = x := by
      intro x _
      simp
    rw [List.map_congr_left this, List.map_id']
  unfold strOfNums
  rw [h]

/-- what is decoded of an encoding, whatever follows -/
theorem back0 {x : Itm} (hf : Fit x) (h : x.kind = 0) (rest : List Int) : dn (encI x ++ rest) = x.num ∧ du (encI x ++ rest) = ((encI x).length : Int) ∧ de (encI x ++ rest) = 0 := by
  have hd := dec_enc (n := x.num) rest hf.1 hf.2.1
  unfold encI
  rw [if_pos h]
  unfold dn du de
  rw [hd]; exact ⟨rfl, rfl, rfl⟩
theorem back1 {x : Itm} (hf : Fit x) (h0 : x.kind ≠ 0) (h : x.kind = 1) (rest : List Int) : strOfNums (ts (encI x ++ rest) x.str.size) = x.str ∧ tu (encI x ++ rest) x.str.size = ((encI x).length : Int) ∧ te (encI x ++ rest) x.str.size = 0 := by
  have h5 := hf.2.2.2.2.1
  have hl : ((sb x.str).length : Int) = (x.str.size : Int) := by rw [sb_len]
  have hd := t3 (tex_enc (s := sb x.str) (rest := rest) (m := x.str.size) (by omega) (by omega))
  rw [hl] at hd
  unfold encI
  rw [if_neg h0, if_pos h]
  refine ⟨by rw [← hd.1, strOf_sb], ?_, hd.2.2.symm⟩
  rw [← hd.2.1, List.length_append, sb_len]; omega
theorem back2 {x : Itm} (hf : Fit x) (h0 : x.kind ≠ 0) (h : x.kind ≠ 1) (rest : List Int) : ll (encI x ++ rest) x.ints.length = x.ints ∧ lu (encI x ++ rest) x.ints.length = ((encI x).length : Int) ∧ le (encI x ++ rest) x.ints.length = 0 := by
  have h6 := hf.2.2.2.2.2.1
  have hd := l3 (lis_enc (l := x.ints) (rest := rest) (m := x.ints.length) hf.2.2.2.2.2.2 (by omega) (by omega))
  unfold encI
  rw [if_neg h0, if_neg h]
  exact ⟨hd.1.symm, hd.2.1.symm, hd.2.2.symm⟩
theorem encI_pos (x : Itm) : 1 ≤ (encI x).length := by
  have e1 := enc_len x.num
  have e2 := enc_len x.str.size
  have e3 := enc_len x.ints.length
  unfold encI
  split
  · omega
  · split <;> (rw [List.length_append]; omega)

set_option maxRecDepth 100000 in
set_option maxHeartbeats 8000000 in
theorem walk (a0 : Option Addr) (len0 cap0 : Nat) (its : List Itm) (a1 : Option Addr) (len1 cap1 : Nat) (z1 : List Int) (w : World) (s0 : ShI w w.heap.size a0 len0 its) (l0 : len0 ≤ cap0) (hfit : ∀ x ∈ its, Fit x)
    (s1 : Sh w w.heap.size .u8 a1 len1 z1) (l1 : len1 ≤ cap1) (w1 : ∀ n ∈ z1, (Lit.int .u8 n).wf = true) (h1 : len1 ≤ 1048576) (h0 : len0 ≤ 1048576) :
    Calls Try.prog 6 #[.slice a0 len0 cap0, .slice a1 len1 cap1] w fun e w' => e = .returned (.bool true) ∧ Bl w w' := by
  have hb1 : byts z1 := fun x hx => wf_u8 (w1 x hx)
  have hl0 := s0.1
  have hl1 := s1.len
  clear w1
  by_cases h100 : 100 < len0
  · go_enter Try.func6, Try.ntmps6
    go_wp2_with fail
    refine (awake_any _).mono ?_
    rintro e wz ⟨rfl, hz⟩
    go_wp2_with fail
    go_ret
    exact ⟨rfl, hz⟩
  have hn : len0 ≤ 100 := by omega
  have HF := hid hfit
  have HL := hid hl0
  have HL1 := hid hl1
  clear hfit hl0 hl1
  go_enter Try.func6, Try.ntmps6
  go_wp2_with fail
  go_loopw [5, 6] (fun b i wr => ∃ (A : Option Addr) (m c k : Nat), b = .slice A m c ∧ i = .int .i64 k ∧ k ≤ len0 ∧ m ≤ c ∧ m ≤ k * 11000000 ∧ Sh wr wr.heap.size .u8 A m (encA (its.take k)) ∧ Bl w wr) (fun _ i _ => len0 - (intOf i).toNat)
  case atStart => exact ⟨none, 0, 0, 0, rfl, rfl, by omega, by omega, by omega, Sh.nil _ _ _ _, Bl.refl _⟩
  case round =>
    obtain ⟨A, m, c, k, rfl, rfl, hk, hmc, hmk, hs, hb⟩ := hrel
    by_cases hlt : k < len0
    · have hkl : k < its.length := by have := HL.out; omega
      have hx := HF.out its[k] (List.getElem_mem hkl)
      have hsn := hid (encA_snoc hkl)
      have hxl := encI_len hx
      obtain ⟨bb, oo, rfl, hbb, hit⟩ := (s0.bl hb).2 (by omega)
      obtain ⟨q0, q1, q2, A', c', q3, q4, q5⟩ := hit k hkl
      clear hit
      generalize its[k] = x at *
      have q5' := q5.more hb.size
      obtain ⟨x1, x2, x3, x4, x5, x6, x7⟩ := hx
      have hlen : Hid ((encA (its.take (k + 1))).length ≤ (k + 1) * 11000000) := hid (by
        have h := encA_len (l := its.take (k + 1)) (fun y hy => HF.out y (List.mem_of_mem_take hy))
        have h2 := List.length_take_le (k + 1) its
        omega)
      by_cases k0 : x.kind = 0
      ·
        have he : Hid (encI x = enc x.num) := hid (by unfold encI; rw [if_pos k0])
        have p := hid (putInt A m c _ x.num wr hs x1 x2 hmc (by omega))
        rw [← he.out, ← hsn.out] at p
        have t : (x.kind == 0) = true := by simpa using k0
        go_wp2_with fail
        refine p.out.mono ?_
        rintro e wn ⟨A1, c1, rfl, hs1, hc1, hb1⟩
        have hbn := hb.trans hb1
        clear hs hb hb1 q0 q1 q2 q3 q4 q5 q5' p
        go_wp2_with fail
        go_roundw
        case rel => exact ⟨A1, _, c1, k + 1, rfl, by go_num, by omega, hc1, hlen.out, hs1, hbn⟩
        case measure => simp [intOf]; omega
      · by_cases k1 : x.kind = 1
        ·
          have he : Hid (encI x = enc x.str.size ++ sb x.str) := hid (by unfold encI; rw [if_neg k0, if_pos k1])
          have p := hid (by have := putText A m c _ x.str wr hs hmc (by omega); rwa [List.append_assoc] at this)
          rw [← he.out, ← hsn.out] at p
          have t : (x.kind == 0) = false := by simpa using k0
          have t' : (x.kind == 1) = true := by simpa using k1
          go_wp2_with fail
          refine p.out.mono ?_
          rintro e wn ⟨A1, c1, rfl, hs1, hc1, hb1⟩
          have hbn := hb.trans hb1
          clear hs hb hb1 q0 q1 q2 q3 q4 q5 q5' p
          go_wp2_with fail
          go_roundw
          case rel => exact ⟨A1, _, c1, k + 1, rfl, by go_num, by omega, hc1, hlen.out, hs1, hbn⟩
          case measure => simp [intOf]; omega
        ·
          have he : Hid (encI x = enc x.ints.length ++ encs x.ints) := hid (by unfold encI; rw [if_neg k0, if_neg k1])
          have p := hid (by have := putList A m c _ A' x.ints.length c' x.ints wr hs q5' x7 hmc (by omega); rwa [List.append_assoc] at this)
          rw [← he.out, ← hsn.out] at p
          have t : (x.kind == 0) = false := by simpa using k0
          have t' : (x.kind == 1) = false := by simpa using k1
          go_wp2_with fail
          refine p.out.mono ?_
          rintro e wn ⟨A1, c1, rfl, hs1, hc1, hb1⟩
          have hbn := hb.trans hb1
          clear hs hb hb1 q0 q1 q2 q3 q4 q5 q5' p
          go_wp2_with fail
          go_roundw
          case rel => exact ⟨A1, _, c1, k + 1, rfl, by go_num, by omega, hc1, hlen.out, hs1, hbn⟩
          case measure => simp [intOf]; omega
    · obtain rfl : k = len0 := by omega
      have hta : Hid (encA (its.take k) = encA its) := hid (by rw [List.take_of_length_le (by have := HL.out; omega)])
      rw [hta.out] at hs
      have hby := hid (encA_byts HF.out)
      clear hta
      have hm0 : m ≤ 1100000000 := by omega
      go_wp2_with (first
        | (at_builtin; refine wpList_app_own _ rfl (.tmp 53) (.tmp 54) _ rfl el8 rfl (Ow.new wr _ _) rfl (hs.alloc (Nat.le_refl _) _) (by omega) (by omega) (by simp) ?_; intro Ao co wo ho hbl; rw [Nat.zero_add, List.nil_append] at ho; have hbo : Bl wr wo := ((Below.refl wr.heap.size wr).alloc (Nat.le_refl _) _).trans hbl; have hszo : wr.heap.size ≤ wo.heap.size := Below.size hbo)
        | (at_builtin; refine wpList_app_own _ rfl (.tmp 55) (.tmp 56) _ rfl el8 rfl ho rfl (s1.bl (hb.trans hbo)) (by omega) (by omega) hszo ?_; intro A2 c2 w2 ho2 hbl2; have hb2 : Bl w w2 := hb.trans (Below.trans hbo hbl2)))
      have hs2 := ho2.sh
      have hc2 := ow_cap ho2
      clear ho ho2 hbl hbl2 hbo hszo hs
      go_loopw [5, 7] (fun b i wr => ∃ (A : Option Addr) (m c j : Nat), b = .slice A m c ∧ i = .int .i64 j ∧ j ≤ k ∧ m ≤ c ∧ m ≤ 1200000000 ∧ Sh wr wr.heap.size .u8 A m (encA (its.drop j) ++ z1) ∧ Bl w wr) (fun _ i _ => k - (intOf i).toNat)
      case atStart => exact ⟨A2, m + len1, c2, 0, rfl, rfl, by omega, hc2, by omega, hs2, hb2⟩
      case round =>
        clear hs2 hb2 hc2
        obtain ⟨Ab, mb, cb, j, rfl, rfl, hj, hmc', hmb, hsx, hbx⟩ := hrel
        by_cases hlt2 : j < k
        ·
          have hjl : j < its.length := by have := HL.out; omega
          have hx := HF.out its[j] (List.getElem_mem hjl)
          have hdr := hid (encA_drop hjl)
          have hbyt : Hid (byts (encA (its.drop j) ++ z1)) := hid (byts_app (encA_byts (fun y hy => HF.out y (List.mem_of_mem_drop hy))) hb1)
          obtain ⟨bb, oo, rfl, hbb, hit⟩ := (s0.bl hbx).2 (by omega)
          obtain ⟨q0, q1, q2, A', c', q3, q4, q5⟩ := hit j hjl
          clear hit
          obtain ⟨R, hR⟩ : ∃ R, encA (its.drop (j + 1)) ++ z1 = R := ⟨_, rfl⟩
          have hdr' : Hid (encA (its.drop j) ++ z1 = encI its[j] ++ R) := hid (by rw [hdr.out, List.append_assoc, hR])
          have HR := hid hR
          clear hdr hR
          generalize its[j] = x at *
          have q5' := q5.more hbx.size
          rw [hdr'.out] at hsx hbyt
          clear hdr'
          have hpos := encI_pos x
          have hmb2 := hsx.len
          rw [List.length_append] at hmb2
          obtain ⟨u, hu⟩ : ∃ u, (encI x).length = u := ⟨_, rfl⟩
          rw [hu] at hpos hmb2
          obtain ⟨b2, o2, rfl, _, _⟩ := hsx.2 (by omega)
          have hdrop : Hid (∀ A'', (u < mb → A'' = some ⟨b2, o2 + u, none⟩) → Sh wr wr.heap.size .u8 A'' (mb - u) R) := hid (by
            intro A'' h
            have := hsx.drop (m := u) (A' := A'') (by omega) (fun hlt b o e => by injection e with e; injection e with e1 e2; subst e1 e2; exact h hlt)
            rwa [List.drop_left' hu] at this)
          have hxs : x.str.size ≤ 1048576 ∧ x.ints.length ≤ 1048576 := ⟨hx.2.2.2.2.1, hx.2.2.2.2.2.1⟩
          have v1 : decide ((u : Int) < 1) = false := decide_eq_false (by omega)
          have v2 : decide (u < 1) = false := decide_eq_false (by omega)
          have v3 : decide (u = 0) = false := decide_eq_false (by omega)
          have v4 : decide (mb < u) = false := decide_eq_false (by omega)
          have v5 : u ≤ mb := by omega
          have HU := hid hu
          have HM := hid hmb2
          clear hu hmb2
          by_cases k0 : x.kind = 0
          ·
            have hbk := back0 hx k0 R
            have c1 : Hid (∀ wy, Sh wy wr.heap.size .u8 (some ⟨b2, o2, none⟩) mb (encI x ++ R) → Calls Try.prog 11 #[.slice (some ⟨b2, o2, none⟩) mb cb] wy fun e w' => e = .returned (.tuple #[.int .i64 x.num, .int .i64 (u : Int), .int .i64 0]) ∧ wy = w') :=
              hid (fun wy h => by have := Int_any _ mb cb _ wy _ h hbyt.out hmc' (by omega); rw [hbk.1, hbk.2.1, hbk.2.2, HU.out] at this; exact this)
            have t : (x.kind == 0) = true := by simpa using k0
            clear hbk hx
            by_cases hcu : cb = u
            · obtain rfl : mb = u := by omega
              subst hcu
              go_wp2_with fail
              go_quiet (fail)
              go_wp2_with fail
              refine (c1.out _ (hsx.drewN _)).mono ?_
              rintro e w' ⟨rfl, rfl⟩
              go_wp2_with fail
              refine (SameInts_eq A' A' _ c' c' x.ints _ _ _ (q5.drewN _) (q5.drewN _) (by omega)).mono ?_
              rintro e wq ⟨rfl, hq⟩
              have hbw : Bl wr wq := (Bl.q (Bl.refl wr) ⟨_, rfl⟩).q hq
              have hbq := hbx.trans hbw
              have hsq := (hdrop.out (some ⟨b2, o2, none⟩) (fun h => by omega)).bl hbw
              rw [← HR.out] at hsq
              clear hbw hq hsx
              go_wp2_with fail
              go_roundw
              case rel => exact ⟨_, 0, 0, j + 1, rfl, by go_num, by omega, by omega, by omega, by simpa using hsq, hbq⟩
              case measure => simp [intOf]; omega
            · have hcu' : u < cb := by omega
              clear hcu
              go_wp2_with fail
              go_quiet (fail)
              go_wp2_with fail
              refine (c1.out _ (hsx.drewN _)).mono ?_
              rintro e w' ⟨rfl, rfl⟩
              go_wp2_with fail
              refine (SameInts_eq A' A' _ c' c' x.ints _ _ _ (q5.drewN _) (q5.drewN _) (by omega)).mono ?_
              rintro e wq ⟨rfl, hq⟩
              have hbw : Bl wr wq := (Bl.q (Bl.refl wr) ⟨_, rfl⟩).q hq
              have hbq := hbx.trans hbw
              have hsq := (hdrop.out (some ⟨b2, o2 + u, none⟩) (fun _ => rfl)).bl hbw
              rw [← HR.out] at hsq
              clear hbw hq hsx
              go_wp2_with fail
              go_roundw
              case rel => exact ⟨_, mb - u, cb - u, j + 1, rfl, by go_num, by omega, by omega, by omega, hsq, hbq⟩
              case measure => simp [intOf]; omega
          · by_cases k1 : x.kind = 1
            ·
              have hbk := back1 hx k0 k1 R
              have c1 : Hid (∀ wy, Sh wy wr.heap.size .u8 (some ⟨b2, o2, none⟩) mb (encI x ++ R) → Calls Try.prog 17 #[.slice (some ⟨b2, o2, none⟩) mb cb, .int .i64 x.str.size] wy fun e w' => e = .returned (.tuple #[.string x.str, .int .i64 (u : Int), .int .i64 0]) ∧ wy = w') :=
                hid (fun wy h => by have := Text_any _ mb cb _ x.str.size wy _ h hbyt.out hmc' (by omega); rw [hbk.1, hbk.2.1, hbk.2.2, HU.out] at this; exact this)
              have t : (x.kind == 0) = false := by simpa using k0
              have t' : (x.kind == 1) = true := by simpa using k1
              clear hbk hx
              by_cases hcu : cb = u
              · obtain rfl : mb = u := by omega
                subst hcu
                go_wp2_with fail
                go_quiet (fail)
                go_wp2_with fail
                refine (c1.out _ (hsx.drewN _)).mono ?_
                rintro e w' ⟨rfl, rfl⟩
                go_wp2_with fail
                refine (SameInts_eq A' A' _ c' c' x.ints _ _ _ (q5.drewN _) (q5.drewN _) (by omega)).mono ?_
                rintro e wq ⟨rfl, hq⟩
                have hbw : Bl wr wq := (Bl.q (Bl.refl wr) ⟨_, rfl⟩).q hq
                have hbq := hbx.trans hbw
                have hsq := (hdrop.out (some ⟨b2, o2, none⟩) (fun h => by omega)).bl hbw
                rw [← HR.out] at hsq
                clear hbw hq hsx
                go_wp2_with fail
                go_roundw
                case rel => exact ⟨_, 0, 0, j + 1, rfl, by go_num, by omega, by omega, by omega, by simpa using hsq, hbq⟩
                case measure => simp [intOf]; omega
              · have hcu' : u < cb := by omega
                clear hcu
                go_wp2_with fail
                go_quiet (fail)
                go_wp2_with fail
                refine (c1.out _ (hsx.drewN _)).mono ?_
                rintro e w' ⟨rfl, rfl⟩
                go_wp2_with fail
                refine (SameInts_eq A' A' _ c' c' x.ints _ _ _ (q5.drewN _) (q5.drewN _) (by omega)).mono ?_
                rintro e wq ⟨rfl, hq⟩
                have hbw : Bl wr wq := (Bl.q (Bl.refl wr) ⟨_, rfl⟩).q hq
                have hbq := hbx.trans hbw
                have hsq := (hdrop.out (some ⟨b2, o2 + u, none⟩) (fun _ => rfl)).bl hbw
                rw [← HR.out] at hsq
                clear hbw hq hsx
                go_wp2_with fail
                go_roundw
                case rel => exact ⟨_, mb - u, cb - u, j + 1, rfl, by go_num, by omega, by omega, by omega, hsq, hbq⟩
                case measure => simp [intOf]; omega
            ·
              have hbk := back2 hx k0 k1 R
              have c1 : Hid (∀ n, Calls Try.prog 21 #[.slice (some ⟨b2, o2, none⟩) mb cb, .int .i64 x.ints.length] (wr.drewN n) (Out3 (wr.drewN n) x.ints (u : Int) 0)) :=
                hid (fun n => by have := list2 _ mb cb _ x.ints.length (wr.drewN n) (hsx.drewN n) hbyt.out hmc' (by omega); rw [hbk.1, hbk.2.1, hbk.2.2, HU.out] at this; exact this)
              have t : (x.kind == 0) = false := by simpa using k0
              have t' : (x.kind == 1) = false := by simpa using k1
              clear hbk hx
              by_cases hcu : cb = u
              · obtain rfl : mb = u := by omega
                subst hcu
                go_wp2_with fail
                go_quiet (fail)
                go_wp2_with fail
                refine (c1.out _).mono ?_
                rintro e wl ⟨A3, c3, rfl, hs3, hb3⟩
                have hbl : Bl wr wl := Bl.trans (Bl.q (Bl.refl wr) ⟨_, rfl⟩) hb3
                have q6 := q5'.bl hbl
                have hq0 : wl.cell? ⟨bb, oo + j * 4 + 3, none⟩ = some (.slice A' x.ints.length c') := (Below.cell hbl (p := ⟨bb, oo + j * 4 + 3, none⟩) (by have := hbx.size; show bb < wr.heap.size; omega)).trans q3
                have hq1 : wl.cell? ⟨bb, oo + j * 4 + 1, none⟩ = some (.int .i64 x.num) := (Below.cell hbl (p := ⟨bb, oo + j * 4 + 1, none⟩) (by have := hbx.size; show bb < wr.heap.size; omega)).trans q1
                have hq2 : wl.cell? ⟨bb, oo + j * 4 + 2, none⟩ = some (.string x.str) := (Below.cell hbl (p := ⟨bb, oo + j * 4 + 2, none⟩) (by have := hbx.size; show bb < wr.heap.size; omega)).trans q2
                go_wp2_with fail
                refine (sameI2 x.ints A3 A' _ _ _ (by omega) hs3 q6).mono ?_
                rintro e wq ⟨rfl, hq⟩
                have hbw : Bl wr wq := hbl.q hq
                have hbq := hbx.trans hbw
                have hsq := (hdrop.out (some ⟨b2, o2, none⟩) (fun h => by omega)).bl hbw
                rw [← HR.out] at hsq
                clear hbw hq hsx
                go_wp2_with fail
                go_roundw
                case rel => exact ⟨_, 0, 0, j + 1, rfl, by go_num, by omega, by omega, by omega, by simpa using hsq, hbq⟩
                case measure => simp [intOf]; omega
              · have hcu' : u < cb := by omega
                clear hcu
                go_wp2_with fail
                go_quiet (fail)
                go_wp2_with fail
                refine (c1.out _).mono ?_
                rintro e wl ⟨A3, c3, rfl, hs3, hb3⟩
                have hbl : Bl wr wl := Bl.trans (Bl.q (Bl.refl wr) ⟨_, rfl⟩) hb3
                have q6 := q5'.bl hbl
                have hq0 : wl.cell? ⟨bb, oo + j * 4 + 3, none⟩ = some (.slice A' x.ints.length c') := (Below.cell hbl (p := ⟨bb, oo + j * 4 + 3, none⟩) (by have := hbx.size; show bb < wr.heap.size; omega)).trans q3
                have hq1 : wl.cell? ⟨bb, oo + j * 4 + 1, none⟩ = some (.int .i64 x.num) := (Below.cell hbl (p := ⟨bb, oo + j * 4 + 1, none⟩) (by have := hbx.size; show bb < wr.heap.size; omega)).trans q1
                have hq2 : wl.cell? ⟨bb, oo + j * 4 + 2, none⟩ = some (.string x.str) := (Below.cell hbl (p := ⟨bb, oo + j * 4 + 2, none⟩) (by have := hbx.size; show bb < wr.heap.size; omega)).trans q2
                go_wp2_with fail
                refine (sameI2 x.ints A3 A' _ _ _ (by omega) hs3 q6).mono ?_
                rintro e wq ⟨rfl, hq⟩
                have hbw : Bl wr wq := hbl.q hq
                have hbq := hbx.trans hbw
                have hsq := (hdrop.out (some ⟨b2, o2 + u, none⟩) (fun _ => rfl)).bl hbw
                rw [← HR.out] at hsq
                clear hbw hq hsx
                go_wp2_with fail
                go_roundw
                case rel => exact ⟨_, mb - u, cb - u, j + 1, rfl, by go_num, by omega, by omega, by omega, hsq, hbq⟩
                case measure => simp [intOf]; omega
        · obtain rfl : j = k := by omega
          have hd : Hid (encA (its.drop j) ++ z1 = z1) := hid (by rw [List.drop_of_length_le (by have := HL.out; omega)]; rfl)
          rw [hd.out] at hsx
          obtain rfl : mb = len1 := by have := hsx.len; have := HL1.out; omega
          go_wp2_with fail
          refine (Same_eq Ab a1 mb cb cap1 z1 _ _ _ hsx (s1.bl hbx) (by omega)).mono ?_
          rintro e wq ⟨rfl, hq⟩
          have hbq := hbx.q hq
          clear hq hsx
          go_wp2_with fail
          refine (awake_any _).mono ?_
          rintro e wz ⟨rfl, hz⟩
          have hend := hbq.trans hz
          clear hz hbq
          go_wp2_with fail
          go_ret
          exact ⟨rfl, hend⟩

set_option maxRecDepth 100000 in
theorem lifted (os : Os) (started : os.Started) (H : Type) (enc : TypeId × Value → H) (F : Stop.Interp) :
    ReturnsInHanded {} Try.checked os 6 .any ((Rows.OpenSpec.upto Rows.wireSequenceSpec).pre6 enc Try.prog Try.f6 Rows.wireSequenceUptoRow.domain false) (((Rows.OpenSpec.upto Rows.wireSequenceSpec).at F).post enc Try.prog Try.f6 false true false false) := by
  refine returnsInHanded_of_cond (C := Try.checked) (s := Rows.OpenSpec.upto Rows.wireSequenceSpec) (k := Rows.uptoSmall) rfl own started (by kernel_rfl) Try.func6
    (OpenSpec.witness (enc := enc) (C := Try.checked) (s := Rows.OpenSpec.upto Rows.wireSequenceSpec) (k := Rows.uptoSmall) rfl false ⟨#[], #[.slice none 0 0, .slice none 0 0], []⟩ 8 (by kernel_rfl) (by kernel_rfl) (by kernel_rfl)
      (x := ([.nil, .nil], [], [])) (by kernel_rfl) rfl (by kernel_rfl)) ?_
  intro W base args ds gs before hval0 hW _ hk _
  have hval : ∀ (j : Nat) t v, Try.f6.params[j]? = some t → args[j]? = some v → Value.okWide Try.prog W .any base t v := hval0
  have hW' := hW
  obtain ⟨p, q, hA0, hV, rfl, hfz, hnd⟩ := hW
  have hA : DataW.TrodAll enc Try.prog W 0 (fun _ => true) true Try.f6.params.toList args.toList ds p := hA0
  rw [Try.params6] at hA hval
  obtain ⟨v0, vs0, d0, ds0, p0, q0, hargs, rfl, rfl, h0, r0⟩ := trodAll_cons hA
  obtain ⟨v1, vs1, d1, ds1, p1, q1, rfl, rfl, rfl, h1, r1⟩ := trodAll_cons r0
  obtain ⟨rfl, rfl, rfl⟩ := trodAll_nil r1
  obtain rfl : args = #[v0, v1] := by cases args; simp_all
  obtain ⟨rfl, rfl⟩ := trodVars_none hV
  have k0 := h0
  obtain ⟨a0, len0, cap0, its, rfl, l0, g0, s0, w0, lt0⟩ := open_items (hval 0 40 v0 rfl rfl) h0
  have k1 := h1
  obtain ⟨a1, len1, cap1, z1, rfl, l1, m1, n1, s1, w1, f1, lt1⟩ := open_row Try.underlying22 Try.underlying5 (by kernel_rfl) (hval 1 22 v1 rfl rfl) h1
  have g1 := bulk_row n1 l1 f1
  have hbk : Rows.uptoBulk d0 + cap1 ≤ 1048576 := by
    have h := of_decide_eq_true hk
    simp only [List.append_nil, List.cons_append, List.nil_append, Rows.uptoBulkAll] at h
    omega
  clear hA0 hval0
  have fit : ∀ x ∈ its, Fit x := fun x hx => by
    obtain ⟨q1, q2, q3, q4, q5, q6, q7⟩ := w0 x hx
    exact ⟨q1, q2, q3, q4, by omega, by omega, q7⟩
  refine (walk a0 len0 cap0 its a1 len1 cap1 (z1.take len1) W s0 l0 fit s1 l1 (fun n hn => w1 n (List.mem_of_mem_take hn)) (by omega) (by omega)).mono fun e W' ⟨he, bel⟩ => ?_
  subst he
  exact ⟨_, rfl, _, _, _, [], _, [], hW', trodAll_mk1 (shut_bool Try.underlying4 _), (trodAll_cons_mk (Below.trod laidOut (by kernel_rfl) (of_decide_eq_true (by kernel_rfl)) k0 bel lt0) (trodAll_cons_mk (Below.trod laidOut (by kernel_rfl) (of_decide_eq_true (by kernel_rfl)) k1 bel lt1) trodAll_mk0)), rfl, Below.frame bel _, fun h => by cases h⟩

theorem holds : Rows.WireSequenceUptoSaid :=
  OpenClaim.holds_of_cond 6 Try.f6 rfl rfl rfl rfl rfl rfl rfl ⟨rfl, rfl, rfl, rfl, rfl⟩ rfl rfl rfl rfl rfl (by kernel_rfl) Try.func6 (by kernel_rfl)
    (of_decide_eq_true (by kernel_rfl)) (by unfold Func.isWrapper; first | (rw [if_pos (by decide +kernel)]; kernel_rfl) | (rw [if_neg (by decide +kernel)]; exact ⟨rfl, rfl⟩))
    (fun os started H enc _ F => lifted os started H enc F)
end Go.Proofs.Ytlpljhaogmfnkaa.WireSequence
