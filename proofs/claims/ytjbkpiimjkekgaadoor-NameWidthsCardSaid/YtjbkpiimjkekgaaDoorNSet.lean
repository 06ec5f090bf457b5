/- Contracts of name: Cmp, Begins, Width. -/
import Derived.Test.YtjbkpiimjkekgaaDoorNKey
import Derived.BigQuiet
namespace Go.Proofs.YtjbkpiimjkekgaaDoor.Name
open Go.RowKit
open Go.Proofs.YtjbkpiimjkekgaaDoor.Wire
open Go.Proofs.YtjbkpiimjkekgaaDoor.Glyph
set_option linter.unusedVariables false

theorem Sh.two (w : World) (k : IntKind) (x y : Int) (t : TypeId) : Sh (w.alloc (.cells #[.int k x, .int k y] t)) (w.heap.size + 1) k (some ⟨w.heap.size, 0, none⟩) 2 [x, y] := by
  have := Sh.made w k t [x, y] #[.int k x, .int k y] rfl (g := w.heap.size) rfl
  simpa using this
theorem key_ne {S : List Int} (h : chk S = 0) : ∃ x k, key S = x :: k := by
  obtain ⟨_, _, l, hd, _, _, hc⟩ := chk_ok.1 h
  have := keyL_ne hc
  rw [key_some h hd]
  cases hk : keyL l with
  | nil => exact absurd hk this
  | cons x k => exact ⟨x, k, rfl⟩
theorem cmp_flat (S T : List Int) : cmp S T = if num (key S) (key T) = 0 then num S T else num (key S) (key T) := by
  by_cases h1 : chk S = 0 <;> by_cases h2 : chk T = 0
  · exact cmp_same ⟨fun _ => h2, fun _ => h1⟩
  · obtain ⟨x, k, hk⟩ := key_ne h1
    unfold cmp
    rw [if_neg (fun h => h.1 h1), if_pos ⟨h1, h2⟩, key_no h2, hk]
    rfl
  · obtain ⟨x, k, hk⟩ := key_ne h2
    unfold cmp
    rw [if_pos ⟨h1, h2⟩, key_no h1, hk]
    rfl
  · exact cmp_same ⟨fun h => absurd h h1, fun h => absurd h h2⟩
set_option maxHeartbeats 2000000 in
theorem Cmp_any (a b : ByteArray) (w : World) (hm : a.size ≤ 1099511627776) (hm1 : b.size ≤ 1099511627776) (hT : NT w) :
    Calls Tryd.prog 17 #[.string a, .string b] w fun e w' => e = .returned (.int .i64 (cmp (sb a) (sb b))) ∧ Bl w w' := by
  have k1 := Key_any a w hm hT
  have k2 := fun w' (hb : Bl w w') => Key_any b w' hm1 (hT.bl hb)
  unfold KeyOut at k1 k2
  have hf : cmp (sb a) (sb b) = if num (key (sb a)) (key (sb b)) = 0 then num (sb a) (sb b) else num (key (sb a)) (key (sb b)) := cmp_flat _ _
  have l1 := key_len40 (sb a)
  have l2 := key_len40 (sb b)
  generalize chk (sb a) = X at *
  generalize chk (sb b) = Y at *
  generalize key (sb a) = K at *
  generalize key (sb b) = L at *
  generalize hkn : K.length = n at *
  generalize hln : L.length = m at *
  have SC := hid (fun w' => StrCmp_any a b w')
  have K1 := hid k1
  have K2 := hid k2
  have fin := hid hf
  clear hf k1 k2 hkn hln
  generalize cmp (sb a) (sb b) = Z at *
  generalize num (sb a) (sb b) = U at *
  go_enter Tryd.func17, Tryd.ntmps17
  go_wp2_with fail
  refine K1.out.mono ?_
  rintro e w1 ⟨A1, c1, rfl, hs1, hc1, hb1⟩
  go_wp2_with fail
  refine (K2.out _ hb1).mono ?_
  rintro e w2 ⟨A2, c2, rfl, hs2, hc2, hb2⟩
  have hs12 := hs1.bl hb2
  have hb02 := hb1.trans hb2
  have N1 := hid (Compare_any A1 n c1 K A2 m c2 L w2 _ _ hs12 hs2 (by omega) (by omega))
  clear hb1 hb2 hs1
  generalize num K L = V at *
  go_wp2_with fail
  refine N1.out.mono ?_
  rintro e w3 ⟨rfl, hq3⟩
  have hb03 := hb02.q hq3
  go_wp2_with fail
  refine (SC.out _).mono ?_
  rintro e w4 ⟨rfl, rfl⟩
  go_wp2_with fail
  refine (Or2_at _ _ _ _ Z _ _ fin.out (Sh.two _ _ _ _ _)).mono ?_
  rintro e w4 ⟨rfl, rfl⟩
  go_wp2_with fail
  go_ret
  exact ⟨rfl, hb03.alloc _⟩

set_option maxHeartbeats 2000000 in
theorem Begins_any (a b : ByteArray) (w : World) (hm : a.size ≤ 1099511627776) (hm1 : b.size ≤ 1099511627776) (hT : NT w) :
    Calls Tryd.prog 19 #[.string a, .string b] w fun e w' => e = .returned (.bool (beg (sb a) (sb b))) ∧ Bl w w' := by
  have k1 := Key_any a w hm hT
  have k2 := fun w' (hb : Bl w w') => Key_any b w' hm1 (hT.bl hb)
  unfold KeyOut at k1 k2
  have hf : beg (sb a) (sb b) = decide (chk (sb a) = 0 ∧ (sb b = [] ∨ chk (sb b) = 0 ∧ key (sb b) <+: key (sb a))) := rfl
  have l1 := key_len40 (sb a)
  have l2 := key_len40 (sb b)
  have hb0 : b.size = 0 ↔ sb b = [] := by
    rw [← sb_len]; exact List.length_eq_zero_iff
  generalize chk (sb a) = X at *
  generalize chk (sb b) = Y at *
  generalize key (sb a) = K at *
  generalize key (sb b) = L at *
  generalize hkn : K.length = n at *
  generalize hln : L.length = m at *
  have HK := hid hkn
  have HLn := hid hln
  have K1 := hid k1
  have K2 := hid k2
  have HF := hid hf
  clear hf k1 k2 hkn hln
  generalize beg (sb a) (sb b) = Z at *
  by_cases hX : X = 0
  · subst hX
    by_cases h0 : b.size = 0
    · have he := hb0.1 h0
      have fin := hid (show Z = true by rw [HF.out, decide_eq_true]; exact ⟨rfl, .inl he⟩)
      clear HF hb0
      obtain rfl := sb_nil b he
      clear he
      go_enter Tryd.func19, Tryd.ntmps19
      go_wp2_with fail
      refine K1.out.mono ?_
      rintro e w1 ⟨A1, c1, rfl, hs1, hc1, hb1⟩
      go_wp2_with fail
      go_ret
      exact ⟨retB fin.out.symm, hb1⟩
    · have he : ¬ sb b = [] := fun e => h0 (hb0.2 e)
      have hz := hid (show Z = decide (Y = 0 ∧ L <+: K) by rw [HF.out]; simp [he])
      have te := str_ne h0
      clear HF hb0 he
      by_cases hY : Y = 0
      · subst hY
        by_cases hle : m ≤ n
        · have fin := hid (show Z = decide (L = K.take m) by
            rw [hz.out]
            have := num_pre (K := K) (L := L) (by rw [HK.out, HLn.out]; exact hle)
            rw [HLn.out] at this
            have e : L = K.take m ↔ L <+: K := ⟨fun h => by rw [h]; exact List.take_prefix _ _, fun h => (num_zero (this.2 h)).symm⟩
            simp only [e]; simp)
          clear hz
          go_enter Tryd.func19, Tryd.ntmps19
          go_wp2_with fail
          refine K1.out.mono ?_
          rintro e w1 ⟨A1, c1, rfl, hs1, hc1, hb1⟩
          go_wp2_with fail
          refine (K2.out _ hb1).mono ?_
          rintro e w2 ⟨A2, c2, rfl, hs2, hc2, hb2⟩
          have hs12 := (hs1.bl hb2).take hle
          have hb02 := hb1.trans hb2
          have i1 : (m : Int) ≤ (n : Int) := by omega
          have i2 : (m : Int) ≤ (c1 : Int) := by omega
          have i3 : (0 : Int) ≤ (m : Int) := by omega
          have N1 := hid (Equal_any A2 m c2 L A1 c1 (K.take m) w2 _ _ hs2 hs12 (by omega))
          clear hb1 hb2 hs1
          generalize decide (L = K.take m) = V at *
          go_wp2_with fail
          refine N1.out.mono ?_
          rintro e w3 ⟨rfl, hq3⟩
          go_wp2_with fail
          go_ret
          exact ⟨retB fin.out.symm, hb02.q hq3⟩
        · have fin := hid (show Z = false by
            rw [hz.out, decide_eq_false]
            intro h
            have := h.2.length_le
            rw [HK.out, HLn.out] at this
            exact hle this)
          have i1 : ¬ (m : Int) ≤ (n : Int) := by omega
          clear hz
          go_enter Tryd.func19, Tryd.ntmps19
          go_wp2_with fail
          refine K1.out.mono ?_
          rintro e w1 ⟨A1, c1, rfl, hs1, hc1, hb1⟩
          go_wp2_with fail
          refine (K2.out _ hb1).mono ?_
          rintro e w2 ⟨A2, c2, rfl, hs2, hc2, hb2⟩
          go_wp2_with fail
          go_ret
          exact ⟨retB fin.out.symm, hb1.trans hb2⟩
      · have fin := hid (show Z = false by rw [hz.out, decide_eq_false]; exact fun h => hY h.1)
        have ty : (Y == 0) = false := by simpa using hY
        clear hz
        go_enter Tryd.func19, Tryd.ntmps19
        go_wp2_with fail
        refine K1.out.mono ?_
        rintro e w1 ⟨A1, c1, rfl, hs1, hc1, hb1⟩
        go_wp2_with fail
        refine (K2.out _ hb1).mono ?_
        rintro e w2 ⟨A2, c2, rfl, hs2, hc2, hb2⟩
        go_wp2_with fail
        go_ret
        exact ⟨retB fin.out.symm, hb1.trans hb2⟩
  · have fin := hid (show Z = false by rw [HF.out, decide_eq_false]; exact fun h => hX h.1)
    have tx : (X == 0) = false := by simpa using hX
    clear HF
    go_enter Tryd.func19, Tryd.ntmps19
    go_wp2_with fail
    refine K1.out.mono ?_
    rintro e w1 ⟨A1, c1, rfl, hs1, hc1, hb1⟩
    go_wp2_with fail
    go_ret
    exact ⟨retB fin.out.symm, hb1⟩
set_option maxHeartbeats 1000000 in
theorem NWidth_any (s : ByteArray) (z : Int) (w : World) (hm : s.size ≤ 1099511627776) (g0 : -9223372036854775808 ≤ z) (g1 : z ≤ 9223372036854775807) (hT : NT w) :
    Calls Tryd.prog 21 #[.string s, .int .i64 z] w (WidOut w (sb s) z) := by
  have c1 := codePoints_any s w hm hT
  unfold PtsOut at c1
  by_cases h0 : chk (sb s) = 0
  · obtain ⟨_, h40, l, hd, _, _, _⟩ := chk_ok.1 h0
    have hll : l.length ≤ 40 := by have := dec_byts hd; omega
    have hok := (dec_iff.1 hd).1
    rw [h0, pts_yes h0 hd] at c1
    have C1 := hid c1
    clear c1
    by_cases hz : 1 ≤ z ∧ z ≤ 64
    · have f1 : wdt (sb s) z = (l.map fun r => wid r z).sum := by unfold wdt; rw [if_pos ⟨h0, hz⟩, hd]; rfl
      have f2 : wde (sb s) z = 0 := by unfold wde; rw [if_neg (fun h => h h0), if_pos hz]
      have fin := hid (fun (w' : World) => WidOut.mk' (w := w) (w' := w') f1 f2)
      have HO := hid hok
      have HT := hid hT
      clear h0 hd h40 f1 f2 hok hT
      obtain ⟨z1, z2⟩ := hz
      have HB := hid (fun k => wsum_le z (l.take k))
      obtain ⟨n, hn⟩ : ∃ n, n = l.length := ⟨_, rfl⟩
      rw [← hn] at hll C1
      have hl := hid hn.symm
      clear hn
      go_enter Tryd.func21, Tryd.ntmps21
      go_wp2_with fail
      refine C1.out.mono ?_
      rintro e w2 ⟨A2, k2, rfl, hs2, hc2, hb2⟩
      go_wp2_with fail
      go_loopw [4, 25] (fun t i wr => ∃ (k : Nat) (T : Int), t = .int .i64 T ∧ i = .int .i64 k ∧ k ≤ n ∧ Hid (T = ((l.take k).map fun r => wid r z).sum) ∧ Sh wr wr.heap.size .i64 A2 n l ∧ Bl w wr) (fun _ i _ => n - (intOf i).toNat)
      case atStart => exact ⟨0, 0, rfl, rfl, by omega, hid rfl, hs2, hb2⟩
      case round =>
        clear hs2 hb2
        obtain ⟨k, T, rfl, rfl, hk, hT, hs, hb⟩ := hrel
        by_cases hlt : k < n
        · obtain ⟨b, o, rfl, _, hcell⟩ := hs.2 (by omega)
          have hc1 := hcell k hlt
          have hkl : k < l.length := by rw [hl.out]; exact hlt
          have hsn := hid (take_snoc (l := l) (i := k) hkl)
          have hr := scr_range (HO.out _ (getD_mem hkl))
          have hb1 := HB.out k
          rw [← hT.out, List.length_take] at hb1
          have hT0 : 0 ≤ T ∧ T ≤ 64 * 40 := by omega
          clear hcell hkl hb1
          generalize l.getD k 0 = x at *
          have hw := wid_le x z
          have fs := hid (show T + wid x z = ((l.take (k + 1)).map fun r => wid r z).sum by rw [hsn.out, wsum_snoc, hT.out])
          have W1 := hid (Width_any x z wr (by omega) (by omega) g0 g1 (HT.out.bl hb).tab)
          generalize wid x z = v at *
          obtain ⟨a1, a2⟩ := hT0
          obtain ⟨a3, a4⟩ := hw
          go_wp2_with fail
          refine W1.out.mono ?_
          rintro e w' ⟨rfl, hb3⟩
          have hs3 := hs.bl hb3
          have hb4 := hb.trans hb3
          clear hs hb hb3
          go_wp2_with fail
          go_roundw
          case rel => exact ⟨k + 1, T + v, rfl, by go_num, by omega, fs, hs3, hb4⟩
          case measure => simp [intOf]; omega
        · obtain rfl : n = k := by omega
          go_wp2_with fail
          go_ret2
          have := hT.out
          rw [take_all (by rw [hl.out]; omega)] at this
          rw [this]
          exact fin.out _ hb
    · have f1 : wdt (sb s) z = 0 := by unfold wdt; rw [if_neg (fun h => hz h.2)]
      have f2 : wde (sb s) z = 2 := by unfold wde; rw [if_neg (fun h => h h0), if_neg hz]
      have fin := hid (fun (w' : World) => WidOut.mk' (w := w) (w' := w') f1 f2)
      clear f1 f2
      by_cases h1 : z < 1
      · clear hz
        go_enter Tryd.func21, Tryd.ntmps21
        go_wp2_with fail
        refine C1.out.mono ?_
        rintro e w1 ⟨A2, k2, rfl, _, _, hb1⟩
        go_wp2_with fail
        go_ret2
        exact fin.out _ hb1
      · have h2 : 64 < z := by omega
        clear hz
        go_enter Tryd.func21, Tryd.ntmps21
        go_wp2_with fail
        refine C1.out.mono ?_
        rintro e w1 ⟨A2, k2, rfl, _, _, hb1⟩
        go_wp2_with fail
        go_ret2
        exact fin.out _ hb1
  · have f1 : wdt (sb s) z = 0 := by unfold wdt; rw [if_neg (fun h => h0 h.1)]
    have f2 : wde (sb s) z = chk (sb s) := by unfold wde; rw [if_pos h0]
    have fin := hid (fun (w' : World) => WidOut.mk' (w := w) (w' := w') f1 f2)
    rw [pts_no h0] at c1
    clear f1 f2
    generalize chk (sb s) = X at *
    have t : (X == 0) = false := by simpa using h0
    have C1 := hid c1
    clear c1
    go_enter Tryd.func21, Tryd.ntmps21
    go_wp2_with fail
    refine C1.out.mono ?_
    rintro e w1 ⟨A1, c1, rfl, _, _, hb1⟩
    go_wp2_with fail
    go_ret2
    exact fin.out _ hb1
end Go.Proofs.YtjbkpiimjkekgaaDoor.Name
