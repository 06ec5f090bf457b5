/- Contracts of the reference of name: Cmp, Begins. -/
import Derived.Test.YtjbkpiimjkekgaaDoorNRef4
namespace Go.Proofs.YtjbkpiimjkekgaaDoor.Name
open Go.RowKit
open Go.Proofs.YtjbkpiimjkekgaaDoor.Wire
open Go.Proofs.YtjbkpiimjkekgaaDoor.Glyph
set_option linter.unusedVariables false

theorem key_len40 (S : List Int) : (key S).length ≤ 40 := by
  by_cases h : chk S = 0
  · obtain ⟨_, h40, l, hd, _, _, _⟩ := chk_ok.1 h
    rw [key_some h hd]
    have := keyL_len l
    have := dec_byts hd
    omega
  · rw [key_no h]; simp
set_option maxHeartbeats 2000000 in
theorem RNCmp_any (a b : ByteArray) (w : World) (hm : a.size ≤ 1099511627776) (hm1 : b.size ≤ 1099511627776) :
    Calls Tryd.prog 18 #[.string a, .string b] w fun e w' => e = .returned (.int .i64 (cmp (sb a) (sb b))) ∧ Bl w w' := by
  have k1 := RKey_any a w hm
  have k2 := fun w' => RKey_any b w' hm1
  unfold KeyOut at k1 k2
  have hf : cmp (sb a) (sb b) = if chk (sb a) ≠ 0 ∧ chk (sb b) = 0 then -1 else if chk (sb a) = 0 ∧ chk (sb b) ≠ 0 then 1 else if num (key (sb a)) (key (sb b)) = 0 then num (sb a) (sb b) else num (key (sb a)) (key (sb b)) := rfl
  have l1 := key_len40 (sb a)
  have l2 := key_len40 (sb b)
  generalize chk (sb a) = X at *
  generalize chk (sb b) = Y at *
  generalize key (sb a) = K at *
  generalize key (sb b) = L at *
  have hk1 := hid (Eq.refl K.length)
  generalize hkn : K.length = n at *
  generalize hln : L.length = m at *
  have HK := hid hkn
  have HLn := hid hln
  have b1 := fun w' => RBytes_any a w' hm
  have b2 := fun w' => RBytes_any b w' hm1
  have la := hid (sb_len a)
  have lb := hid (sb_len b)
  unfold Out2 at b1 b2
  rw [la.out] at b1
  rw [lb.out] at b2
  have B1 := hid b1
  have B2 := hid b2
  have K1 := hid k1
  have K2 := hid k2
  have HF := hid hf
  clear hf k1 k2 b1 b2 hkn hln hk1
  generalize cmp (sb a) (sb b) = Z at *
  generalize sb a = S at *
  generalize sb b = T at *
  rcases (show (X ≠ 0 ∧ Y = 0) ∨ (X = 0 ∧ Y ≠ 0) ∨ (X = 0 ∧ Y = 0) ∨ (X ≠ 0 ∧ Y ≠ 0) by omega) with ⟨hX, hY⟩ | ⟨hX, hY⟩ | ⟨hX, hY⟩ | ⟨hX, hY⟩
  · subst hY
    have t1 : (X == 0) = false := by simpa using hX
    have fin := hid (show Z = -1 by rw [HF.out, if_pos ⟨hX, rfl⟩])
    go_enter Tryd.func18, Tryd.ntmps18
    go_wp2_with fail
    refine K1.out.mono ?_
    rintro e w1 ⟨A1, c1, rfl, hs1, hc1, hb1⟩
    go_wp2_with fail
    refine (K2.out _).mono ?_
    rintro e w2 ⟨A2, c2, rfl, hs2, hc2, hb2⟩
    go_wp2_with fail
    go_ret
    exact ⟨ret1 fin.out.symm, hb1.trans hb2⟩
  · subst hX
    have t1 : (Y == 0) = false := by simpa using hY
    have fin := hid (show Z = 1 by rw [HF.out, if_neg (fun h => h.1 rfl), if_pos ⟨rfl, hY⟩])
    go_enter Tryd.func18, Tryd.ntmps18
    go_wp2_with fail
    refine K1.out.mono ?_
    rintro e w1 ⟨A1, c1, rfl, hs1, hc1, hb1⟩
    go_wp2_with fail
    refine (K2.out _).mono ?_
    rintro e w2 ⟨A2, c2, rfl, hs2, hc2, hb2⟩
    go_wp2_with fail
    go_ret
    exact ⟨ret1 fin.out.symm, hb1.trans hb2⟩
  all_goals
    have fin := hid (show Z = if num K L = 0 then num S T else num K L by rw [HF.out, if_neg (fun h => by first | exact h.1 hX | exact hY h.2), if_neg (fun h => by first | exact h.2 hY | exact hX h.1)])
    clear HF
    first
      | (subst hX; subst hY)
      | (have t1 : (X == 0) = false := by simpa using hX
         have t2 : (Y == 0) = false := by simpa using hY)
    go_enter Tryd.func18, Tryd.ntmps18
    go_wp2_with fail
    refine K1.out.mono ?_
    rintro e w1 ⟨A1, c1, rfl, hs1, hc1, hb1⟩
    go_wp2_with fail
    refine (K2.out _).mono ?_
    rintro e w2 ⟨A2, c2, rfl, hs2, hc2, hb2⟩
    have hs12 := hs1.bl hb2
    have hb02 := hb1.trans hb2
    have N1 := hid (RNumbers_any A1 n c1 K A2 m c2 L w2 _ _ hs12 hs2 (by omega) (by omega))
    clear hb1 hb2 hs1
    by_cases hV : num K L = 0
    · have fin2 := hid (show Z = num S T by rw [fin.out, if_pos hV])
      rw [hV] at N1
      clear fin hV
      go_wp2_with fail
      refine N1.out.mono ?_
      rintro e w3 ⟨rfl, hq3⟩
      have hb03 := hb02.q hq3
      go_wp2_with fail
      refine (B1.out _).mono ?_
      rintro e w4 ⟨A4, c4, rfl, hs4, hc4, hb4⟩
      go_wp2_with fail
      refine (B2.out _).mono ?_
      rintro e w5 ⟨A5, c5, rfl, hs5, hc5, hb5⟩
      have hs45 := hs4.bl hb5
      have hb05 := (hb03.trans hb4).trans hb5
      have N2 := hid (RNumbers_any A4 _ c4 S A5 _ c5 T w5 _ _ hs45 hs5 (by omega) (by omega))
      clear hb4 hb5 hb03 hb02
      go_wp2_with fail
      refine N2.out.mono ?_
      rintro e w6 ⟨rfl, hq6⟩
      go_wp2_with fail
      go_ret
      exact ⟨ret1 fin2.out.symm, hb05.q hq6⟩
    · have fin2 := hid (show Z = num K L by rw [fin.out, if_neg hV])
      generalize num K L = V at *
      have t3 : (V == 0) = false := by simpa using hV
      clear fin hV
      go_wp2_with fail
      refine N1.out.mono ?_
      rintro e w3 ⟨rfl, hq3⟩
      go_wp2_with fail
      go_ret
      exact ⟨ret1 fin2.out.symm, hb02.q hq3⟩

theorem num_pre {K L : List Int} (h : L.length ≤ K.length) : num (K.take L.length) L = 0 ↔ L <+: K := by
  constructor
  · intro e
    have := num_zero e
    rw [← this]
    exact List.take_prefix _ _
  · intro hp
    have : K.take L.length = L := (List.prefix_iff_eq_take.1 hp).symm
    rw [this]; exact num_self L
set_option maxHeartbeats 2000000 in
theorem RBegins_any (a b : ByteArray) (w : World) (hm : a.size ≤ 1099511627776) (hm1 : b.size ≤ 1099511627776) :
    Calls Tryd.prog 20 #[.string a, .string b] w fun e w' => e = .returned (.bool (beg (sb a) (sb b))) ∧ Bl w w' := by
  have k1 := RKey_any a w hm
  have k2 := fun w' => RKey_any b w' hm1
  unfold KeyOut at k1 k2
  have hf : beg (sb a) (sb b) = decide (chk (sb a) = 0 ∧ (sb b = [] ∨ chk (sb b) = 0 ∧ key (sb b) <+: key (sb a))) := rfl
  have l1 := key_len40 (sb a)
  have l2 := key_len40 (sb b)
  have hb0 : b.size = 0 ↔ sb b = [] := by
    rw [← sb_len]; exact List.length_eq_zero_iff
  generalize chk (sb a) = X at *
  generalize chk (sb b) = Y at *
  generalize key (sb a) = K at *
  generalize key (sb b) = L at *
  generalize hkn : K.length = n at *
  generalize hln : L.length = m at *
  have HK := hid hkn
  have HLn := hid hln
  have K1 := hid k1
  have K2 := hid k2
  have HF := hid hf
  clear hf k1 k2 hkn hln
  generalize beg (sb a) (sb b) = Z at *
  by_cases hX : X = 0
  · subst hX
    by_cases h0 : b.size = 0
    · have he := hb0.1 h0
      have fin := hid (show Z = true by rw [HF.out, decide_eq_true]; exact ⟨rfl, .inl he⟩)
      clear HF hb0
      obtain rfl := sb_nil b he
      clear he
      go_enter Tryd.func20, Tryd.ntmps20
      go_wp2_with fail
      refine K1.out.mono ?_
      rintro e w1 ⟨A1, c1, rfl, hs1, hc1, hb1⟩
      go_wp2_with fail
      go_ret
      exact ⟨retB fin.out.symm, hb1⟩
    · have he : ¬ sb b = [] := fun e => h0 (hb0.2 e)
      have hz := hid (show Z = decide (Y = 0 ∧ L <+: K) by rw [HF.out]; simp [he])
      have te := str_ne h0
      clear HF hb0 he
      by_cases hY : Y = 0
      · subst hY
        by_cases hle : m ≤ n
        · have fin := hid (show Z = decide (num (K.take m) L = 0) by
            rw [hz.out]
            have := num_pre (K := K) (L := L) (by rw [HK.out, HLn.out]; exact hle)
            rw [HLn.out] at this
            simp only [this]; simp)
          clear hz
          go_enter Tryd.func20, Tryd.ntmps20
          go_wp2_with fail
          refine K1.out.mono ?_
          rintro e w1 ⟨A1, c1, rfl, hs1, hc1, hb1⟩
          go_wp2_with fail
          refine (K2.out _).mono ?_
          rintro e w2 ⟨A2, c2, rfl, hs2, hc2, hb2⟩
          have hs12 := (hs1.bl hb2).take hle
          have hb02 := hb1.trans hb2
          have i1 : (m : Int) ≤ (n : Int) := by omega
          have i2 : (m : Int) ≤ (c1 : Int) := by omega
          have i3 : (0 : Int) ≤ (m : Int) := by omega
          have N1 := hid (RNumbers_any A1 m c1 (K.take m) A2 m c2 L w2 _ _ hs12 hs2 (by omega) (by omega))
          clear hb1 hb2 hs1
          generalize num (K.take m) L = V at *
          by_cases hV : V = 0
          · subst hV
            go_wp2_with fail
            refine N1.out.mono ?_
            rintro e w3 ⟨rfl, hq3⟩
            go_wp2_with fail
            go_ret
            exact ⟨retB (by rw [fin.out]; decide), hb02.q hq3⟩
          · have tv : (V == 0) = false := by simpa using hV
            go_wp2_with fail
            refine N1.out.mono ?_
            rintro e w3 ⟨rfl, hq3⟩
            go_wp2_with fail
            go_ret
            exact ⟨retB (by rw [fin.out, decide_eq_false hV]), hb02.q hq3⟩
        · have fin := hid (show Z = false by
            rw [hz.out, decide_eq_false]
            intro h
            have := h.2.length_le
            rw [HK.out, HLn.out] at this
            exact hle this)
          have i1 : ¬ (m : Int) ≤ (n : Int) := by omega
          clear hz
          go_enter Tryd.func20, Tryd.ntmps20
          go_wp2_with fail
          refine K1.out.mono ?_
          rintro e w1 ⟨A1, c1, rfl, hs1, hc1, hb1⟩
          go_wp2_with fail
          refine (K2.out _).mono ?_
          rintro e w2 ⟨A2, c2, rfl, hs2, hc2, hb2⟩
          go_wp2_with fail
          go_ret
          exact ⟨retB fin.out.symm, hb1.trans hb2⟩
      · have fin := hid (show Z = false by rw [hz.out, decide_eq_false]; exact fun h => hY h.1)
        have ty : (Y == 0) = false := by simpa using hY
        clear hz
        go_enter Tryd.func20, Tryd.ntmps20
        go_wp2_with fail
        refine K1.out.mono ?_
        rintro e w1 ⟨A1, c1, rfl, hs1, hc1, hb1⟩
        go_wp2_with fail
        refine (K2.out _).mono ?_
        rintro e w2 ⟨A2, c2, rfl, hs2, hc2, hb2⟩
        go_wp2_with fail
        go_ret
        exact ⟨retB fin.out.symm, hb1.trans hb2⟩
  · have fin := hid (show Z = false by rw [HF.out, decide_eq_false]; exact fun h => hX h.1)
    have tx : (X == 0) = false := by simpa using hX
    clear HF
    go_enter Tryd.func20, Tryd.ntmps20
    go_wp2_with fail
    refine K1.out.mono ?_
    rintro e w1 ⟨A1, c1, rfl, hs1, hc1, hb1⟩
    go_wp2_with fail
    go_ret
    exact ⟨retB fin.out.symm, hb1⟩
end Go.Proofs.YtjbkpiimjkekgaaDoor.Name
