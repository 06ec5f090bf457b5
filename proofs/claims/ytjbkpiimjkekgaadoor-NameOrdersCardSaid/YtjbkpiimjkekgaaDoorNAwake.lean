/- awake of the statements about name: it returns true. -/
import Derived.Test.YtjbkpiimjkekgaaDoorNSet
import Derived.Test.YtjbkpiimjkekgaaDoorISame
namespace Go.Proofs.YtjbkpiimjkekgaaDoor.Name
open Go.RowKit
open Go.Proofs.YtjbkpiimjkekgaaDoor.Wire
open Go.Proofs.YtjbkpiimjkekgaaDoor.Glyph
set_option linter.unusedVariables false

theorem nm {S l : List Int} (e : S = enc l) (ho : okl l) (h0 : l ≠ []) (h40 : S.length ≤ 40) (hb : blk l = false) (hc : com l = false) : chk S = 0 ∧ key S = keyL l := by
  have hd : dec S = some l := by rw [e]; exact dec_some ho
  have h := chk_ok.2 ⟨fun h => h0 (by
    have := (dec_iff.1 hd).2
    rw [h] at this
    cases l with
    | nil => rfl
    | cons r l =>
      have g := (enc_len (r :: l)).1
      rw [this] at g; simp at g), h40, l, hd, h0, hb, hc⟩
  exact ⟨h, key_some h hd⟩
theorem key_at (s : ByteArray) (K : List Int) (E : Int) (hs : s.size ≤ 100000) (h1 : key (sb s) = K) (h2 : chk (sb s) = E) (w : World) (hT : NT w) :
    Calls Tryd.prog 12 #[.string s] w fun e w' => ∃ A' c', e = .returned (.tuple #[.slice A' K.length c', .int .i64 E]) ∧ Sh w' w'.heap.size .i64 A' K.length K ∧ K.length ≤ c' ∧ Bl w w' := by
  subst h1 h2
  exact Key_any s w (by omega) hT
theorem check_at (s : ByteArray) (E : Int) (hs : s.size ≤ 100000) (h2 : chk (sb s) = E) (w : World) (hT : NT w) :
    Calls Tryd.prog 14 #[.string s] w fun e w' => e = .returned (.int .i64 E) ∧ Bl w w' := by
  subst h2
  exact Check_any s w (by omega) hT
theorem cmp_at (s t : ByteArray) (E : Int) (hs : s.size ≤ 100000) (ht : t.size ≤ 100000) (h2 : cmp (sb s) (sb t) = E) (w : World) (hT : NT w) :
    Calls Tryd.prog 17 #[.string s, .string t] w fun e w' => e = .returned (.int .i64 E) ∧ Bl w w' := by
  subst h2
  exact Cmp_any s t w (by omega) (by omega) hT
theorem beg_at (s t : ByteArray) (E : Bool) (hs : s.size ≤ 100000) (ht : t.size ≤ 100000) (h2 : beg (sb s) (sb t) = E) (w : World) (hT : NT w) :
    Calls Tryd.prog 19 #[.string s, .string t] w fun e w' => e = .returned (.bool E) ∧ Bl w w' := by
  subst h2
  exact Begins_any s t w (by omega) (by omega) hT
theorem wid_at (s : ByteArray) (z E F : Int) (hs : s.size ≤ 100000) (g0 : -9223372036854775808 ≤ z) (g1 : z ≤ 9223372036854775807) (h1 : wdt (sb s) z = E) (h2 : wde (sb s) z = F) (w : World) (hT : NT w) :
    Calls Tryd.prog 21 #[.string s, .int .i64 z] w fun e w' => e = .returned (.tuple #[.int .i64 E, .int .i64 F]) ∧ Bl w w' := by
  subst h1 h2
  exact NWidth_any s z w (by omega) g0 g1 hT
theorem n1 : chk (sb ⟨#[83, 97, 105, 110, 116, 45, 68, 101, 110, 105, 115]⟩) = 0 ∧ key (sb ⟨#[83, 97, 105, 110, 116, 45, 68, 101, 110, 105, 115]⟩) = [115, 97, 105, 110, 116, 100, 101, 110, 105, 115] := by
  have := nm (S := sb ⟨#[83, 97, 105, 110, 116, 45, 68, 101, 110, 105, 115]⟩) (l := [83, 97, 105, 110, 116, 45, 68, 101, 110, 105, 115]) (by decide +kernel) (by decide +kernel) (by decide) (by decide +kernel) (by decide +kernel) (by decide +kernel)
  exact ⟨this.1, this.2.trans (by decide +kernel)⟩
theorem n2 : chk (sb ⟨#[115, 97, 105, 110, 116, 32, 100, 101, 110, 105, 115]⟩) = 0 ∧ key (sb ⟨#[115, 97, 105, 110, 116, 32, 100, 101, 110, 105, 115]⟩) = [115, 97, 105, 110, 116, 100, 101, 110, 105, 115] := by
  have := nm (S := sb ⟨#[115, 97, 105, 110, 116, 32, 100, 101, 110, 105, 115]⟩) (l := [115, 97, 105, 110, 116, 32, 100, 101, 110, 105, 115]) (by decide +kernel) (by decide +kernel) (by decide) (by decide +kernel) (by decide +kernel) (by decide +kernel)
  exact ⟨this.1, this.2.trans (by decide +kernel)⟩
theorem n3 : chk (sb ⟨#[97, 32, 98]⟩) = 0 ∧ key (sb ⟨#[97, 32, 98]⟩) = [97, 98] := by
  have := nm (S := sb ⟨#[97, 32, 98]⟩) (l := [97, 32, 98]) (by decide +kernel) (by decide +kernel) (by decide) (by decide +kernel) (by decide +kernel) (by decide +kernel)
  exact ⟨this.1, this.2.trans (by decide +kernel)⟩
theorem n4 : chk (sb ⟨#[78, 101, 117, 115, 116, 97, 100, 116, 32, 40, 68, 111, 115, 115, 101, 41]⟩) = 0 ∧ key (sb ⟨#[78, 101, 117, 115, 116, 97, 100, 116, 32, 40, 68, 111, 115, 115, 101, 41]⟩) = [110, 101, 117, 115, 116, 97, 100, 116, 100, 111, 115, 115, 101] := by
  have := nm (S := sb ⟨#[78, 101, 117, 115, 116, 97, 100, 116, 32, 40, 68, 111, 115, 115, 101, 41]⟩) (l := [78, 101, 117, 115, 116, 97, 100, 116, 32, 40, 68, 111, 115, 115, 101, 41]) (by decide +kernel) (by decide +kernel) (by decide) (by decide +kernel) (by decide +kernel) (by decide +kernel)
  exact ⟨this.1, this.2.trans (by decide +kernel)⟩
theorem n5 : chk (sb ⟨#[110, 101, 117, 115, 116]⟩) = 0 ∧ key (sb ⟨#[110, 101, 117, 115, 116]⟩) = [110, 101, 117, 115, 116] := by
  have := nm (S := sb ⟨#[110, 101, 117, 115, 116]⟩) (l := [110, 101, 117, 115, 116]) (by decide +kernel) (by decide +kernel) (by decide) (by decide +kernel) (by decide +kernel) (by decide +kernel)
  exact ⟨this.1, this.2.trans (by decide +kernel)⟩
theorem n6 : chk (sb ⟨#[78, 101, 117, 115, 116, 97, 100, 116]⟩) = 0 ∧ key (sb ⟨#[78, 101, 117, 115, 116, 97, 100, 116]⟩) = [110, 101, 117, 115, 116, 97, 100, 116] := by
  have := nm (S := sb ⟨#[78, 101, 117, 115, 116, 97, 100, 116]⟩) (l := [78, 101, 117, 115, 116, 97, 100, 116]) (by decide +kernel) (by decide +kernel) (by decide) (by decide +kernel) (by decide +kernel) (by decide +kernel)
  exact ⟨this.1, this.2.trans (by decide +kernel)⟩
theorem x1 : cmp (sb ⟨#[83, 97, 105, 110, 116, 45, 68, 101, 110, 105, 115]⟩) (sb ⟨#[115, 97, 105, 110, 116, 32, 100, 101, 110, 105, 115]⟩) = -1 := by
  rw [cmp_same (by rw [n1.1, n2.1]), n1.2, n2.2, if_pos (by decide +kernel)]
  decide +kernel
theorem x2 : chk (sb ⟨#[49, 50, 45, 51, 52]⟩) = 14 := chk_bad (l := [49, 50, 45, 51, 52]) (by decide +kernel) (by decide +kernel) (dec_iff.2 ⟨by decide +kernel, by decide +kernel⟩) (.inr (by decide +kernel))
theorem x3 : chk (sb ⟨#[97, 32, 32, 98]⟩) = 14 := chk_bad (l := [97, 32, 32, 98]) (by decide +kernel) (by decide +kernel) (dec_iff.2 ⟨by decide +kernel, by decide +kernel⟩) (.inl (by decide +kernel))
theorem x4 : beg (sb ⟨#[78, 101, 117, 115, 116, 97, 100, 116, 32, 40, 68, 111, 115, 115, 101, 41]⟩) (sb ⟨#[110, 101, 117, 115, 116]⟩) = true := by
  rw [beg_ok, n4.1, n5.1, n4.2, n5.2]
  exact ⟨rfl, .inr ⟨rfl, by decide +kernel⟩⟩
theorem x5 : beg (sb ⟨#[110, 101, 117, 115, 116]⟩) (sb ⟨#[78, 101, 117, 115, 116, 97, 100, 116]⟩) = false := by
  unfold beg
  rw [n5.1, n6.1, n5.2, n6.2]
  decide +kernel
theorem x6 : wdt (sb ⟨#[97, 32, 98]⟩) 6 = 11 ∧ wde (sb ⟨#[97, 32, 98]⟩) 6 = 0 := by
  have hd : dec (sb ⟨#[97, 32, 98]⟩) = some [97, 32, 98] := dec_iff.2 ⟨by decide +kernel, by decide +kernel⟩
  unfold wdt wde
  rw [n3.1, hd]
  decide +kernel
theorem x0 : chk (sb ⟨#[]⟩) = 14 := chk_nil

set_option maxRecDepth 100000 in
set_option maxHeartbeats 4000000 in
theorem awake_any (w : World) (hT : NT w) : Calls Tryd.prog 11 #[] w fun e w' => e = .returned (.bool true) ∧ Bl w w' := by
  have k1 := hid (fun w' (hb : Bl w w') => key_at ⟨#[83, 97, 105, 110, 116, 45, 68, 101, 110, 105, 115]⟩ [115, 97, 105, 110, 116, 100, 101, 110, 105, 115] 0 (by decide) n1.2 n1.1 w' (hT.bl hb))
  have k2 := hid (fun w' (hb : Bl w w') => wid_at ⟨#[97, 32, 98]⟩ 6 11 0 (by decide) (by decide) (by decide) x6.1 x6.2 w' (hT.bl hb))
  have k3 := hid (fun w' (hb : Bl w w') => cmp_at ⟨#[83, 97, 105, 110, 116, 45, 68, 101, 110, 105, 115]⟩ ⟨#[115, 97, 105, 110, 116, 32, 100, 101, 110, 105, 115]⟩ (-1) (by decide) (by decide) x1 w' (hT.bl hb))
  have k4 := hid (fun w' (hb : Bl w w') => check_at ⟨#[]⟩ 14 (by decide) x0 w' (hT.bl hb))
  have k5 := hid (fun w' (hb : Bl w w') => check_at ⟨#[49, 50, 45, 51, 52]⟩ 14 (by decide) x2 w' (hT.bl hb))
  have k6 := hid (fun w' (hb : Bl w w') => check_at ⟨#[97, 32, 32, 98]⟩ 14 (by decide) x3 w' (hT.bl hb))
  have k7 := hid (fun w' (hb : Bl w w') => beg_at ⟨#[78, 101, 117, 115, 116, 97, 100, 116, 32, 40, 68, 111, 115, 115, 101, 41]⟩ ⟨#[110, 101, 117, 115, 116]⟩ true (by decide) (by decide) x4 w' (hT.bl hb))
  have k8 := hid (fun w' (hb : Bl w w') => beg_at ⟨#[110, 101, 117, 115, 116]⟩ ⟨#[78, 101, 117, 115, 116, 97, 100, 116]⟩ false (by decide) (by decide) x5 w' (hT.bl hb))
  simp only [List.length_cons, List.length_nil, Nat.zero_add, Nat.reduceAdd] at k1
  go_enter Tryd.func11, Tryd.ntmps11
  go_wp2_with fail
  refine (k1.out _ (Bl.refl _)).mono ?_
  rintro e v1 ⟨A_P, c_P, rfl, h_P, hc_P, b1⟩
  have B1 := Bl.trans (Bl.refl _) b1
  clear b1
  go_wp2_with fail
  refine (k2.out _ B1).mono ?_
  rintro e v2 ⟨rfl, b2⟩
  have B2 := Bl.trans B1 b2
  have h_P_2 := h_P.bl b2
  clear b2  B1
  obtain ⟨bq, oq, rfl, _, hcq⟩ := h_P_2.2 (by decide)
  have hq0 := hcq 0 (by decide)
  simp only [List.getD_cons_zero, Nat.add_zero] at hq0
  clear hcq
  go_wp2_with fail
  refine (k3.out _ B2).mono ?_
  rintro e v3 ⟨rfl, b3⟩
  have B3 := Bl.trans B2 b3
  clear b3  B2
  go_wp2_with fail
  refine (k4.out _ B3).mono ?_
  rintro e v4 ⟨rfl, b4⟩
  have B4 := Bl.trans B3 b4
  clear b4  B3
  go_wp2_with fail
  refine (k5.out _ B4).mono ?_
  rintro e v5 ⟨rfl, b5⟩
  have B5 := Bl.trans B4 b5
  clear b5  B4
  go_wp2_with fail
  refine (k6.out _ B5).mono ?_
  rintro e v6 ⟨rfl, b6⟩
  have B6 := Bl.trans B5 b6
  clear b6  B5
  go_wp2_with fail
  refine (k7.out _ B6).mono ?_
  rintro e v7 ⟨rfl, b7⟩
  have B7 := Bl.trans B6 b7
  clear b7  B6
  go_wp2_with fail
  refine (k8.out _ B7).mono ?_
  rintro e v8 ⟨rfl, b8⟩
  have B8 := Bl.trans B7 b8
  clear b8  B7
  go_wp2_with fail
  go_ret
  exact ⟨rfl, B8⟩
end Go.Proofs.YtjbkpiimjkekgaaDoor.Name
