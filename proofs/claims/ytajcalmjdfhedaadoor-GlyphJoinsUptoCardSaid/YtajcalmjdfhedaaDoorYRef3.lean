/- Contracts of the reference of glyph: turned. -/
import Derived.Test.YtajcalmjdfhedaaDoorYRef2
namespace Go.Proofs.YtajcalmjdfhedaaDoor.Glyph
open Go.RowKit
open Go.Proofs.YtajcalmjdfhedaaDoor.Wire
set_option linter.unusedVariables false

theorem tur_step {xs : List Int} {f k : Nat} (hk : k ≤ xs.length) (hf : f < k) (hseg : f + 1 = k ∨ ∀ j, f ≤ j → j < k → dig (xs.getD j 0) = true)
    (hx : ¬ (dig (xs.getD (k - 1) 0) = true ∧ 0 < f ∧ dig (xs.getD (f - 1) 0) = true)) : tur (xs.take k) = (xs.take k).drop f ++ tur (xs.take f) := by
  by_cases hd : dig (xs.getD (k - 1) 0) = true
  · have hall : ∀ j, f ≤ j → j < k → dig (xs.getD j 0) = true := by
      rcases hseg with h | h
      · intro j h1 h2
        obtain rfl : j = k - 1 := by omega
        exact hd
      · exact h
    have e1 : (xs.take k).take f ++ (xs.take k).drop f = xs.take k := List.take_append_drop f _
    have e2 : (xs.take k).take f = xs.take f := by rw [List.take_take, Nat.min_eq_left (by omega)]
    rw [e2] at e1
    have hM : (xs.take k).drop f ≠ [] := by
      intro e
      have := congrArg List.length e
      simp at this; omega
    have hdM : ∀ x ∈ (xs.take k).drop f, dig x = true := by
      intro x hx
      obtain ⟨i, hi, rfl⟩ := List.mem_iff_getElem.1 hx
      have hi2 : i < k - f := by simp at hi; omega
      have := hall (f + i) (by omega) (by omega)
      rw [List.getD_eq_getElem?_getD, List.getElem?_eq_getElem (by omega)] at this
      simpa using this
    generalize (xs.take k).drop f = M at *
    rw [← e1]
    by_cases hf0 : f = 0
    · subst hf0
      rw [List.take_zero, List.nil_append, tur_digs hM hdM, tur_nil, List.append_nil]
    · have hr : dig (xs.getD (f - 1) 0) = false := by
        cases h : dig (xs.getD (f - 1) 0)
        · rfl
        · exact absurd ⟨hd, by omega, h⟩ hx
      have e3 := take_snoc (l := xs) (i := f - 1) (by omega)
      rw [show f - 1 + 1 = f by omega] at e3
      rw [e3]
      exact tur_snoc_digs hr hM hdM _ _ (Nat.le_refl _)
  · have hd' : dig (xs.getD (k - 1) 0) = false := by simpa using hd
    have hfk : f + 1 = k := by
      rcases hseg with h | h
      · exact h
      · exact absurd (h (k - 1) (by omega) (by omega)) hd
    subst hfk
    rw [show f + 1 - 1 = f by omega] at hd'
    rw [take_snoc (by omega), tur_snoc_no hd' _ _ (Nat.le_refl _)]
    have : (List.take f xs ++ [xs.getD f 0]).drop f = [xs.getD f 0] := by
      rw [List.drop_append_of_le_length (by simp; omega), List.drop_eq_nil_of_le (by simp; omega)]; rfl
    rw [this]; rfl

/-- the answer is a slice of the call's own that shows zs -/
def OutO (w : World) (zs : List Int) (e : Ending) (w' : World) : Prop :=
  ∃ A' c', e = .returned (.slice A' zs.length c') ∧ Ow w' w.heap.size 3 .i64 A' zs.length c' zs ∧ Bl w w'

set_option maxHeartbeats 1000000 in
theorem turned_any (A : Option Addr) (n c : Nat) (xs : List Int) (w : World) (hS : Sh w w.heap.size .i64 A n xs) (hc : n ≤ c) (hm : n ≤ 1099511627776) :
    Calls Tryd.prog 42 #[.slice A n c] w (OutO w (tur xs)) := by
  have hl := hid hS.len
  go_enter Tryd.func42, Tryd.ntmps42
  go_wp2_with fail
  go_loopw [3, 4] (fun b e wr => ∃ (A' : Option Addr) (m c' k : Nat) (L : List Int), b = .slice A' m c' ∧ e = .int .i64 k ∧ k ≤ n ∧ m + k = n ∧ Hid (tur xs = L ++ tur (xs.take k)) ∧ Ow wr w.heap.size 3 .i64 A' m c' L ∧ Bl w wr) (fun _ e _ => (intOf e).toNat)
  case atStart => exact ⟨none, 0, 0, n, [], rfl, rfl, by omega, by omega, hid (by rw [take_all (by rw [hl.out]; omega)]; rfl), Ow.none_ _ _ _ _, Bl.refl _⟩
  case round =>
    obtain ⟨A', m, c', k, L, rfl, rfl, hk, hmk, hL, ho, hb⟩ := hrel
    by_cases hpos : 0 < k
    · have hS2 := hS.bl hb
      obtain ⟨b, o, rfl, _, hcell'⟩ := hS2.2 (by omega)
      have hcell := hid hcell'
      have hc1 := hcell' (k - 1) (by omega)
      have hc2 : wr.cell? ⟨b, o + ((k : Int) - 1).toNat, none⟩ = some (.int .i64 (xs.getD (k - 1) 0)) := by rw [← hc1]; congr 3; omega
      clear hcell'
      generalize hX : xs.getD (k - 1) 0 = X at *
      have HX := hid hX
      clear hX
      go_wp2_with fail
      cases hd : dig X
      · have d1 := RDigit_any X wr
        rw [hd] at d1
        have D1 := hid d1
        have HD := hid hd
        clear d1 hd
        go_loop [5] (fun i => ∃ f : Nat, i = .int .i64 f ∧ f < k ∧ Hid (f + 1 = k ∨ ∀ j, f ≤ j → j < k → dig (xs.getD j 0) = true)) (fun i => (intOf i).toNat)
        case atStart => exact ⟨k - 1, by congr 1; omega, by omega, hid (.inl (by omega))⟩
        case round =>
          obtain ⟨f, rfl, hf, hseg⟩ := hrel
          have hstep := hid (tur_step (xs := xs) (f := f) (k := k) (by rw [hl.out]; omega) hf hseg.out (by rw [HX.out, HD.out]; simp))
          have hD := (hS2.take (m := k) (by omega)).drop (m := f) (by omega) (A' := some ⟨b, o + f, none⟩) (fun _ b' o' e => by injection e with e; injection e with e1 e2; subst e1 e2; rfl)
          have hlen : ((xs.take k).drop f).length = k - f := by rw [List.length_drop, List.length_take, hl.out]; omega
          clear hcell hseg
          generalize (xs.take k).drop f = M at *
          have b1 : (k : Int) ≤ (c : Int) := by omega
          have b2 : (f : Int) ≤ (k : Int) := by omega
          have b3 : (0 : Int) ≤ (f : Int) := by omega
          have b4 : ¬ c = f := by omega
          have hml := hid ho.len
          go_wp2_with fail
          refine D1.out.mono ?_
          rintro e w' ⟨rfl, rfl⟩
          go_wp2_with (at_builtin; refine wpList_app_own _ rfl (.tmp 32) (.tmp 36) _ rfl elI rfl ho rfl hD (by omega) (by omega) hb.size ?_; intro A2 c2 w2 ho2 hb2)
          go_roundw
          case rel => exact ⟨A2, m + (k - f), c2, f, L ++ M, rfl, rfl, by omega, by omega, hid (by rw [hL.out, hstep.out, List.append_assoc]), ho2, Below.trans hb hb2⟩
          case measure => simp [intOf]; omega
      · have d1 := RDigit_any X wr
        rw [hd] at d1
        have D1 := hid d1
        have HD := hid hd
        clear d1 hd
        go_loop [5] (fun i => ∃ f : Nat, i = .int .i64 f ∧ f < k ∧ Hid (f + 1 = k ∨ ∀ j, f ≤ j → j < k → dig (xs.getD j 0) = true)) (fun i => (intOf i).toNat)
        case atStart => exact ⟨k - 1, by congr 1; omega, by omega, hid (.inl (by omega))⟩
        case round =>
          obtain ⟨f, rfl, hf, hseg⟩ := hrel
          by_cases hf0 : 0 < f
          · have hc3 := hcell.out (f - 1) (by omega)
            have hc4 : wr.cell? ⟨b, o + ((f : Int) - 1).toNat, none⟩ = some (.int .i64 (xs.getD (f - 1) 0)) := by rw [← hc3]; congr 3; omega
            generalize hY : xs.getD (f - 1) 0 = Y at *
            have HY := hid hY
            clear hY
            cases hg : dig Y
            · have d2 := RDigit_any Y wr
              rw [hg] at d2
              have D2 := hid d2
              have HG := hid hg
              clear d2 hg
              have hstep := hid (tur_step (xs := xs) (f := f) (k := k) (by rw [hl.out]; omega) hf hseg.out (by rw [HX.out, HY.out, HG.out]; simp))
              have hD := (hS2.take (m := k) (by omega)).drop (m := f) (by omega) (A' := some ⟨b, o + f, none⟩) (fun _ b' o' e => by injection e with e; injection e with e1 e2; subst e1 e2; rfl)
              have hlen : ((xs.take k).drop f).length = k - f := by rw [List.length_drop, List.length_take, hl.out]; omega
              clear hcell hseg
              generalize (xs.take k).drop f = M at *
              have b1 : (k : Int) ≤ (c : Int) := by omega
              have b2 : (f : Int) ≤ (k : Int) := by omega
              have b3 : (0 : Int) ≤ (f : Int) := by omega
              have b4 : ¬ c = f := by omega
              have hml := hid ho.len
              go_wp2_with fail
              refine D1.out.mono ?_
              rintro e w' ⟨rfl, rfl⟩
              go_wp2_with fail
              refine D2.out.mono ?_
              rintro e w' ⟨rfl, rfl⟩
              go_wp2_with (at_builtin; refine wpList_app_own _ rfl (.tmp 32) (.tmp 36) _ rfl elI rfl ho rfl hD (by omega) (by omega) hb.size ?_; intro A2 c2 w2 ho2 hb2)
              go_roundw
              case rel => exact ⟨A2, m + (k - f), c2, f, L ++ M, rfl, rfl, by omega, by omega, hid (by rw [hL.out, hstep.out, List.append_assoc]), ho2, Below.trans hb hb2⟩
              case measure => simp [intOf]; omega
            · have d2 := RDigit_any Y wr
              rw [hg] at d2
              have D2 := hid d2
              have HG := hid hg
              clear d2 hg
              have fin := hid (show f - 1 + 1 = k ∨ ∀ j, f - 1 ≤ j → j < k → dig (xs.getD j 0) = true from .inr (by
                intro j h1 h2
                by_cases hj : j = f - 1
                · subst hj; rw [HY.out]; exact HG.out
                · rcases hseg.out with h | h
                  · obtain rfl : j = k - 1 := by omega
                    rw [HX.out]; exact HD.out
                  · exact h j (by omega) h2))
              clear hseg hcell
              go_wp2_with fail
              refine D1.out.mono ?_
              rintro e w' ⟨rfl, rfl⟩
              go_wp2_with fail
              refine D2.out.mono ?_
              rintro e w' ⟨rfl, rfl⟩
              go_wp2_with fail
              go_round
              case rel => exact ⟨f - 1, by congr 1; omega, by omega, fin⟩
              case measure => simp [intOf]; omega
          · obtain rfl : f = 0 := by omega
            have hstep := hid (tur_step (xs := xs) (f := 0) (k := k) (by rw [hl.out]; omega) hf hseg.out (by simp))
            have hD := (hS2.take (m := k) (by omega)).drop (m := 0) (by omega) (A' := some ⟨b, o + 0, none⟩) (fun _ b' o' e => by injection e with e; injection e with e1 e2; subst e1 e2; rfl)
            have hlen : ((xs.take k).drop 0).length = k - 0 := by rw [List.length_drop, List.length_take, hl.out]; omega
            clear hcell hseg
            generalize (xs.take k).drop 0 = M at *
            have b1 : (k : Int) ≤ (c : Int) := by omega
            have b2 : (((0 : Nat)) : Int) ≤ (k : Int) := by omega
            have b3 : (0 : Int) ≤ (((0 : Nat)) : Int) := by omega
            have b4 : ¬ c = 0 := by omega
            have hml := hid ho.len
            go_wp2_with fail
            refine D1.out.mono ?_
            rintro e w' ⟨rfl, rfl⟩
            go_wp2_with (at_builtin; refine wpList_app_own _ rfl (.tmp 32) (.tmp 36) _ rfl elI rfl ho rfl hD (by omega) (by omega) hb.size ?_; intro A2 c2 w2 ho2 hb2)
            go_roundw
            case rel => exact ⟨A2, n, c2, 0, L ++ M, rfl, rfl, by omega, by omega, hid (by rw [hL.out, hstep.out, List.append_assoc]), (show m + (k - 0) = n by omega) ▸ ho2, Below.trans hb hb2⟩
            case measure => simp [intOf]; omega
    · obtain rfl : k = 0 := by omega
      obtain rfl : m = n := by omega
      have fin := hid (show tur xs = L by rw [hL.out, List.take_zero, tur_nil, List.append_nil])
      go_wp2_with fail
      go_ret
      obtain rfl := ho.len
      rw [fin.out]
      exact ⟨A', c', rfl, ho, hb⟩
end Go.Proofs.YtajcalmjdfhedaaDoor.Glyph
