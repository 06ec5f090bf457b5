/- Contracts of the reference of glyph: Decode. -/
import Derived.Test.YtjbkpiimjkekgaaDoorYRef5
import Derived.Laws.StructEq
namespace Go.Proofs.YtjbkpiimjkekgaaDoor.Glyph
open Go.RowKit
open Go.Proofs.YtjbkpiimjkekgaaDoor.Wire
set_option linter.unusedVariables false

def Fit (t : List Int) (n : Nat) : Prop := n ≤ t.length ∧ 0 ≤ scr (val (t.take n)) ∧ un (val (t.take n)) = t.take n
theorem fit_split {t : List Int} {n : Nat} (h : Fit t n) : t = un (val (t.take n)) ++ t.drop n := by
  rw [h.2.2, List.take_append_drop]
theorem fit_of {r : Int} {u : List Int} (h : 0 ≤ scr r) : Fit (un r ++ u) (un r).length := by
  have := fits_try (u := u) h
  refine ⟨by simp, ?_, ?_⟩
  · rw [this.1]; exact h
  · rw [this.1, this.2]
theorem fit_none {t : List Int} (h : ∀ j, 1 ≤ j → j ≤ 3 → ¬ Fit t j) : ∀ r u, 0 ≤ scr r → t ≠ un r ++ u := by
  intro r u hr e
  have := un_len r
  exact h _ this.1 this.2 (e ▸ fit_of hr)
theorem strOf_sb (s : ByteArray) : strOfNums (sb s) = s := by
  apply ByteArray.ext
  unfold strOfNums sb
  simp only [List.map_map]
  apply Array.ext'
  simp
  conv => rhs; rw [← List.map_id s.data.toList]
  apply List.map_congr_left
  intro a _
  simp
theorem sb_byts (s : ByteArray) : byts (sb s) := by
  intro x hx
  obtain ⟨b, _, rfl⟩ := List.mem_map.1 hx
  have := b.toNat_lt
  omega
theorem sb_str {l : List Int} (h : byts l) : sb (strOfNums l) = l := by
  unfold sb
  rw [strOfNums_data, List.map_map]
  conv => rhs; rw [← List.map_id l]
  apply List.map_congr_left
  intro a ha
  have := h a ha
  simp
  omega
theorem sb_ext (s : ByteArray) (k n : Nat) : sb (s.extract k (k + n)) = ((sb s).drop k).take n := by
  unfold sb
  rw [ByteArray.data_extract, Array.toList_extract, List.extract_eq_take_drop, List.map_take, List.map_drop, Nat.add_sub_cancel_left]
theorem sb_nil (l : ByteArray) (h : sb l = []) : l = ⟨#[]⟩ := by
  rw [← strOf_sb l, h]; rfl

theorem toList_ne {a b : ByteArray} (h : a ≠ b) : (a.toList == b.toList) = false := by
  refine beq_eq_false_iff_ne.2 fun e => h ?_
  rw [ByteArray.toList_eq, ByteArray.toList_eq] at e
  exact ByteArray.ext (Array.ext' e)

noncomputable def decL (s : ByteArray) : List Int := (dec (sb s)).getD []
noncomputable def decE (s : ByteArray) : Int := if (dec (sb s)).isSome then 0 else 4
def DecOut (w : World) (s : ByteArray) (e : Ending) (w' : World) : Prop :=
  ∃ A' c', e = .returned (.tuple #[.slice A' (decL s).length c', .int .i64 (decE s)]) ∧ Sh w' w'.heap.size .i64 A' (decL s).length (decL s) ∧ (decL s).length ≤ c' ∧ Bl w w'
theorem DecOut.no {w w' : World} {s : ByteArray} (h : dec (sb s) = none) (hb : Bl w w') : DecOut w s (.returned (.tuple #[.slice none 0 0, .int .i64 4])) w' := by
  have h1 : decL s = [] := by unfold decL; rw [h]; rfl
  have h2 : decE s = 4 := by unfold decE; rw [h]; rfl
  refine ⟨none, 0, by rw [h1, h2]; rfl, ?_, by rw [h1]; exact Nat.le_refl _, hb⟩
  rw [h1]; exact Sh.nil _ _ _ _
theorem DecOut.yes {w w' : World} {s : ByteArray} {L : List Int} {A : Option Addr} {m c : Nat} (h : dec (sb s) = some L) (hS : Sh w' w'.heap.size .i64 A m L) (hc : m ≤ c) (hb : Bl w w') :
    DecOut w s (.returned (.tuple #[.slice A m c, .int .i64 0])) w' := by
  have h1 : decL s = L := by unfold decL; rw [h]; rfl
  have h2 : decE s = 0 := by unfold decE; rw [h]; rfl
  obtain rfl := hS.len
  exact ⟨A, c, by rw [h1, h2], by rw [h1]; exact hS, by rw [h1]; exact hc, hb⟩
theorem dec_end {s : ByteArray} {L : List Int} {k : Nat} (h : okl L) (e : enc L = (sb s).take k) (hk : k = s.size) : dec (sb s) = some L := by
  rw [List.take_of_length_le (by rw [sb_len]; omega)] at e
  rw [← e]; exact dec_some h
theorem dec_fail {s : ByteArray} {L : List Int} {k : Nat} (h : okl L) (e : enc L = (sb s).take k) (hk : k < s.size) (hn : ∀ j, 1 ≤ j → j ≤ 3 → ¬ Fit ((sb s).drop k) j) : dec (sb s) = none := by
  have : sb s = enc L ++ (sb s).drop k := by rw [e, List.take_append_drop]
  rw [this]
  refine dec_stop h ?_ (fit_none hn)
  intro e2
  have := congrArg List.length e2
  rw [List.length_drop, sb_len] at this
  simp at this
  omega
theorem dec_more {s : ByteArray} {L : List Int} {k u : Nat} (h : okl L) (e : enc L = (sb s).take k) (hf : Fit ((sb s).drop k) u) :
    okl (L ++ [val (((sb s).drop k).take u)]) ∧ enc (L ++ [val (((sb s).drop k).take u)]) = (sb s).take (k + u) := by
  refine ⟨okl_snoc.2 ⟨h, hf.2.1⟩, ?_⟩
  rw [enc_snoc, e, hf.2.2, List.take_add]

set_option maxHeartbeats 2000000 in
theorem RDecode_any (s : ByteArray) (w : World) (hm : s.size ≤ 1099511627776) :
    Calls Tryd.prog 26 #[.string s] w (DecOut w s) := by
  go_enter Tryd.func26, Tryd.ntmps26
  go_wp2_with fail
  go_loopw [4, 5] (fun l i wr => ∃ (A' : Option Addr) (m c' k : Nat) (L : List Int), l = .slice A' m c' ∧ i = .int .i64 k ∧ k ≤ s.size ∧ m ≤ k ∧ Hid (okl L) ∧ Hid (enc L = (sb s).take k) ∧ Ow wr w.heap.size 3 .i64 A' m c' L ∧ Bl w wr) (fun _ i _ => s.size - (intOf i).toNat)
  case atStart => exact ⟨none, 0, 0, 0, [], rfl, rfl, by omega, by omega, hid okl_nil, hid rfl, Ow.none_ _ _ _ _, Bl.refl _⟩
  case round =>
    obtain ⟨A', m, c', k, L, rfl, rfl, hk, hmk, hL, he, ho, hb⟩ := hrel
    by_cases hlt : k < s.size
    · go_wp2_with fail
      go_loopw [4, 6, 7] (fun l u n wr => ∃ (A' : Option Addr) (m c' U Nn : Nat) (L' : List Int), l = .slice A' m c' ∧ u = .int .i64 U ∧ n = .int .i64 Nn ∧ 1 ≤ Nn ∧ Nn ≤ 4 ∧ m ≤ k + U ∧
        Ow wr w.heap.size 3 .i64 A' m c' L' ∧ Bl w wr ∧ ((U = 0 ∧ Hid (L' = L) ∧ Hid (∀ j, 1 ≤ j → j < Nn → ¬ Fit ((sb s).drop k) j)) ∨ (1 ≤ U ∧ U ≤ 3 ∧ k + U ≤ s.size ∧ Hid (Fit ((sb s).drop k) U) ∧ Hid (L' = L ++ [val (((sb s).drop k).take U)])))) (fun _ _ n _ => 4 - (intOf n).toNat)
      case atStart => exact ⟨A', m, c', 0, 1, L, rfl, rfl, rfl, by omega, by omega, by omega, ho, hb, .inl ⟨rfl, hid rfl, hid (fun j h1 h2 => by omega)⟩⟩
      case round =>
        clear ho hb
        obtain ⟨A', m, c', U, Nn, L', rfl, rfl, rfl, hn1, hn4, hmu, ho, hb, hcase⟩ := hrel
        rcases hcase with ⟨rfl, hL', hno⟩ | ⟨hu1, hu3, hku, hfit, hL'⟩
        · by_cases hgo : Nn ≤ 3 ∧ k + Nn ≤ s.size
          · obtain ⟨g1, g2⟩ := hgo
            have hxs : (s.extract k (k + Nn)).size = Nn := by rw [ByteArray.size_extract]; omega
            have c1 := value_any (s.extract k (k + Nn)) wr (by omega) (by omega)
            rw [sb_ext] at c1
            have hfd := hid (show Fit ((sb s).drop k) Nn ↔ (0 ≤ scr (val (((sb s).drop k).take Nn)) ∧ un (val (((sb s).drop k).take Nn)) = sb (s.extract k (k + Nn))) by
              rw [sb_ext]
              refine ⟨fun h => h.2, fun h => ⟨?_, h⟩⟩
              rw [List.length_drop, sb_len]; omega)
            have hVe := hid (rfl : val (((sb s).drop k).take Nn) = val (((sb s).drop k).take Nn))
            generalize hV : val (((sb s).drop k).take Nn) = V at c1 hfd
            have HV := hid hV
            clear hV hVe
            have C1 := hid c1
            clear c1
            have i1 : (k : Int) + (Nn : Int) ≤ (s.size : Int) := by omega
            have i2 : (k : Int) ≤ (k : Int) + (Nn : Int) := by omega
            have i3 : (0 : Int) ≤ (k : Int) := by omega
            have i4 : (0 : Int) ≤ (k : Int) + (Nn : Int) := by omega
            have i5 : IntKind.i64.wrap ((k : Int) + (Nn : Int)) = (k : Int) + (Nn : Int) := by rw [IntWalk.i64_left, IntWalk.wrap64_in _ (by omega)]
            have HX := hid hxs
            clear hxs
            by_cases hx : scr V < 0
            · have hnf := hid (show ∀ j, 1 ≤ j → j < Nn + 1 → ¬ Fit ((sb s).drop k) j from fun j h1 h2 hf => by
                by_cases hj : j = Nn
                · subst hj
                  have := (hfd.out.1 hf).1
                  omega
                · exact hno.out j h1 (by omega) hf)
              have c2 := hid (fun w' => RScript_any V w')
              have tx : decide (0 ≤ scr V) = false := decide_eq_false (by omega)
              generalize scr V = X at *
              clear hno hfd
              go_wp2_with fail
              refine C1.out.mono ?_
              rintro e w2 ⟨rfl, hq⟩
              go_wp2_with fail
              go_quiet ((go_at_call 46; exact quiet_same ⟨_, rfl⟩ (c2.out _)))
              go_wp2_with fail
              go_roundw
              case rel => exact ⟨A', m, c', 0, Nn + 1, L', rfl, rfl, by go_num, by omega, by omega, by omega, ho.below ((hq.drewN _).bl), hb.q (hq.drewN _), .inl ⟨rfl, hL', hnf⟩⟩
              case measure => simp [intOf]; omega
            · have hr := scr_range (r := V) (by omega)
              have c2 := hid (fun w' => RScript_any V w')
              have tx : decide (0 ≤ scr V) = true := decide_eq_true (by omega)
              have tx2 : 0 ≤ scr V := by omega
              have c3 := hid (fun w' => unit_any V w' (by omega) (by omega))
              by_cases hu : un V = sb (s.extract k (k + Nn))
              · have hf := hid (hfd.out.2 ⟨by omega, hu⟩)
                rw [hu, strOf_sb] at c3
                have t1 : ((s.extract k (k + Nn)).toList == (s.extract k ((k : Int) + (Nn : Int)).toNat).toList) = true := by
                  rw [show ((k : Int) + (Nn : Int)).toNat = k + Nn by omega]; exact beq_self_eq_true _
                clear hfd hno hu hx
                generalize scr V = X at *
                go_wp2_with fail
                refine C1.out.mono ?_
                rintro e w2 ⟨rfl, hq⟩
                have hB : Bl wr w2.drew := hq.bl.drew
                go_wp2_with fail
                go_region_held3 (fun w' => True) (trivial) (first
                  | (go_at_call 46; (with_reducible refine (c2.out _).mono ?_); rintro e w' ⟨rfl, rfl⟩)
                  | (go_at_call 47; (with_reducible refine (c3.out _).mono ?_); rintro e wx ⟨rfl, hbx⟩; have hB : Bl wr wx := Bl.trans (by assumption) hbx))
                have hW : Bl wr wx := by assumption
                have hml := hid ho.len
                have hW2 : w.heap.size ≤ wx.heap.size := by have := hW.size; have := hb.size; omega
                go_wp2_with (at_builtin; refine wpList_app_own _ rfl (.tmp 51) (.tmp 53) _ rfl elI rfl ((ho.below hW).alloc _) rfl (Sh.one _ _ _ _) (by omega) (by omega) (by simp; omega) ?_; intro A2 c2' w4 ho2 hb2)
                go_wp2_with fail
                go_roundw
                case rel => exact ⟨A2, m + 1, c2', Nn, Nn + 1, L' ++ [V], rfl, rfl, by go_num, by omega, by omega, by omega, ho2, Below.trans ((hb.trans hW).alloc _) hb2, .inr ⟨hn1, g1, g2, hf, hid (by rw [hL'.out, HV.out])⟩⟩
                case measure => simp [intOf]; omega
              · have hnf := hid (show ∀ j, 1 ≤ j → j < Nn + 1 → ¬ Fit ((sb s).drop k) j from fun j h1 h2 hf => by
                  by_cases hj : j = Nn
                  · subst hj
                    exact hu (hfd.out.1 hf).2
                  · exact hno.out j h1 (by omega) hf)
                have hne : strOfNums (un V) ≠ s.extract k (k + Nn) := fun h => hu (by rw [← h, sb_str (un_byts (by omega) (by omega))])
                have C3 := c3.out
                generalize strOfNums (un V) = UV at C3 hne
                have c3 := hid C3
                clear C3
                have t1 : (UV.toList == (s.extract k ((k : Int) + (Nn : Int)).toNat).toList) = false := by
                  rw [show ((k : Int) + (Nn : Int)).toNat = k + Nn by omega]; exact toList_ne hne
                clear hfd hno hu hx
                generalize scr V = X at *
                go_wp2_with fail
                refine C1.out.mono ?_
                rintro e w2 ⟨rfl, hq⟩
                have hB : Bl wr w2.drew := hq.bl.drew
                go_wp2_with fail
                go_region_held3 (fun w' => True) (trivial) (first
                  | (go_at_call 46; (with_reducible refine (c2.out _).mono ?_); rintro e w' ⟨rfl, rfl⟩)
                  | (go_at_call 47; (with_reducible refine (c3.out _).mono ?_); rintro e wx ⟨rfl, hbx⟩; have hB : Bl wr wx := Bl.trans (by assumption) hbx))
                have hW : Bl wr wx := by assumption
                go_wp2_with fail
                go_roundw
                case rel => exact ⟨A', m, c', 0, Nn + 1, L', rfl, rfl, by go_num, by omega, by omega, by omega, ho.below hW, hb.trans hW, .inl ⟨rfl, hL', hnf⟩⟩
                case measure => simp [intOf]; omega
          · have hnone := hid (dec_fail hL.out he.out hlt (fun j h1 h2 hf => by
              by_cases hj : j < Nn
              · exact hno.out j h1 hj hf
              · have := hf.1
                rw [List.length_drop, sb_len] at this
                omega))
            clear hno
            by_cases g1 : Nn ≤ 3
            · have g2 : ¬ k + Nn ≤ s.size := fun h => hgo ⟨g1, h⟩
              clear hgo
              go_wp2_with fail
              go_ret2
              exact DecOut.no hnone.out hb
            · clear hgo
              go_wp2_with fail
              go_ret2
              exact DecOut.no hnone.out hb
        · have hm := hid (dec_more hL.out he.out hfit.out)
          rw [← hL'.out] at hm
          clear hL' hfit
          have t : ((U : Int) == 0) = false := beq_eq_false_iff_ne.2 (by omega)
          go_wp2_with fail
          all_goals
            go_roundw
            case rel => exact ⟨A', m, c', k + U, L', rfl, by go_num, hku, hmu, hid hm.out.1, hid hm.out.2, ho, hb⟩
            case measure => simp [intOf]; omega
    · have hdone := hid (dec_end hL.out he.out (by omega))
      go_wp2_with fail
      go_ret2
      exact DecOut.yes hdone.out ho.sh (ow_cap ho) hb
end Go.Proofs.YtjbkpiimjkekgaaDoor.Glyph
