/- Contracts of name: Check, Key (a loop over the marks, which are a string, left at a label). -/
import Derived.Test.YtjbkpiimjkekgaaDoorNPts
import Derived.WalkMore
namespace Go.Proofs.YtjbkpiimjkekgaaDoor.Name
open Go.RowKit
open Go.Proofs.YtjbkpiimjkekgaaDoor.Wire
open Go.Proofs.YtjbkpiimjkekgaaDoor.Glyph
set_option linter.unusedVariables false

theorem Check_any (s : ByteArray) (w : World) (hm : s.size ≤ 1099511627776) (hT : NT w) :
    Calls Tryd.prog 14 #[.string s] w fun e w' => e = .returned (.int .i64 (chk (sb s))) ∧ Bl w w' := by
  have c := codePoints_any s w hm hT
  unfold PtsOut at c
  generalize chk (sb s) = X at *
  generalize pts (sb s) = L at *
  go_enter Tryd.func14, Tryd.ntmps14
  go_wp2_with fail
  refine c.mono ?_
  rintro e w' ⟨A1, c1, rfl, _, _, hb⟩
  go_wp2_with fail
  go_ret
  exact ⟨rfl, hb⟩
/-- the marks, as the string that the program ranges over -/
def mkS : ByteArray := ⟨#[32, 39, 40, 41, 45, 46]⟩
def mkR : List Int := [32, 39, 40, 41, 45, 46]
theorem mkD : ∀ j, j < 6 → Utf8.decode mkS j = ((mkR.getD j 0).toNat, 1) ∧ 0 ≤ mkR.getD j 0 ∧ mkR.getD j 0 ≤ 46 := by
  intro j hj
  rcases (show j = 0 ∨ j = 1 ∨ j = 2 ∨ j = 3 ∨ j = 4 ∨ j = 5 by omega) with h | h | h | h | h | h <;> subst h <;> exact ⟨by decide +kernel, by decide, by decide⟩
theorem mk_yes {x : Int} {j : Nat} (hj : j < 6) (h : x = mkR.getD j 0) : mrk x = true := by
  unfold mrk
  rw [decide_eq_true_eq]
  rcases (show j = 0 ∨ j = 1 ∨ j = 2 ∨ j = 3 ∨ j = 4 ∨ j = 5 by omega) with g | g | g | g | g | g <;> subst g <;> simp [mkR] at h <;> simp [h]
theorem mk_no {x : Int} (h : ∀ j, j < 6 → x ≠ mkR.getD j 0) : mrk x = false := by
  unfold mrk
  rw [decide_eq_false_iff_not]
  have h0 := h 0 (by omega)
  have h1 := h 1 (by omega)
  have h2 := h 2 (by omega)
  have h3 := h 3 (by omega)
  have h4 := h 4 (by omega)
  have h5 := h 5 (by omega)
  simp [mkR] at h0 h1 h2 h3 h4 h5
  omega
set_option maxHeartbeats 2000000 in
theorem Key_any (s : ByteArray) (w : World) (hm : s.size ≤ 1099511627776) (hT : NT w) :
    Calls Tryd.prog 12 #[.string s] w (KeyOut w (sb s)) := by
  have c1 := codePoints_any s w hm hT
  unfold PtsOut at c1
  by_cases h0 : chk (sb s) = 0
  · obtain ⟨_, h40, l, hd, _, _, _⟩ := chk_ok.1 h0
    have hok := (dec_iff.1 hd).1
    have hll : l.length ≤ 40 := by have := dec_byts hd; omega
    rw [h0, pts_yes h0 hd] at c1
    have fin := hid (fun (w' : World) (A : Option Addr) (m c : Nat) => KeyOut.yes (w := w) (w' := w') (A := A) (m := m) (c := c) h0 (key_some h0 hd))
    have C1 := hid c1
    have HO := hid hok
    have HT := hid hT
    clear c1 h0 hd h40 hok hT
    obtain ⟨n, hn⟩ : ∃ n, n = l.length := ⟨_, rfl⟩
    rw [← hn] at hll C1
    have hl := hid hn.symm
    clear hn
    go_enter Tryd.func12, Tryd.ntmps12
    go_wp2
    go_step3
    go_wp2_with fail
    refine C1.out.mono ?_
    rintro e w2 ⟨A2, k2, rfl, hs2, hc2, hb2⟩
    go_wp2
    go_step3
    go_wp2_with fail
    go_loopg [2, 19] n (fun g b i wr => ∃ (A' : Option Addr) (m c' k : Nat), k + g = n ∧ b = .slice A' m c' ∧ i = .int .i64 k ∧ m ≤ k ∧ Ow wr w2.heap.size 3 .i64 A' m c' (keyL (l.take k)) ∧ Sh wr w2.heap.size .i64 A2 n l ∧ Bl w wr ∧ w2.heap.size ≤ wr.heap.size)
    case atStart => exact ⟨none, 0, 0, 0, by omega, rfl, rfl, by omega, Ow.none_ _ _ _ _, hs2, hb2, Nat.le_refl _⟩
    case round =>
      have hwz : w.heap.size ≤ w2.heap.size := hb2.size
      clear hs2 hb2 C1
      obtain ⟨A', m, c', k, hkg, rfl, rfl, hmk, ho, hs, hb, hsz⟩ := hrel
      cases gk with
      | zero =>
        obtain rfl : n = k := by omega
        have hno : ¬ (n : Int) < (n : Int) := by omega
        go_wp2_with fail
        try rw [Exit.noGoto_ret]
        go_ret2
        rw [take_all (by rw [hl.out]; omega)] at ho
        exact fin.out _ _ _ _ ho.sh (ow_cap ho) hb
      | succ g =>
        have hlt : k < n := by omega
        have hltz : (k : Int) < (n : Int) := by omega
        obtain ⟨b, o, rfl, _, hcell⟩ := hs.2 (by omega)
        have hc1 := hcell k hlt
        have hkl : k < l.length := by rw [hl.out]; exact hlt
        have hsn := hid (take_snoc (l := l) (i := k) hkl)
        have hmem := getD_mem hkl
        have hr := scr_range (HO.out _ hmem)
        have F1 := hid (fun w' (hb' : Bl wr w') => Fold_any (l.getD k 0) w' (by omega) (by omega) (HT.out.bl (hb.trans hb')).tab)
        clear hcell hmem hkl
        generalize l.getD k 0 = x at *
        go_wp2_with fail
        obtain ⟨g0, hg0⟩ : ∃ g0, g0 = wr.heap.size := ⟨_, rfl⟩
        rw [← hg0]
        have HG := hid hg0
        clear hg0
        go_loopg [8] 6 (fun g2 _ wy => ∃ j : Nat, j + g2 = 6 ∧ Hid (∀ q, q < j → x ≠ mkR.getD q 0) ∧ wy.heap[g0]? = some (.stringIter mkS j) ∧ Bl wr wy ∧ g0 + 1 ≤ wy.heap.size)
        case atStart => exact ⟨0, by omega, hid (fun q h => by omega), by rw [HG.out]; exact World.iter_heap wr mkS 0, (Bl.refl wr).alloc _, by rw [HG.out]; show wr.heap.size + 1 ≤ (wr.heap.push _).size; simp⟩
        case round =>
          rename World => wy
          obtain ⟨j, hjg, hn, hi, hby, hsy⟩ := hrel
          cases gk with
          | zero =>
            obtain rfl : j = 6 := by omega
            have hnx : ∀ ty, (Instr.next (.pointer (some ⟨g0, 0, none⟩)) true ty).run Tryd.prog wy = .ok (.tuple #[.bool false]) wy := fun ty => Glyph.run_next_done wy g0 mkS 6 ty hi (by decide)
            have hx := mk_no hn.out
            have hfin := hid (show keyL (l.take (k + 1)) = keyL (l.take k) ++ [fol x] by rw [hsn.out, keyL_in hx])
            have F2 := hid (F1.out wy hby)
            clear hx hsn hi
            generalize fol x = y at *
            go_wp2_with fail
            refine F2.out.mono ?_
            rintro e w3 ⟨rfl, hb3'⟩
            have hb3 := hby.trans hb3'
            have ho3 := ho.below hb3
            have hs3 := hs.below (hb3.mono hsz)
            have hsz3 := Nat.le_trans hsz hb3.size
            go_wp2_with (at_builtin; refine wpList_app_own _ rfl (.tmp 31) (.tmp 34) _ rfl elI rfl (ho3.alloc _) rfl (Sh.one _ _ _ _) (by omega) (by omega) (by simp; omega) ?_; intro A3 c3 w4 ho4 hb4)
            have hb34 : Below w2.heap.size w3 w4 := Below.trans ((Below.refl _ w3).alloc hsz3 _) hb4
            go_roundg g
            case measure => omega
            case rel => exact ⟨A3, m + 1, c3, k + 1, by omega, by go_num, by go_num, by omega, by rw [hfin.out]; exact ho4, hs3.below hb34, Below.trans (hb.trans hb3) (hb34.mono (by omega)), Nat.le_trans hsz3 hb34.size⟩
          | succ g2 =>
            have hj6 : j < 6 := by omega
            obtain ⟨hdc, hr0, hr1⟩ := mkD j hj6
            have hnx : ∀ ty, (Instr.next (.pointer (some ⟨g0, 0, none⟩)) true ty).run Tryd.prog wy = .ok (.tuple #[.bool true, .int .i64 j, .int .i32 (mkR.getD j 0)]) (World.turn wy g0 mkS (j + 1)) := fun ty => by
              have := Glyph.run_next_at (P := Tryd.prog) wy g0 mkS j ty hi (show j < 6 from hj6)
              rw [hdc] at this
              simp only [Int.toNat_of_nonneg hr0] at this
              exact this
            have hbt := hid (turn_bl (p := j + 1) (s := mkS) hby (Nat.le_of_eq HG.out.symm))
            have hit := hid (turn_at (w := wy) (s := mkS) (p := j + 1) (show g0 < wy.heap.size by omega))
            have hst : g0 + 1 ≤ (World.turn wy g0 mkS (j + 1)).heap.size := by rw [turn_size]; exact hsy
            generalize World.turn wy g0 mkS (j + 1) = wt at *
            clear hi hdc
            by_cases he : x = mkR.getD j 0
            · have hfin := hid (show keyL (l.take (k + 1)) = keyL (l.take k) by rw [hsn.out, keyL_out (mk_yes hj6 he)])
              rw [← he] at hnx
              clear he hsn hr0 hr1
              have ho2 := ho.below hbt.out
              have hs2 := hs.below (hbt.out.mono hsz)
              have hbw := hb.trans hbt.out
              have hsz2 := Nat.le_trans hsz hbt.out.size
              go_wp2_with fail
              go_roundg g
              case measure => omega
              case rel => exact ⟨A', m, c', k + 1, by omega, rfl, by go_num, by omega, by rw [hfin.out]; exact ho2, hs2, hbw, hsz2⟩
            · have hn' := hid (show ∀ q, q < j + 1 → x ≠ mkR.getD q 0 from fun q h => by
                by_cases e : q = j
                · subst e; exact he
                · exact hn.out q (by omega))
              generalize mkR.getD j 0 = y at hnx he hr0 hr1
              have t : (x == y) = false := beq_eq_false_iff_ne.2 he
              go_wp2_with fail
              go_roundg g2
              case measure => omega
              case rel => exact ⟨j + 1, by omega, hn', hit.out, hbt.out, hst⟩
  · have fin := hid (fun (w' : World) => KeyOut.no (w := w) (w' := w') (S := sb s) rfl h0)
    rw [pts_no h0] at c1
    generalize hX : chk (sb s) = X at *
    have HX := hid hX
    have t : (X == 0) = false := by simpa using h0
    have C1 := hid c1
    clear c1 hX
    go_enter Tryd.func12, Tryd.ntmps12
    go_wp2
    go_step3
    go_wp2_with fail
    refine C1.out.mono ?_
    rintro e w1 ⟨A1, c1, rfl, _, _, hb1⟩
    go_wp2_with fail
    try rw [Exit.noGoto_ret]
    go_ret2
    exact fin.out _ hb1
end Go.Proofs.YtjbkpiimjkekgaaDoor.Name
