/- Contracts of glyph: the copy of a run in reverse, its digits put in order; the library's Reverse and Clone. -/
import Derived.Test.YtajcalmjdfhedaaDoorYPart
import Derived.Test.YtajcalmjdfhedaaDoorYTab
namespace Go.Proofs.YtajcalmjdfhedaaDoor.Glyph
open Go.RowKit
open Go.Proofs.YtajcalmjdfhedaaDoor.Wire
set_option linter.unusedVariables false

/-- slices.Reverse of a part of a row of ints of the call's own -/
theorem rev_any (g n c s k c' B : Nat) (zs : List Int) (w : World) (h : Vw w B 3 (some ⟨g, 0, none⟩) n c (iv .i64 zs)) (hk : s + k ≤ n) (hm : n ≤ 1048576) :
    Calls Tryd.prog 51 #[.slice (some ⟨g, s, none⟩) k c'] w fun e w' => e = .returned (.tuple #[]) ∧ Vw w' B 3 (some ⟨g, 0, none⟩) n c (iv .i64 (rvp s k zs)) ∧ Bu g w w' := by
  have hl : zs.length = n := by have := h.len; rw [iv_len] at this; exact this
  have hlen : ((zs.drop s).take k).length = k := by simp; omega
  have hH := Vw.holds (enc := Value.int .i64) h (s := s) (k := k) hk
  have r := Tryd.slices_Reverse_int g s c' ((zs.drop s).take k) w hH (by omega)
  rw [hlen] at r
  refine r.mono ?_
  rintro e w' ⟨rfl, q, rfl⟩
  exact ⟨rfl, Vw.rvp (enc := Value.int .i64) h hk, bu_put⟩
/-- slices.Clone of a slice that is not empty -/
theorem clone_any (b o n c : Nat) (zs : List Int) (w : World) (h : Sh w w.heap.size .i64 (some ⟨b, o, none⟩) n zs) (h0 : 0 < n) (hm : n ≤ 1048576) :
    Calls Tryd.prog 50 #[.slice (some ⟨b, o, none⟩) n c] w fun e w' => ∃ (g c' : Nat), e = .returned (.slice (some ⟨g, 0, none⟩) n c') ∧ w.heap.size ≤ g ∧ Vw w' w.heap.size 3 (some ⟨g, 0, none⟩) n c' (iv .i64 zs) ∧ Bl w w' := by
  have hl := h.len
  obtain ⟨b', o', he, hb, hc⟩ := h.2 h0
  injection he with he
  injection he with h1 h2
  subst h1 h2
  have r := Tryd.slices_Clone_int b o n c zs w (by omega) (by omega) (fun j hj => hc j (by omega))
  refine r.mono ?_
  rintro e w' ⟨v', rfl, ho, _, hb'⟩
  rw [List.take_of_length_le (by omega)] at ho
  rcases ho.2 with ⟨_, h00⟩ | ⟨g, cap, cur, rfl, hg, _⟩
  · omega
  · exact ⟨g, cap, rfl, hg, ho, hb'⟩

/-- the variable out, and the row it shows -/
def Ov (w : World) (r g c B n : Nat) (zs : List Int) : Prop :=
  w.heap[r]? = some (.cells #[.slice (some ⟨g, 0, none⟩) n c] 22 (0, 0)) ∧ Vw w B 3 (some ⟨g, 0, none⟩) n c (iv .i64 zs)
theorem Ov.bl {w w' : World} {r g c B n : Nat} {zs : List Int} (h : Ov w r g c B n zs) (hb : Bl w w') : Ov w' r g c B n zs :=
  ⟨(hb.block r (Array.getElem?_eq_some_iff.1 h.1).1).trans h.1, h.2.bl hb⟩
theorem Ov.cell {w : World} {r g c B n : Nat} {zs : List Int} (h : Ov w r g c B n zs) : w.cell? ⟨r, 0, none⟩ = some (.slice (some ⟨g, 0, none⟩) n c) := by rw [cell_of_row _ _ _ _ _ _ h.1]; rfl
theorem Ov.el {w : World} {r g c B n : Nat} {zs : List Int} (h : Ov w r g c B n zs) {j : Nat} (hj : j < n) : w.cell? ⟨g, j, none⟩ = some (.int .i64 (zs.getD j 0)) := by
  have hl : zs.length = n := by have := h.2.len; rw [iv_len] at this; exact this
  rw [h.2.cellAt hj, iv_at (by omega)]

set_option maxHeartbeats 1000000 in
theorem stepD_any (r g c B n i : Nat) (zs : List Int) (w : World) (h : Ov w r g c B n zs) (h1 : 1 ≤ i) (hi : i < n) (hm : n ≤ 1048576) (hO : ∀ x ∈ zs, -9223372036854775808 ≤ x ∧ x ≤ 9223372036854775807) :
    Calls Tryd.prog 52 #[.int .i64 (i : Nat), .pointer (some ⟨r, 0, none⟩)] w fun e w' => e = .returned (.bool (jd zs i)) ∧ Bl w w' := by
  have hl : zs.length = n := by have := h.2.len; rw [iv_len] at this; exact this
  have hmem : ∀ j, j < n → zs.getD j 0 ∈ zs := fun j hj => by
    have : zs.getD j 0 = zs[j]'(by omega) := by simp [List.getD, List.getElem?_eq_getElem (show j < zs.length by omega)]
    rw [this]; exact List.getElem_mem _
  have hc := h.cell
  have e1 := h.el hi
  have e2 := h.el (j := i - 1) (by omega)
  have c1 := hid (fun w' => digit_any (zs.getD i 0) w' (hO _ (hmem i hi)).1 (hO _ (hmem i hi)).2)
  have c2 := hid (fun w' => digit_any (zs.getD (i - 1) 0) w' (hO _ (hmem (i - 1) (by omega))).1 (hO _ (hmem (i - 1) (by omega))).2)
  have hj : Hid (jd zs i = (dig (zs.getD i 0) && dig (zs.getD (i - 1) 0))) := hid rfl
  have k2 : ((i : Int) - 1) = ((i - 1 : Nat) : Int) := by omega
  have k3 : i - 1 < n := by omega
  generalize zs.getD i 0 = x at *
  generalize zs.getD (i - 1) 0 = y at *
  generalize jd zs i = J at *
  clear h hmem hl
  cases hx : dig x
  · rw [hx] at c1 hj
    clear hx
    go_enter Tryd.func52, Tryd.ntmps52
    go_wp2_with fail
    refine (c1.out _).mono ?_
    rintro e w' ⟨rfl, rfl⟩
    go_wp2_with fail
    go_ret
    exact ⟨retB hj.out.symm, Bl.refl _⟩
  · rw [hx] at c1 hj
    clear hx
    go_enter Tryd.func52, Tryd.ntmps52
    go_wp2_with fail
    refine (c1.out _).mono ?_
    rintro e w' ⟨rfl, rfl⟩
    go_wp2_with fail
    refine (c2.out _).mono ?_
    rintro e w' ⟨rfl, rfl⟩
    go_wp2_with fail
    go_ret
    exact ⟨retB hj.out.symm, Bl.refl _⟩

theorem flat_set {L : List (List Int)} {j : Nat} {x : List Int} (hj : j < L.length) : (L.set j x).flatten = (L.take j).flatten ++ x ++ (L.drop (j + 1)).flatten := by
  rw [List.set_eq_take_append_cons_drop, if_pos hj]
  simp

/-- what is reversed so far: the parts before j in reverse, the others as they were -/
def mid (z : List Int) (P : List (Nat × Nat)) (j : Nat) : List Int := ((P.take j).map fun p => (sg z p).reverse).flatten ++ z.drop (beg P j)
theorem Pt.flat {J : Nat → Bool} {n s : Nat} {P : List (Nat × Nat)} {z : List Int} (h : Pt J n P s) (hn : n ≤ z.length) : ∀ j, j ≤ P.length → (((P.take j).map fun p => (sg z p).reverse).flatten).length = Glyph.beg P j ∧ Glyph.beg P j ≤ s := by
  intro j
  induction j with
  | zero => intro _; exact ⟨rfl, Nat.zero_le _⟩
  | succ j ih =>
    intro hj
    have ha := h.at (show j < P.length by omega)
    have hb := h.beg (show j < P.length by omega)
    have hs := h.le.2.1
    obtain ⟨i1, i2⟩ := ih (by omega)
    rw [beg_succ, List.take_add_one, List.map_append, List.flatten_append, List.length_append, i1]
    have e : P[j]? = some (P.getD j (0, 0)) := by simp [List.getD, List.getElem?_eq_getElem (show j < P.length by omega)]
    rw [e]
    refine ⟨?_, ha.2⟩
    simp only [Option.toList_some, List.map_cons, List.map_nil, List.flatten_cons, List.flatten_nil, List.append_nil, List.length_reverse]
    unfold sg
    rw [List.length_take, List.length_drop]
    omega
theorem mid_step {J : Nat → Bool} {n s : Nat} {P : List (Nat × Nat)} {z : List Int} (h : Pt J n P s) (hn : n ≤ z.length) {j : Nat} (hj : j < P.length) :
    rvp (P.getD j (0, 0)).1 ((P.getD j (0, 0)).2 - (P.getD j (0, 0)).1) (mid z P j) = mid z P (j + 1) := by
  have hf := h.flat hn j (by omega)
  have hb := h.beg hj
  have ha := h.at hj
  have hs := h.le.2.1
  unfold rvp mid
  rw [beg_succ, List.take_add_one, List.map_append, List.flatten_append]
  have e : P[j]? = some (P.getD j (0, 0)) := by simp [List.getD, List.getElem?_eq_getElem hj]
  rw [e]
  generalize P.getD j (0, 0) = p at *
  rw [hb] at ha ⊢
  generalize beg P j = q at *
  generalize ((P.take j).map fun p => (sg z p).reverse).flatten = F at *
  obtain ⟨f1, f2⟩ := hf
  rw [← f1, List.take_left, List.drop_left]
  simp only [Option.toList_some, List.map_cons, List.map_nil, List.flatten_cons, List.flatten_nil, List.append_nil]
  unfold sg
  rw [hb, ← f1]
  congr 1
  rw [show F.length + (p.2 - F.length) = p.2 by omega, List.drop_append, List.drop_of_length_le (by omega), List.nil_append, List.drop_drop]
  congr 1; omega
theorem mid_all {J : Nat → Bool} {n : Nat} {P : List (Nat × Nat)} {z : List Int} (h : Pt J n P n) (hn : z.length = n) : mid z P P.length = (P.map fun p => (sg z p).reverse).flatten := by
  unfold mid
  rw [List.take_length, h.last, List.drop_of_length_le (by omega), List.append_nil]
theorem mid_zero (z : List Int) (P : List (Nat × Nat)) : mid z P 0 = z := by unfold mid beg; simp
theorem mid_len {J : Nat → Bool} {n : Nat} {P : List (Nat × Nat)} {z : List Int} (h : Pt J n P n) (hn : z.length = n) {j : Nat} (hj : j ≤ P.length) : (mid z P j).length = n := by
  have := h.flat (z := z) (by omega) j hj
  unfold mid
  rw [List.length_append, List.length_drop]
  omega

set_option maxHeartbeats 2000000 in
theorem mirrored_any (b o n c : Nat) (xs : List Int) (w : World) (hS : Sh w w.heap.size .i64 (some ⟨b, o, none⟩) n xs) (h0 : 0 < n) (hm : n ≤ 1048576) (hO : ∀ x ∈ xs, -9223372036854775808 ≤ x ∧ x ≤ 9223372036854775807) :
    Calls Tryd.prog 38 #[.slice (some ⟨b, o, none⟩) n c] w fun e w' => ∃ g c', e = .returned (.slice (some ⟨g, 0, none⟩) n c') ∧ w.heap.size ≤ g ∧ n ≤ c' ∧ Sh w' w'.heap.size .i64 (some ⟨g, 0, none⟩) n (tur xs) ∧ Bl w w' := by
  have hl := hS.len
  have cl := hid (fun w1 (hb : Bl w w1) => clone_any b o n c xs w1 (hS.bl hb) h0 hm)
  have HO := hid hO
  clear hS hO
  go_enter Tryd.func38, Tryd.ntmps38
  go_wp2_with fail
  refine (cl.out _ ((Bl.refl w).alloc _)).mono ?_
  rintro e w1 ⟨g, c1, rfl, hg, hV1, hb1⟩
  have hr1 : w1.heap[w.heap.size]? = some (.cells #[.slice none 0 0] 22 (0, 0)) := (hb1.block w.heap.size (by simp)).trans (heap_alloc_new w _)
  have hc1 : w1.cell? ⟨w.heap.size, 0, none⟩ = some (.slice none 0 0) := by rw [cell_of_row _ _ _ _ _ _ hr1]; rfl
  have hf1 : w1.frozen? ⟨w.heap.size, 0, none⟩ = false := by simp [World.frozen?, hr1]
  obtain ⟨r, hr⟩ : ∃ r, r = w.heap.size := ⟨_, rfl⟩
  have HR := hid hr
  rw [← hr] at hr1 hc1 hf1 ⊢
  have hgr : r < g := by have := HR.out; simp at hg; omega
  clear hr hg
  have hVr : Vw (w1.setCell ⟨r, 0, none⟩ (.slice (some ⟨g, 0, none⟩) n c1)) (r + 1) 3 (some ⟨g, 0, none⟩) n c1 (iv .i64 xs) := by
    have := hV1.other (b := r) (fun he => by injection he with he; injection he with he; omega) 0 (.slice (some ⟨g, 0, none⟩) n c1)
    rw [World.size_alloc, ← HR.out] at this
    exact this
  have hr2 : (w1.setCell ⟨r, 0, none⟩ (.slice (some ⟨g, 0, none⟩) n c1)).heap[r]? = some (.cells #[.slice (some ⟨g, 0, none⟩) n c1] 22 (0, 0)) := by rw [heap_setCell_same w1 r 0 _ _ _ hr1]; rfl
  have hb2 : Bl w (w1.setCell ⟨r, 0, none⟩ (.slice (some ⟨g, 0, none⟩) n c1)) := Below.setCell (p := ⟨r, 0, none⟩) (((Bl.refl w).alloc _).trans hb1) (by rw [HR.out]; exact Nat.le_refl _) _
  have hcr2 : (w1.setCell ⟨r, 0, none⟩ (.slice (some ⟨g, 0, none⟩) n c1)).cell? ⟨r, 0, none⟩ = some (.slice (some ⟨g, 0, none⟩) n c1) := by rw [cell_of_row _ _ _ _ _ _ hr2]; rfl
  have cR := hid (rev_any g n c1 0 n c1 (r + 1) xs _ hVr (by omega) hm)
  have hrv : rvp 0 n xs = xs.reverse := by unfold rvp; simp [List.take_of_length_le (show xs.length ≤ n by omega), List.drop_of_length_le (show xs.length ≤ n by omega)]
  rw [hrv] at cR
  have hcap := hVr.cap
  have HB2 := hid hb2
  have HR2 := hid hr2
  clear hVr hV1 hb1 hr1 cl hrv hb2 hr2
  go_wp2_with fail
  refine cR.out.mono ?_
  rintro e w3 ⟨rfl, hV3, hu3⟩
  have hO3 : Ov w3 r g c1 (r + 1) n xs.reverse := ⟨(hu3.block r (Array.getElem?_eq_some_iff.1 HR2.out).1 (by omega)).trans HR2.out, hV3⟩
  have hB3 : Bl w w3 := Bu.bl HB2.out hu3 (by have := HR.out; omega)
  have hcr3 := hO3.cell
  have hrl : xs.reverse.length = n := by rw [List.length_reverse]; exact hl
  have cP := hid (partsD_any (jd xs.reverse) (some ⟨g, 0, none⟩) g 0 n c1 r w3 (fun _ => rfl) hcap hm (fun i w' h1 h2 hb => stepD_any r g c1 (r + 1) n i xs.reverse w' (hO3.bl hb) h1 h2 hm (fun x hx => HO.out x (List.mem_reverse.1 hx))))
  have HO3 := hid hO3
  have HB3 := hid hB3
  clear hO3 hV3 hu3 hcr2 cR hB3 HB2 HR2
  clear hf1 hc1
  go_wp2_with fail
  refine cP.out.mono ?_
  rintro e w4 ⟨P, A', m, c', rfl, hP, hmn, hPt, hV4, hb4⟩
  have HP := hid hP
  have HPt := hid hPt
  have hO4 := HO3.out.bl hb4
  have hB4 := HB3.out.trans hb4
  have hsz : w.heap.size ≤ w4.heap.size := hB4.size
  obtain ⟨B4, hB4'⟩ : ∃ B4, B4 = w3.heap.size := ⟨_, rfl⟩
  rw [← hB4'] at hV4
  have hgB : g < B4 := by
    rw [hB4']
    obtain ⟨g', hg', _, hlt⟩ := HO3.out.2.form h0
    injection hg' with hg'
    injection hg' with hg' _
    omega
  clear hP hPt cP HO3 HB3 hb4 hcr3
  go_wp2_with fail
  go_loopw [13, 4] (fun i _ wr => ∃ k : Nat, i = .int .i64 (k : Nat) ∧ k ≤ m ∧ Ov wr r g c1 (r + 1) n (mid xs.reverse P k) ∧ Vw wr B4 22 A' m c' (P.map (pv g 0 c1)) ∧ Bl w wr) (fun i _ _ => m - (intOf i).toNat)
  case atStart => exact ⟨0, rfl, by omega, by rw [mid_zero]; exact hO4, hV4, hB4⟩
  case round =>
    clear hO4 hV4 hB4 hsz
    obtain ⟨k, rfl, hk, hOv, hV, hb⟩ := hrel
    by_cases hlt : k < m
    · obtain ⟨ga, rfl, hga, _⟩ := hV.form (by omega)
      have hce := hV.cellAt hlt
      have hpl : k < P.length := by rw [← HP.out]; exact hlt
      have hpk : (P.map (pv g 0 c1))[k]? = some (pv g 0 c1 (P.getD k (0, 0))) := by simp [List.getD, List.getElem?_eq_getElem hpl]
      rw [hpk] at hce
      have hat := HPt.out.at hpl
      have hms := hid (mid_step HPt.out (z := xs.reverse) (by omega) hpl)
      have HV := hid hV
      clear hV hpk
      unfold pv at hce
      rw [Nat.zero_add] at hce
      generalize P.getD k (0, 0) = p at *
      obtain ⟨s, e⟩ := p
      simp only at hce hat hms
      obtain ⟨a1, a2⟩ := hat
      have cR := hid (rev_any g n c1 s (e - s) (c1 - s) (r + 1) _ wr hOv.2 (by omega) hm)
      have HOv := hid hOv
      clear hOv
      go_wp2_with fail
      refine cR.out.mono ?_
      rintro e5 w5 ⟨rfl, hV5, hu5⟩
      rw [hms.out] at hV5
      go_wp2_with fail
      go_roundw
      case rel => exact ⟨k + 1, by go_num, by omega, ⟨(hu5.block r (Array.getElem?_eq_some_iff.1 HOv.out.1).1 (by omega)).trans HOv.out.1, hV5⟩, HV.out.bu hu5 (fun he => by injection he with he; injection he with he; omega), Bu.bl hb hu5 (by have := HR.out; omega)⟩
      case measure => simp [intOf]; omega
    · obtain rfl : k = m := by omega
      have hcr := hOv.cell
      have hfr : wr.frozen? ⟨r, 0, none⟩ = false := by simp [World.frozen?, hOv.1]
      have hall := hid (mid_all HPt.out hrl)
      rw [HP.out, hall.out] at hOv
      have htur := tur_of (l := xs) (P := P) (by rw [hl]; exact HPt.out)
      rw [htur] at hOv
      have HOv := hid hOv
      clear hOv htur
      go_wp2_with fail
      have hw6 : (wr.setCell ⟨r, 0, none⟩ (.slice (some ⟨g, 0, none⟩) n c1)).heap[r]? = some (.cells #[.slice (some ⟨g, 0, none⟩) n c1] 22 (0, 0)) := by rw [heap_setCell_same wr r 0 _ _ _ HOv.out.1]; rfl
      have hc6 : (wr.setCell ⟨r, 0, none⟩ (.slice (some ⟨g, 0, none⟩) n c1)).cell? ⟨r, 0, none⟩ = some (.slice (some ⟨g, 0, none⟩) n c1) := by rw [cell_of_row _ _ _ _ _ _ hw6]; rfl
      have hV6 := HOv.out.2.other (b := r) (fun he => by injection he with he; injection he with he; omega) 0 (.slice (some ⟨g, 0, none⟩) n c1)
      have hb6 : Bl w (wr.setCell ⟨r, 0, none⟩ (.slice (some ⟨g, 0, none⟩) n c1)) := Below.setCell (p := ⟨r, 0, none⟩) hb (by rw [HR.out]; exact Nat.le_refl _) _
      (try simp only [Exit.inBlock, Exit.then])
      refine bodyPost_ret (v := .slice (some ⟨g, 0, none⟩) n c1) (by simp [results, Tryd.results38, go_sem, hc6]) rfl ?_
      exact ⟨g, c1, rfl, by have := HR.out; omega, hcap, Ow.sh hV6, hb6⟩
end Go.Proofs.YtajcalmjdfhedaaDoor.Glyph
