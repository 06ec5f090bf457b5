/- Contracts of the reference of glyph: Order. -/
import Derived.Test.YtajcalmjdfhedaaDoorYRef3
namespace Go.Proofs.YtajcalmjdfhedaaDoor.Glyph
open Go.RowKit
open Go.Proofs.YtajcalmjdfhedaaDoor.Wire
set_option linter.unusedVariables false

theorem while_cut {α} {p : α → Bool} : ∀ (m : Nat) {q : List α}, (∀ i (h : i < m) (g : i < q.length), p q[i] = true) → m ≤ q.length → (∀ g : m < q.length, p q[m] = false) → q.takeWhile p = q.take m ∧ q.dropWhile p = q.drop m
  | 0, [], _, _, _ => ⟨rfl, rfl⟩
  | 0, x :: q, _, _, h => by
    have := h (by simp)
    simp only [List.getElem_cons_zero] at this
    rw [List.takeWhile_cons_of_neg (by rw [this]; decide), List.dropWhile_cons_of_neg (by rw [this]; decide)]
    exact ⟨rfl, rfl⟩
  | m + 1, [], _, h, _ => by simp at h
  | m + 1, x :: q, ha, hm, hb => by
    have h0 := ha 0 (by omega) (by simp)
    simp only [List.getElem_cons_zero] at h0
    rw [List.takeWhile_cons_of_pos h0, List.dropWhile_cons_of_pos h0, List.take_succ_cons, List.drop_succ_cons]
    have := while_cut m (q := q) (fun i h g => by have := ha (i + 1) (by omega) (by simp; omega); simpa using this) (by simpa using hm) (fun g => by have := hb (by simp; omega); simpa using this)
    rw [this.1, this.2]
    exact ⟨rfl, rfl⟩
theorem prs_get {l : List Int} {i : Nat} (h : i < (prs l).length) : (prs l)[i] = (dr l i, l.getD i 0) := by unfold prs; simp
theorem go_step {xs L : List Int} {f t : Nat} {b d : Int} (hf : f < t) (ht : t ≤ xs.length) (ha : ∀ j, f ≤ j → j < t → dr xs j = d) (hn : t < xs.length → dr xs t ≠ d) :
    go b ((prs xs).drop f) L = go b ((prs xs).drop t) (put b L (ron d ((xs.take t).drop f))) := by
  have hl := prs_len xs
  have h0 : (prs xs).drop f = (d, xs.getD f 0) :: (prs xs).drop (f + 1) := by
    rw [List.drop_eq_getElem_cons (by omega), prs_get, ha f (by omega) hf]
  have hw := while_cut (p := fun q : Int × Int => q.1 == d) (t - (f + 1)) (q := (prs xs).drop (f + 1))
    (fun i h g => by rw [List.getElem_drop, prs_get]; simp only; rw [ha _ (by omega) (by omega)]; exact beq_self_eq_true _)
    (by rw [List.length_drop]; omega)
    (fun g => by
      rw [List.length_drop] at g
      rw [List.getElem_drop, prs_get]
      simp only
      rw [show f + 1 + (t - (f + 1)) = t by omega]
      exact beq_eq_false_iff_ne.2 (hn (by omega)))
  rw [h0, go_cons]
  simp only
  rw [hw.1, hw.2, List.drop_drop, show f + 1 + (t - (f + 1)) = t by omega]
  congr 3
  have e1 : xs.getD f 0 :: cds (((prs xs).drop (f + 1)).take (t - (f + 1))) = cds (((prs xs).take t).drop f) := by
    rw [List.drop_take, h0, show t - f = (t - (f + 1)) + 1 by omega, List.take_succ_cons]
    rfl
  rw [e1]
  unfold cds
  rw [List.map_drop, List.map_take]
  have := prs_cds xs
  unfold cds at this
  rw [this]

set_option maxHeartbeats 4000000 in
theorem ROrder_any (A : Option Addr) (n c : Nat) (xs : List Int) (w : World) (hS : Sh w w.heap.size .i64 A n xs) (hc : n ≤ c) (hm : n ≤ 1099511627776) :
    Calls Tryd.prog 25 #[.slice A n c] w (Out2 w .i64 (ord xs)) := by
  have hl := hid hS.len
  have hbd := bas_dir xs
  have hB := hid (fun w' B hS' => base_any A n c xs w' B hS' (by omega))
  have hO := hid (show ord xs = go (bas xs) (prs xs) [] from rfl)
  generalize bas xs = D0 at *
  rcases hbd with rfl | rfl
  · go_enter Tryd.func25, Tryd.ntmps25
    go_wp2_with fail
    go_loopw [3, 4] (fun b e wr => ∃ (A' : Option Addr) (c' f : Nat) (L : List Int), b = .slice A' f c' ∧ e = .int .i64 f ∧ f ≤ n ∧ Hid (ord xs = go (1) ((prs xs).drop f) L) ∧ Ow wr w.heap.size 3 .i64 A' f c' L ∧ Bl w wr) (fun _ e _ => n - (intOf e).toNat)
    case atStart => exact ⟨none, 0, 0, [], rfl, rfl, by omega, hO, Ow.none_ _ _ _ _, Bl.refl _⟩
    case round =>
      obtain ⟨A', c', f, L, rfl, rfl, hf, hL, ho, hb⟩ := hrel
      by_cases hpos : f < n
      · have hS2 := hS.bl hb
        obtain ⟨b, o, rfl, _, _⟩ := hS2.2 (by omega)
        have HS2 := hid hS2
        have d1 := direction_any _ n c xs f wr _ hS2 (by omega) hpos
        have hdd := dr_dir xs f
        have hD0 := hid (show ∀ j, f ≤ j → j < f + 1 → dr xs j = dr xs f from fun j h1 h2 => by rw [show j = f by omega])
        generalize dr xs f = d at *
        have D1 := hid d1
        clear d1 hS2
        rcases hdd with rfl | rfl
        · go_wp2_with fail
          refine D1.out.mono ?_
          rintro e w' ⟨rfl, rfl⟩
          go_wp2_with fail
          go_loop [6] (fun i => ∃ t : Nat, i = .int .i64 t ∧ f < t ∧ t ≤ n ∧ Hid (∀ j, f ≤ j → j < t → dr xs j = 1)) (fun i => n - (intOf i).toNat)
          case atStart => exact ⟨f + 1, by go_num, by omega, by omega, hD0⟩
          case round =>
            obtain ⟨t, rfl, ht, htn, hseg⟩ := hrel
            by_cases hlt : t < n
            · have d2 := direction_any _ n c xs t wr _ HS2.out (by omega) hlt
              by_cases he : dr xs t = 1
              · rw [he] at d2
                have D2 := hid d2
                have fin := hid (show ∀ j, f ≤ j → j < t + 1 → dr xs j = 1 from fun j h1 h2 => by
                  by_cases hj : j = t
                  · rw [hj]; exact he
                  · exact hseg.out j h1 (by omega))
                clear d2 he hseg hD0
                go_wp2_with fail
                refine D2.out.mono ?_
                rintro e w' ⟨rfl, rfl⟩
                go_wp2_with fail
                go_round
                case rel => exact ⟨t + 1, by go_num, by omega, by omega, fin⟩
                case measure => simp [intOf]; omega
              · have hstep := hid (go_step (xs := xs) (L := L) (f := f) (t := t) (b := (1)) (d := 1) ht (by rw [hl.out]; omega) hseg.out (fun _ => he))
                have tt : (dr xs t == 1) = false := beq_eq_false_iff_ne.2 he
                generalize dr xs t = e2 at *
                have D2 := hid d2
                clear d2 he
                have hD := (HS2.out.take (m := t) (by omega)).drop (m := f) (by omega) (A' := some ⟨b, o + f, none⟩) (fun _ b' o' e => by injection e with e; injection e with e1 e2; subst e1 e2; rfl)
                have hlen := hid (show ((xs.take t).drop f).length = t - f by rw [List.length_drop, List.length_take, hl.out]; omega)
                clear hseg hD0
                generalize (xs.take t).drop f = M at *
                have b1 : (t : Int) ≤ (c : Int) := by omega
                have b2 : (f : Int) ≤ (t : Int) := by omega
                have b3 : (0 : Int) ≤ (f : Int) := by omega
                have b4 : ¬ c = f := by omega
                go_wp2_with fail
                refine D2.out.mono ?_
                rintro e w' ⟨rfl, rfl⟩
                go_wp2_with (at_builtin; refine wpList_app_own _ rfl (.tmp 30) (.tmp 34) _ rfl elI (B := wr.heap.size) (xs := []) rfl (Ow.none_ wr _ _ _) rfl hD (by omega) (by omega) (Nat.le_refl _) ?_; intro A2 c2 w2 ho2 hb2)
                simp only [List.nil_append, Nat.zero_add] at ho2
                have hz2 := hb.size
                have ho3 := ho2.less (B' := w.heap.size) (by omega)
                have hoO := ho.below hb2
                have hW := hb.trans hb2
                have hRn := hid (show ron 1 M = M from rfl)
                refine (hB.out w2 _ (hS.bl hW)).mono ?_
                rintro e w' ⟨rfl, rfl⟩
                go_wp2_with (at_builtin; refine wpList_app_own _ rfl (.tmp 49) (.tmp 50) _ rfl elI rfl hoO rfl ho3.sh (by omega) (by omega) hW.size ?_; intro A4 c4 w4 ho4 hb4)
                have ez : f + (t - f) = t := by omega
                rw [ez] at ho4
                try rw [ez]
                go_wp2_with fail
                go_roundw
                case rel => exact ⟨A4, c4, t, _, rfl, rfl, by omega, hid (by rw [hL.out, hstep.out, hRn.out]; rfl), ho4, Below.trans hW hb4⟩
                case measure => simp [intOf]; omega
            · obtain rfl : t = n := by omega
              have hstep := hid (go_step (xs := xs) (L := L) (f := f) (t := t) (b := (1)) (d := (1)) ht (by rw [hl.out]; omega) hseg.out (fun h => absurd h (by rw [hl.out]; omega)))
              have hD := (HS2.out.take (m := t) (by omega)).drop (m := f) (by omega) (A' := some ⟨b, o + f, none⟩) (fun _ b' o' e => by injection e with e; injection e with e1 e2; subst e1 e2; rfl)
              have hlen := hid (show ((xs.take t).drop f).length = t - f by rw [List.length_drop, List.length_take, hl.out]; omega)
              clear hseg hD0
              generalize (xs.take t).drop f = M at *
              have b1 : (t : Int) ≤ (c : Int) := by omega
              have b2 : (f : Int) ≤ (t : Int) := by omega
              have b3 : (0 : Int) ≤ (f : Int) := by omega
              have b4 : ¬ c = f := by omega
              go_wp2_with (at_builtin; refine wpList_app_own _ rfl (.tmp 30) (.tmp 34) _ rfl elI (B := wr.heap.size) (xs := []) rfl (Ow.none_ wr _ _ _) rfl hD (by omega) (by omega) (Nat.le_refl _) ?_; intro A2 c2 w2 ho2 hb2)
              simp only [List.nil_append, Nat.zero_add] at ho2
              have hz2 := hb.size
              have ho3 := ho2.less (B' := w.heap.size) (by omega)
              have hoO := ho.below hb2
              have hW := hb.trans hb2
              have hRn := hid (show ron 1 M = M from rfl)
              refine (hB.out w2 _ (hS.bl hW)).mono ?_
              rintro e w' ⟨rfl, rfl⟩
              go_wp2_with (at_builtin; refine wpList_app_own _ rfl (.tmp 49) (.tmp 50) _ rfl elI rfl hoO rfl ho3.sh (by omega) (by omega) hW.size ?_; intro A4 c4 w4 ho4 hb4)
              have ez : f + (t - f) = t := by omega
              rw [ez] at ho4
              try rw [ez]
              go_wp2_with fail
              go_roundw
              case rel => exact ⟨A4, c4, t, _, rfl, rfl, by omega, hid (by rw [hL.out, hstep.out, hRn.out]; rfl), ho4, Below.trans hW hb4⟩
              case measure => simp [intOf]; omega
        · go_wp2_with fail
          refine D1.out.mono ?_
          rintro e w' ⟨rfl, rfl⟩
          go_wp2_with fail
          go_loop [6] (fun i => ∃ t : Nat, i = .int .i64 t ∧ f < t ∧ t ≤ n ∧ Hid (∀ j, f ≤ j → j < t → dr xs j = (-1))) (fun i => n - (intOf i).toNat)
          case atStart => exact ⟨f + 1, by go_num, by omega, by omega, hD0⟩
          case round =>
            obtain ⟨t, rfl, ht, htn, hseg⟩ := hrel
            by_cases hlt : t < n
            · have d2 := direction_any _ n c xs t wr _ HS2.out (by omega) hlt
              by_cases he : dr xs t = (-1)
              · rw [he] at d2
                have D2 := hid d2
                have fin := hid (show ∀ j, f ≤ j → j < t + 1 → dr xs j = (-1) from fun j h1 h2 => by
                  by_cases hj : j = t
                  · rw [hj]; exact he
                  · exact hseg.out j h1 (by omega))
                clear d2 he hseg hD0
                go_wp2_with fail
                refine D2.out.mono ?_
                rintro e w' ⟨rfl, rfl⟩
                go_wp2_with fail
                go_round
                case rel => exact ⟨t + 1, by go_num, by omega, by omega, fin⟩
                case measure => simp [intOf]; omega
              · have hstep := hid (go_step (xs := xs) (L := L) (f := f) (t := t) (b := (1)) (d := (-1)) ht (by rw [hl.out]; omega) hseg.out (fun _ => he))
                have tt : (dr xs t == (-1)) = false := beq_eq_false_iff_ne.2 he
                generalize dr xs t = e2 at *
                have D2 := hid d2
                clear d2 he
                have hD := (HS2.out.take (m := t) (by omega)).drop (m := f) (by omega) (A' := some ⟨b, o + f, none⟩) (fun _ b' o' e => by injection e with e; injection e with e1 e2; subst e1 e2; rfl)
                have hlen := hid (show ((xs.take t).drop f).length = t - f by rw [List.length_drop, List.length_take, hl.out]; omega)
                clear hseg hD0
                generalize (xs.take t).drop f = M at *
                have b1 : (t : Int) ≤ (c : Int) := by omega
                have b2 : (f : Int) ≤ (t : Int) := by omega
                have b3 : (0 : Int) ≤ (f : Int) := by omega
                have b4 : ¬ c = f := by omega
                go_wp2_with fail
                refine D2.out.mono ?_
                rintro e w' ⟨rfl, rfl⟩
                go_wp2_with (at_builtin; refine wpList_app_own _ rfl (.tmp 30) (.tmp 34) _ rfl elI (B := wr.heap.size) (xs := []) rfl (Ow.none_ wr _ _ _) rfl hD (by omega) (by omega) (Nat.le_refl _) ?_; intro A2 c2 w2 ho2 hb2)
                simp only [List.nil_append, Nat.zero_add] at ho2
                have hz2 := hb.size
                refine (turned_any _ _ _ _ _ (hD.bl hb2) (by omega) (by omega)).mono ?_
                rintro e w3 ⟨A3, c3, rfl, ho3, hb3⟩
                have htl := (tur_perm _ M (Nat.le_refl _)).length_eq
                rw [hlen.out] at htl
                rw [htl] at ho3
                go_wp2_with fail
                have ho3 := ho3.less (B' := w.heap.size) (by have := hb2.size; omega)
                have hoO := (ho.below hb2).below hb3
                have hW := hb.trans (Bl.trans hb2 hb3)
                have hRn := hid (show ron (-1) M = tur M from rfl)
                have htl2 := hid htl
                try rw [htl]
                clear htl
                generalize tur M = R at *
                refine (hB.out w3 _ (hS.bl hW)).mono ?_
                rintro e w' ⟨rfl, rfl⟩
                go_wp2_with (at_builtin; refine wpList_app_own _ rfl (.tmp 49) (.tmp 50) _ rfl elI rfl hoO rfl ho3.sh (by omega) (by omega) hW.size ?_; intro A4 c4 w4 ho4 hb4)
                have ez : f + (t - f) = t := by omega
                rw [ez] at ho4
                try rw [ez]
                go_wp2_with fail
                go_roundw
                case rel => exact ⟨A4, c4, t, _, rfl, rfl, by omega, hid (by rw [hL.out, hstep.out, hRn.out]; rfl), ho4, Below.trans hW hb4⟩
                case measure => simp [intOf]; omega
            · obtain rfl : t = n := by omega
              have hstep := hid (go_step (xs := xs) (L := L) (f := f) (t := t) (b := (1)) (d := (-1)) ht (by rw [hl.out]; omega) hseg.out (fun h => absurd h (by rw [hl.out]; omega)))
              have hD := (HS2.out.take (m := t) (by omega)).drop (m := f) (by omega) (A' := some ⟨b, o + f, none⟩) (fun _ b' o' e => by injection e with e; injection e with e1 e2; subst e1 e2; rfl)
              have hlen := hid (show ((xs.take t).drop f).length = t - f by rw [List.length_drop, List.length_take, hl.out]; omega)
              clear hseg hD0
              generalize (xs.take t).drop f = M at *
              have b1 : (t : Int) ≤ (c : Int) := by omega
              have b2 : (f : Int) ≤ (t : Int) := by omega
              have b3 : (0 : Int) ≤ (f : Int) := by omega
              have b4 : ¬ c = f := by omega
              go_wp2_with (at_builtin; refine wpList_app_own _ rfl (.tmp 30) (.tmp 34) _ rfl elI (B := wr.heap.size) (xs := []) rfl (Ow.none_ wr _ _ _) rfl hD (by omega) (by omega) (Nat.le_refl _) ?_; intro A2 c2 w2 ho2 hb2)
              simp only [List.nil_append, Nat.zero_add] at ho2
              have hz2 := hb.size
              refine (turned_any _ _ _ _ _ (hD.bl hb2) (by omega) (by omega)).mono ?_
              rintro e w3 ⟨A3, c3, rfl, ho3, hb3⟩
              have htl := (tur_perm _ M (Nat.le_refl _)).length_eq
              rw [hlen.out] at htl
              rw [htl] at ho3
              go_wp2_with fail
              have ho3 := ho3.less (B' := w.heap.size) (by have := hb2.size; omega)
              have hoO := (ho.below hb2).below hb3
              have hW := hb.trans (Bl.trans hb2 hb3)
              have hRn := hid (show ron (-1) M = tur M from rfl)
              have htl2 := hid htl
              try rw [htl]
              clear htl
              generalize tur M = R at *
              refine (hB.out w3 _ (hS.bl hW)).mono ?_
              rintro e w' ⟨rfl, rfl⟩
              go_wp2_with (at_builtin; refine wpList_app_own _ rfl (.tmp 49) (.tmp 50) _ rfl elI rfl hoO rfl ho3.sh (by omega) (by omega) hW.size ?_; intro A4 c4 w4 ho4 hb4)
              have ez : f + (t - f) = t := by omega
              rw [ez] at ho4
              try rw [ez]
              go_wp2_with fail
              go_roundw
              case rel => exact ⟨A4, c4, t, _, rfl, rfl, by omega, hid (by rw [hL.out, hstep.out, hRn.out]; rfl), ho4, Below.trans hW hb4⟩
              case measure => simp [intOf]; omega
      · obtain rfl : f = n := by omega
        have fin := hid (show ord xs = L by rw [hL.out, List.drop_eq_nil_of_le (by rw [prs_len, hl.out]; exact Nat.le_refl _), go_nil])
        go_wp2_with fail
        go_ret
        rw [fin.out]
        exact ho.out hb
  · go_enter Tryd.func25, Tryd.ntmps25
    go_wp2_with fail
    go_loopw [3, 4] (fun b e wr => ∃ (A' : Option Addr) (c' f : Nat) (L : List Int), b = .slice A' f c' ∧ e = .int .i64 f ∧ f ≤ n ∧ Hid (ord xs = go (-1) ((prs xs).drop f) L) ∧ Ow wr w.heap.size 3 .i64 A' f c' L ∧ Bl w wr) (fun _ e _ => n - (intOf e).toNat)
    case atStart => exact ⟨none, 0, 0, [], rfl, rfl, by omega, hO, Ow.none_ _ _ _ _, Bl.refl _⟩
    case round =>
      obtain ⟨A', c', f, L, rfl, rfl, hf, hL, ho, hb⟩ := hrel
      by_cases hpos : f < n
      · have hS2 := hS.bl hb
        obtain ⟨b, o, rfl, _, _⟩ := hS2.2 (by omega)
        have HS2 := hid hS2
        have d1 := direction_any _ n c xs f wr _ hS2 (by omega) hpos
        have hdd := dr_dir xs f
        have hD0 := hid (show ∀ j, f ≤ j → j < f + 1 → dr xs j = dr xs f from fun j h1 h2 => by rw [show j = f by omega])
        generalize dr xs f = d at *
        have D1 := hid d1
        clear d1 hS2
        rcases hdd with rfl | rfl
        · go_wp2_with fail
          refine D1.out.mono ?_
          rintro e w' ⟨rfl, rfl⟩
          go_wp2_with fail
          go_loop [6] (fun i => ∃ t : Nat, i = .int .i64 t ∧ f < t ∧ t ≤ n ∧ Hid (∀ j, f ≤ j → j < t → dr xs j = 1)) (fun i => n - (intOf i).toNat)
          case atStart => exact ⟨f + 1, by go_num, by omega, by omega, hD0⟩
          case round =>
            obtain ⟨t, rfl, ht, htn, hseg⟩ := hrel
            by_cases hlt : t < n
            · have d2 := direction_any _ n c xs t wr _ HS2.out (by omega) hlt
              by_cases he : dr xs t = 1
              · rw [he] at d2
                have D2 := hid d2
                have fin := hid (show ∀ j, f ≤ j → j < t + 1 → dr xs j = 1 from fun j h1 h2 => by
                  by_cases hj : j = t
                  · rw [hj]; exact he
                  · exact hseg.out j h1 (by omega))
                clear d2 he hseg hD0
                go_wp2_with fail
                refine D2.out.mono ?_
                rintro e w' ⟨rfl, rfl⟩
                go_wp2_with fail
                go_round
                case rel => exact ⟨t + 1, by go_num, by omega, by omega, fin⟩
                case measure => simp [intOf]; omega
              · have hstep := hid (go_step (xs := xs) (L := L) (f := f) (t := t) (b := (-1)) (d := 1) ht (by rw [hl.out]; omega) hseg.out (fun _ => he))
                have tt : (dr xs t == 1) = false := beq_eq_false_iff_ne.2 he
                generalize dr xs t = e2 at *
                have D2 := hid d2
                clear d2 he
                have hD := (HS2.out.take (m := t) (by omega)).drop (m := f) (by omega) (A' := some ⟨b, o + f, none⟩) (fun _ b' o' e => by injection e with e; injection e with e1 e2; subst e1 e2; rfl)
                have hlen := hid (show ((xs.take t).drop f).length = t - f by rw [List.length_drop, List.length_take, hl.out]; omega)
                clear hseg hD0
                generalize (xs.take t).drop f = M at *
                have b1 : (t : Int) ≤ (c : Int) := by omega
                have b2 : (f : Int) ≤ (t : Int) := by omega
                have b3 : (0 : Int) ≤ (f : Int) := by omega
                have b4 : ¬ c = f := by omega
                go_wp2_with fail
                refine D2.out.mono ?_
                rintro e w' ⟨rfl, rfl⟩
                go_wp2_with (at_builtin; refine wpList_app_own _ rfl (.tmp 30) (.tmp 34) _ rfl elI (B := wr.heap.size) (xs := []) rfl (Ow.none_ wr _ _ _) rfl hD (by omega) (by omega) (Nat.le_refl _) ?_; intro A2 c2 w2 ho2 hb2)
                simp only [List.nil_append, Nat.zero_add] at ho2
                have hz2 := hb.size
                have ho3 := ho2.less (B' := w.heap.size) (by omega)
                have hoO := ho.below hb2
                have hW := hb.trans hb2
                have hRn := hid (show ron 1 M = M from rfl)
                refine (hB.out w2 _ (hS.bl hW)).mono ?_
                rintro e w' ⟨rfl, rfl⟩
                go_wp2_with (at_builtin; refine wpList_app_own _ rfl (.tmp 46) (.tmp 47) _ rfl elI rfl ho3 rfl hoO.sh (by omega) (by omega) hW.size ?_; intro A4 c4 w4 ho4 hb4)
                have ez : t - f + f = t := by omega
                rw [ez] at ho4
                try rw [ez]
                go_wp2_with fail
                go_roundw
                case rel => exact ⟨A4, c4, t, _, rfl, rfl, by omega, hid (by rw [hL.out, hstep.out, hRn.out]; rfl), ho4, Below.trans hW hb4⟩
                case measure => simp [intOf]; omega
            · obtain rfl : t = n := by omega
              have hstep := hid (go_step (xs := xs) (L := L) (f := f) (t := t) (b := (-1)) (d := (1)) ht (by rw [hl.out]; omega) hseg.out (fun h => absurd h (by rw [hl.out]; omega)))
              have hD := (HS2.out.take (m := t) (by omega)).drop (m := f) (by omega) (A' := some ⟨b, o + f, none⟩) (fun _ b' o' e => by injection e with e; injection e with e1 e2; subst e1 e2; rfl)
              have hlen := hid (show ((xs.take t).drop f).length = t - f by rw [List.length_drop, List.length_take, hl.out]; omega)
              clear hseg hD0
              generalize (xs.take t).drop f = M at *
              have b1 : (t : Int) ≤ (c : Int) := by omega
              have b2 : (f : Int) ≤ (t : Int) := by omega
              have b3 : (0 : Int) ≤ (f : Int) := by omega
              have b4 : ¬ c = f := by omega
              go_wp2_with (at_builtin; refine wpList_app_own _ rfl (.tmp 30) (.tmp 34) _ rfl elI (B := wr.heap.size) (xs := []) rfl (Ow.none_ wr _ _ _) rfl hD (by omega) (by omega) (Nat.le_refl _) ?_; intro A2 c2 w2 ho2 hb2)
              simp only [List.nil_append, Nat.zero_add] at ho2
              have hz2 := hb.size
              have ho3 := ho2.less (B' := w.heap.size) (by omega)
              have hoO := ho.below hb2
              have hW := hb.trans hb2
              have hRn := hid (show ron 1 M = M from rfl)
              refine (hB.out w2 _ (hS.bl hW)).mono ?_
              rintro e w' ⟨rfl, rfl⟩
              go_wp2_with (at_builtin; refine wpList_app_own _ rfl (.tmp 46) (.tmp 47) _ rfl elI rfl ho3 rfl hoO.sh (by omega) (by omega) hW.size ?_; intro A4 c4 w4 ho4 hb4)
              have ez : t - f + f = t := by omega
              rw [ez] at ho4
              try rw [ez]
              go_wp2_with fail
              go_roundw
              case rel => exact ⟨A4, c4, t, _, rfl, rfl, by omega, hid (by rw [hL.out, hstep.out, hRn.out]; rfl), ho4, Below.trans hW hb4⟩
              case measure => simp [intOf]; omega
        · go_wp2_with fail
          refine D1.out.mono ?_
          rintro e w' ⟨rfl, rfl⟩
          go_wp2_with fail
          go_loop [6] (fun i => ∃ t : Nat, i = .int .i64 t ∧ f < t ∧ t ≤ n ∧ Hid (∀ j, f ≤ j → j < t → dr xs j = (-1))) (fun i => n - (intOf i).toNat)
          case atStart => exact ⟨f + 1, by go_num, by omega, by omega, hD0⟩
          case round =>
            obtain ⟨t, rfl, ht, htn, hseg⟩ := hrel
            by_cases hlt : t < n
            · have d2 := direction_any _ n c xs t wr _ HS2.out (by omega) hlt
              by_cases he : dr xs t = (-1)
              · rw [he] at d2
                have D2 := hid d2
                have fin := hid (show ∀ j, f ≤ j → j < t + 1 → dr xs j = (-1) from fun j h1 h2 => by
                  by_cases hj : j = t
                  · rw [hj]; exact he
                  · exact hseg.out j h1 (by omega))
                clear d2 he hseg hD0
                go_wp2_with fail
                refine D2.out.mono ?_
                rintro e w' ⟨rfl, rfl⟩
                go_wp2_with fail
                go_round
                case rel => exact ⟨t + 1, by go_num, by omega, by omega, fin⟩
                case measure => simp [intOf]; omega
              · have hstep := hid (go_step (xs := xs) (L := L) (f := f) (t := t) (b := (-1)) (d := (-1)) ht (by rw [hl.out]; omega) hseg.out (fun _ => he))
                have tt : (dr xs t == (-1)) = false := beq_eq_false_iff_ne.2 he
                generalize dr xs t = e2 at *
                have D2 := hid d2
                clear d2 he
                have hD := (HS2.out.take (m := t) (by omega)).drop (m := f) (by omega) (A' := some ⟨b, o + f, none⟩) (fun _ b' o' e => by injection e with e; injection e with e1 e2; subst e1 e2; rfl)
                have hlen := hid (show ((xs.take t).drop f).length = t - f by rw [List.length_drop, List.length_take, hl.out]; omega)
                clear hseg hD0
                generalize (xs.take t).drop f = M at *
                have b1 : (t : Int) ≤ (c : Int) := by omega
                have b2 : (f : Int) ≤ (t : Int) := by omega
                have b3 : (0 : Int) ≤ (f : Int) := by omega
                have b4 : ¬ c = f := by omega
                go_wp2_with fail
                refine D2.out.mono ?_
                rintro e w' ⟨rfl, rfl⟩
                go_wp2_with (at_builtin; refine wpList_app_own _ rfl (.tmp 30) (.tmp 34) _ rfl elI (B := wr.heap.size) (xs := []) rfl (Ow.none_ wr _ _ _) rfl hD (by omega) (by omega) (Nat.le_refl _) ?_; intro A2 c2 w2 ho2 hb2)
                simp only [List.nil_append, Nat.zero_add] at ho2
                have hz2 := hb.size
                refine (turned_any _ _ _ _ _ (hD.bl hb2) (by omega) (by omega)).mono ?_
                rintro e w3 ⟨A3, c3, rfl, ho3, hb3⟩
                have htl := (tur_perm _ M (Nat.le_refl _)).length_eq
                rw [hlen.out] at htl
                rw [htl] at ho3
                go_wp2_with fail
                have ho3 := ho3.less (B' := w.heap.size) (by have := hb2.size; omega)
                have hoO := (ho.below hb2).below hb3
                have hW := hb.trans (Bl.trans hb2 hb3)
                have hRn := hid (show ron (-1) M = tur M from rfl)
                have htl2 := hid htl
                try rw [htl]
                clear htl
                generalize tur M = R at *
                refine (hB.out w3 _ (hS.bl hW)).mono ?_
                rintro e w' ⟨rfl, rfl⟩
                go_wp2_with (at_builtin; refine wpList_app_own _ rfl (.tmp 46) (.tmp 47) _ rfl elI rfl ho3 rfl hoO.sh (by omega) (by omega) hW.size ?_; intro A4 c4 w4 ho4 hb4)
                have ez : t - f + f = t := by omega
                rw [ez] at ho4
                try rw [ez]
                go_wp2_with fail
                go_roundw
                case rel => exact ⟨A4, c4, t, _, rfl, rfl, by omega, hid (by rw [hL.out, hstep.out, hRn.out]; rfl), ho4, Below.trans hW hb4⟩
                case measure => simp [intOf]; omega
            · obtain rfl : t = n := by omega
              have hstep := hid (go_step (xs := xs) (L := L) (f := f) (t := t) (b := (-1)) (d := (-1)) ht (by rw [hl.out]; omega) hseg.out (fun h => absurd h (by rw [hl.out]; omega)))
              have hD := (HS2.out.take (m := t) (by omega)).drop (m := f) (by omega) (A' := some ⟨b, o + f, none⟩) (fun _ b' o' e => by injection e with e; injection e with e1 e2; subst e1 e2; rfl)
              have hlen := hid (show ((xs.take t).drop f).length = t - f by rw [List.length_drop, List.length_take, hl.out]; omega)
              clear hseg hD0
              generalize (xs.take t).drop f = M at *
              have b1 : (t : Int) ≤ (c : Int) := by omega
              have b2 : (f : Int) ≤ (t : Int) := by omega
              have b3 : (0 : Int) ≤ (f : Int) := by omega
              have b4 : ¬ c = f := by omega
              go_wp2_with (at_builtin; refine wpList_app_own _ rfl (.tmp 30) (.tmp 34) _ rfl elI (B := wr.heap.size) (xs := []) rfl (Ow.none_ wr _ _ _) rfl hD (by omega) (by omega) (Nat.le_refl _) ?_; intro A2 c2 w2 ho2 hb2)
              simp only [List.nil_append, Nat.zero_add] at ho2
              have hz2 := hb.size
              refine (turned_any _ _ _ _ _ (hD.bl hb2) (by omega) (by omega)).mono ?_
              rintro e w3 ⟨A3, c3, rfl, ho3, hb3⟩
              have htl := (tur_perm _ M (Nat.le_refl _)).length_eq
              rw [hlen.out] at htl
              rw [htl] at ho3
              go_wp2_with fail
              have ho3 := ho3.less (B' := w.heap.size) (by have := hb2.size; omega)
              have hoO := (ho.below hb2).below hb3
              have hW := hb.trans (Bl.trans hb2 hb3)
              have hRn := hid (show ron (-1) M = tur M from rfl)
              have htl2 := hid htl
              try rw [htl]
              clear htl
              generalize tur M = R at *
              refine (hB.out w3 _ (hS.bl hW)).mono ?_
              rintro e w' ⟨rfl, rfl⟩
              go_wp2_with (at_builtin; refine wpList_app_own _ rfl (.tmp 46) (.tmp 47) _ rfl elI rfl ho3 rfl hoO.sh (by omega) (by omega) hW.size ?_; intro A4 c4 w4 ho4 hb4)
              have ez : t - f + f = t := by omega
              rw [ez] at ho4
              try rw [ez]
              go_wp2_with fail
              go_roundw
              case rel => exact ⟨A4, c4, t, _, rfl, rfl, by omega, hid (by rw [hL.out, hstep.out, hRn.out]; rfl), ho4, Below.trans hW hb4⟩
              case measure => simp [intOf]; omega
      · obtain rfl : f = n := by omega
        have fin := hid (show ord xs = L by rw [hL.out, List.drop_eq_nil_of_le (by rw [prs_len, hl.out]; exact Nat.le_refl _), go_nil])
        go_wp2_with fail
        go_ret
        rw [fin.out]
        exact ho.out hb
end Go.Proofs.YtajcalmjdfhedaaDoor.Glyph
