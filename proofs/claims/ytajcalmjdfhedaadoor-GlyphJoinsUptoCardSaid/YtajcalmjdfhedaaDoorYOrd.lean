/- Contract of glyph: Order. -/
import Derived.Test.YtajcalmjdfhedaaDoorYDir2
import Derived.Test.YtajcalmjdfhedaaDoorYCat
namespace Go.Proofs.YtajcalmjdfhedaaDoor.Glyph
open Go.RowKit
open Go.Proofs.YtajcalmjdfhedaaDoor.Wire
set_option linter.unusedVariables false

theorem jo_lf (l : List Int) (i : Nat) : jo l i = (lf l i == lf l (i - 1)) := by
  have h1 := dr_dir l i
  have h2 := dr_dir l (i - 1)
  unfold jo lf
  unfold Dirn at h1 h2
  rcases h1 with a | a <;> rcases h2 with c | c <;> rw [a, c] <;> rfl
theorem rowL_at (xs : List Int) {n i : Nat} (h : i < n) : ((List.range n).map fun i => Value.bool (lf xs i))[i]? = some (.bool (lf xs i)) := by simp [h]
/-- the variable of the directions, and its row -/
def Lv (w : World) (r gl B n : Nat) (xs : List Int) : Prop :=
  Bx w r 56 (.slice (some ⟨gl, 0, none⟩) n n) ∧ Vw w B 4 (some ⟨gl, 0, none⟩) n n ((List.range n).map fun i => .bool (lf xs i))
theorem Lv.bl {w w' : World} {r gl B n : Nat} {xs : List Int} (h : Lv w r gl B n xs) (hb : Bl w w') : Lv w' r gl B n xs := ⟨h.1.bl hb, h.2.bl hb⟩
theorem Lv.put {w : World} {r gl B n g : Nat} {xs : List Int} (h : Lv w r gl B n xs) (h1 : r ≠ g) (h2 : gl ≠ g) (j : Nat) (v : Value) : Lv (w.setCell ⟨g, j, none⟩ v) r gl B n xs := ⟨h.1.other h1 _ _, h.2.other (some_ne h2) _ _⟩

set_option maxHeartbeats 1000000 in
theorem stepO_any (r gl B n i : Nat) (xs : List Int) (w : World) (h : Lv w r gl B n xs) (h1 : 1 ≤ i) (hi : i < n) (hm : n ≤ 1048576) :
    Calls Tryd.prog 37 #[.int .i64 (i : Nat), .pointer (some ⟨r, 0, none⟩)] w fun e w' => e = .returned (.bool (jo xs i)) ∧ Bl w w' := by
  have hc := h.1.cell
  have c1 := (h.2.cellAt hi).trans (rowL_at xs hi)
  have c2 := (h.2.cellAt (j := i - 1) (by omega)).trans (rowL_at xs (by omega))
  have hj := hid (jo_lf xs i)
  have k2 : ((i : Int) - 1) = ((i - 1 : Nat) : Int) := by omega
  have k3 : i - 1 < n := by omega
  generalize lf xs i = x at *
  generalize lf xs (i - 1) = y at *
  generalize jo xs i = J at *
  clear h
  have q1 : (0 : Int) ≤ (i : Int) - 1 := by omega
  have q2 : ((i : Int) - 1) < (n : Int) := by omega
  go_enter Tryd.func37, Tryd.ntmps37
  go_wp2_with fail
  go_quiet (fail)
  go_wp2_with fail
  go_ret
  exact ⟨retB hj.out.symm, (Bl.refl w).drewN nq⟩

/-- a part as a slice -/
def tr (b o c : Nat) (p : Nat × Nat) : Tr := (some ⟨b, o + p.1, none⟩, p.2 - p.1, c - p.1)
theorem pv_sv (b o c : Nat) (p : Nat × Nat) : pv b o c p = sv (tr b o c p) := rfl
/-- what one of the runs is while the loop goes: a slice, not in block g -/
def Sx (w : World) (g : Nat) (q : Tr) (xs : List Int) : Prop := Sh w w.heap.size .i64 q.1 q.2.1 xs ∧ ∀ b o, q.1 = some ⟨b, o, none⟩ → b ≠ g
theorem Sx.bl {w w' : World} {g : Nat} {q : Tr} {xs : List Int} (h : Sx w g q xs) (hb : Bl w w') : Sx w' g q xs := ⟨h.1.bl hb, h.2⟩
theorem Sx.put {w : World} {g j : Nat} {v : Value} {q : Tr} {xs : List Int} (h : Sx w g q xs) : Sx (w.setCell ⟨g, j, none⟩ v) g q xs := by
  refine ⟨⟨h.1.1, fun hn => ?_⟩, h.2⟩
  obtain ⟨b, o, he, hb, hc⟩ := h.1.2 hn
  have hbg := h.2 b o he
  refine ⟨b, o, he, by simpa [World.setCell] using hb, fun i hi => ?_⟩
  rw [World.cell?_of_block (w := w) (heap_setCell_other w ⟨g, j, none⟩ b v hbg)]
  exact hc i hi
theorem Sx.bu {w w' : World} {g : Nat} {q : Tr} {xs : List Int} (h : Sx w g q xs) (hu : Bu g w w') : Sx w' g q xs := by
  refine ⟨⟨h.1.1, fun hn => ?_⟩, h.2⟩
  obtain ⟨b, o, he, hb, hc⟩ := h.1.2 hn
  refine ⟨b, o, he, Nat.lt_of_lt_of_le hb hu.size, fun i hi => ?_⟩
  rw [World.cell?_of_block (w := w) (hu.block b hb (h.2 b o he))]
  exact hc i hi
theorem Sh.sub {w : World} {B b o n s e : Nat} {xs : List Int} (h : Sh w B .i64 (some ⟨b, o, none⟩) n xs) (h1 : s ≤ e) (h2 : e ≤ n) : Sh w B .i64 (some ⟨b, o + s, none⟩) (e - s) (sg xs (s, e)) := by
  have hl := h.len
  refine ⟨by unfold sg; simp; omega, fun hn => ?_⟩
  obtain ⟨b', o', he, hb, hc⟩ := h.2 (by omega)
  injection he with he
  injection he with e1 e2
  subst e1 e2
  refine ⟨b, o + s, rfl, hb, fun i hi => ?_⟩
  have := hc (s + i) (by omega)
  rw [show o + s + i = o + (s + i) by omega, this]
  have : (sg xs (s, e)).getD i 0 = xs.getD (s + i) 0 := by
    unfold sg
    simp [List.getD, List.getElem?_take_of_lt hi, List.getElem?_drop]
  rw [this]
theorem sg_len {l : List Int} {p : Nat × Nat} (h1 : p.1 ≤ p.2) (h2 : p.2 ≤ l.length) : (sg l p).length = p.2 - p.1 := by unfold sg; simp; omega
theorem rn_len {l : List Int} {p : Nat × Nat} (h1 : p.1 ≤ p.2) (h2 : p.2 ≤ l.length) : (rn l p).length = p.2 - p.1 := by
  unfold rn
  rw [(ron_perm _ _).length_eq, sg_len h1 h2]
theorem cat_flat (X : Nat → List Int) : ∀ m, cat X m = ((List.range m).map X).flatten
  | 0 => rfl
  | m + 1 => by rw [cat, cat_flat X m, List.range_succ, List.map_append, List.flatten_append]; simp
theorem tot_cat {N : Nat → Nat} {X : Nat → List Int} : ∀ {m}, (∀ i, i < m → (X i).length = N i) → (cat X m).length = tot N m
  | 0, _ => rfl
  | m + 1, h => by rw [cat, tot, List.length_append, tot_cat (fun i hi => h i (by omega)), h m (by omega)]
theorem range_get {α : Type} (L : List α) (d : α) : (List.range L.length).map (fun i => L.getD i d) = L := by
  apply List.ext_getElem
  · simp
  · intro i h1 h2; simp [List.getD, List.getElem?_eq_getElem h2]
theorem Vw.ls {w : World} {B g m c : Nat} {L : List Tr} {X : List (List Int)} (h : Vw w B 22 (some ⟨g, 0, none⟩) m c (L.map sv)) (hL : L.length = m)
    (hS : ∀ i, i < m → Sh w w.heap.size .i64 (L.getD i default).1 (L.getD i default).2.1 (X.getD i [])) : Ls w g m (fun i => (L.getD i default).1) (fun i => (L.getD i default).2.1) (fun i => (L.getD i default).2.2) (fun i => X.getD i []) := by
  refine ⟨own_lt h, fun i hi => ?_, hS⟩
  rw [h.cellAt hi, List.getElem?_map]
  simp [List.getD, List.getElem?_eq_getElem (show i < L.length by omega), sv]
theorem getD_rev {α : Type} {L : List α} {d : α} {i : Nat} (hi : i < L.length) : L.reverse.getD i d = L.getD (L.length - 1 - i) d := by
  simp only [List.getD]
  rw [List.getElem?_reverse hi]

theorem concat_row {w : World} {B m c : Nat} {A' : Option Addr} {L : List Tr} {X : List (List Int)} (h : Vw w B 22 A' m c (L.map sv)) (hL : L.length = m) (hX : X.length = m)
    (hS : ∀ i, i < m → Sh w w.heap.size .i64 (L.getD i default).1 (L.getD i default).2.1 (X.getD i [])) (hm : m ≤ 1000) (hT : X.flatten.length ≤ 1099511627776) :
    Calls Tryd.prog 40 #[.slice A' m c] w (Out2 w .i64 X.flatten) := by
  have key : ∀ g, A' = some ⟨g, 0, none⟩ → Calls Tryd.prog 40 #[.slice A' m c] w (Out2 w .i64 X.flatten) := by
    rintro g rfl
    have hls := h.ls hL hS
    have hlen : ∀ i, i < m → (X.getD i []).length = (L.getD i default).2.1 := fun i hi => (hS i hi).len
    have htc := tot_cat (N := fun i => (L.getD i default).2.1) (X := fun i => X.getD i []) hlen
    have hcf : cat (fun i => X.getD i []) m = X.flatten := by rw [cat_flat, ← hX, range_get X []]
    rw [hcf] at htc
    refine (Concat_any g m c _ _ _ _ w hls hm (by omega)).mono ?_
    rintro e w' ⟨A2, c2, rfl, ho, hb⟩
    rw [hcf] at ho
    exact ho.out hb
  rcases h.2 with ⟨hv, h0⟩ | ⟨g, cap, cur, hv, _⟩
  · injection hv with e1 _ e3
    subst e1 e3 h0
    have : X = [] := List.length_eq_zero_iff.1 hX
    subst this
    refine (Concat_nil w).mono ?_
    rintro e w' ⟨A2, c2, rfl, ho, hb⟩
    exact ho.out hb
  · injection hv with e1 _ _
    exact key g e1
theorem getD_set_same {α : Type} {L : List α} {j : Nat} {x d : α} (h : j < L.length) : (L.set j x).getD j d = x := by simp [List.getD, h]
theorem getD_set_other {α : Type} {L : List α} {i j : Nat} {x d : α} (h : i ≠ j) : (L.set j x).getD i d = L.getD i d := by simp [List.getD, List.getElem?_set_ne (Ne.symm h)]
theorem getD_map {α β : Type} {L : List α} {f : α → β} {i : Nat} {d : α} {e : β} (h : i < L.length) : (L.map f).getD i e = f (L.getD i d) := by simp [List.getD, h]

set_option maxHeartbeats 2000000 in
theorem Order_any (A : Option Addr) (n c : Nat) (xs : List Int) (w : World) (hS : Sh w w.heap.size .i64 A n xs) (hO : ok64 xs) (hc : n ≤ c) (hm : n ≤ 1000) (hT : Tab w) :
    Calls Tryd.prog 24 #[.slice A n c] w (Out2 w .i64 (ord xs)) := by
  have cD := hid (directions_any A n c xs w hS (by omega) hO hT)
  have HS := hid hS
  have HO := hid hO
  have hl := hid hS.len
  clear hS hT hO
  go_enter Tryd.func24, Tryd.ntmps24
  go_wp2_with fail
  refine cD.out.mono ?_
  rintro e w1 ⟨gl, rfl, hgl, hV1, hb1⟩
  rw [hl.out] at hV1 ⊢
  have hgl1 : gl < w1.heap.size := own_lt hV1
  obtain ⟨w2, hw2⟩ : ∃ w2, w2 = w1.alloc (.cells #[.slice (some ⟨gl, 0, none⟩) n n] 56) := ⟨_, rfl⟩
  have hb12 : Bl w1 w2 := by rw [hw2]; exact (Bl.refl w1).alloc _
  have hL2 : Lv w2 w1.heap.size gl w.heap.size n xs := ⟨by rw [hw2]; exact Bx.new w1 _ _, hV1.bl hb12⟩
  obtain ⟨r, hr⟩ : ∃ r, r = w1.heap.size := ⟨_, rfl⟩
  have hrl : r < w2.heap.size := by rw [hw2, hr]; simp
  rw [← hr] at hL2 hgl1
  have hb2 : Bl w w2 := hb1.trans hb12
  obtain ⟨b, o, hA⟩ : ∃ b o, 0 < n → A = some ⟨b, o, none⟩ := by
    by_cases h0 : 0 < n
    · obtain ⟨b, o, he, _⟩ := HS.out.2 h0
      exact ⟨b, o, fun _ => he⟩
    · exact ⟨0, 0, fun h => absurd h h0⟩
  have cP := hid (partsO_any (jo xs) A b o n c r w2 hA hc (by omega) (fun i w' h1 h2 hb => stepO_any r gl w.heap.size n i xs w' (hL2.bl hb) h1 h2 (by omega)))
  have hrw := hid hr
  have hww := hid hw2
  rw [hw2] at cP
  clear hr hw2 hV1 hb12 hb1
  go_wp2_with fail
  rw [← hrw.out]
  refine cP.out.mono ?_
  rw [← hww.out]
  rintro e w3 ⟨P, A', m, c', rfl, hP, hmn, hPt, hV3, hb23⟩
  have HP := hid hP
  have HPt := hid hPt
  have HA := hid hA
  have hL3 := hL2.bl hb23
  have hb3 := hb2.trans hb23
  have hB : w.heap.size ≤ w2.heap.size := hb2.size
  obtain ⟨B2, hB2⟩ : ∃ B2, B2 = w2.heap.size := ⟨_, rfl⟩
  rw [← hB2] at hV3 hrl hB
  clear hP hPt hA hL2 hb23 hb2 cP hww hrw hB2
  obtain ⟨base, hbase⟩ : ∃ b, b = lbs xs := ⟨_, rfl⟩
  rw [← hbase]
  have HBS := hid hbase
  clear hbase
  obtain ⟨ga, hga⟩ : ∃ ga, 0 < m → A' = some ⟨ga, 0, none⟩ ∧ B2 ≤ ga := by
    by_cases h0 : 0 < m
    · obtain ⟨g, hg1, hg2, _⟩ := hV3.form h0
      exact ⟨g, fun _ => ⟨hg1, hg2⟩⟩
    · exact ⟨0, fun h => absurd h h0⟩
  have hmap : P.map (pv b o c) = (P.map (tr b o c)).map sv := by rw [List.map_map]; rfl
  rw [hmap] at hV3
  have hLm : (P.map (tr b o c)).length = m := by rw [List.length_map, ← HP.out]
  have hLat := hid (show ∀ i, i < m → (P.map (tr b o c)).getD i default = tr b o c (P.getD i (0, 0)) by
    intro i hi
    simp [List.getD, List.getElem?_eq_getElem (show i < P.length by rw [← HP.out]; exact hi)])
  have hSx := hid (show ∀ i, i < m → Sx w3 ga ((P.map (tr b o c)).getD i default) (sg xs (P.getD i (0, 0))) by
    intro i hi
    rw [hLat.out i hi]
    have hat := HPt.out.at (show i < P.length by rw [← HP.out]; exact hi)
    have hb0 := HA.out (by omega)
    have hs := (HS.out.bl hb3)
    rw [hb0] at hs
    refine ⟨Sh.sub hs (Nat.le_of_lt hat.1) hat.2, fun b' o' he => ?_⟩
    unfold tr at he
    injection he with he
    injection he with he _
    obtain ⟨b0, o0, hb0', hlt, _⟩ := HS.out.2 (by omega)
    rw [hb0] at hb0'
    injection hb0' with hb0'
    injection hb0' with hb0' _
    have := (hga (by omega)).2
    omega)
  have hga := hid hga
  clear hmap
  go_wp2_with fail
  go_loopw [19, 6, 7, 8] (fun ix st _ _ wr => ∃ (j : Nat) (L : List Tr), ix = .int .i64 (j : Nat) ∧ st = .int .i64 (beg P j : Nat) ∧ j ≤ m ∧ L.length = m ∧ Hid (∀ i, j ≤ i → i < m → L.getD i default = tr b o c (P.getD i (0, 0))) ∧
    Hid (∀ i, i < m → Sx wr ga (L.getD i default) (if i < j then rn xs (P.getD i (0, 0)) else sg xs (P.getD i (0, 0)))) ∧ Vw wr B2 22 A' m c' (L.map sv) ∧ Lv wr r gl w.heap.size n xs ∧ Bl w wr) (fun ix _ _ _ _ => m - (intOf ix).toNat)
  case atStart => exact ⟨0, P.map (tr b o c), rfl, rfl, by omega, hLm, hid (fun i _ hi => hLat.out i hi), hid (fun i hi => by rw [if_neg (by omega)]; exact hSx.out i hi), hV3, hL3, hb3⟩
  case round =>
    clear hV3 hL3 hb3 hLm hLat hSx
    obtain ⟨j, L, rfl, rfl, hj, hLm, hLt, hSx, hV, hLv, hb⟩ := hrel
    by_cases hlt : j < m
    · obtain ⟨hA1, hga2⟩ := hga.out (by omega)
      subst hA1
      have hpl : j < P.length := by rw [← HP.out]; exact hlt
      have hce := (hV.cellAt hlt)
      have hLj := hLt.out j (Nat.le_refl _) hlt
      have hcl : (L.map sv)[j]? = some (sv (L.getD j default)) := by
        rw [List.getElem?_map]
        simp [List.getD, List.getElem?_eq_getElem (show j < L.length by omega)]
      rw [hcl, hLj] at hce
      have hat := HPt.out.at hpl
      have hbg := HPt.out.beg hpl
      have hbs := beg_succ P j
      have hsx := hSx.out j hlt
      rw [if_neg (by omega), hLj] at hsx
      have hfree := hV.free j
      have hrn := hid (show rn xs (P.getD j (0, 0)) = ron (dr xs (P.getD j (0, 0)).1) (sg xs (P.getD j (0, 0))) from rfl)
      have hlf := hid (show lf xs (P.getD j (0, 0)).1 = decide (dr xs (P.getD j (0, 0)).1 < 0) from rfl)
      have hcl2 := hLv.1.cell
      have hcl3 := (hLv.2.cellAt (j := (P.getD j (0, 0)).1) (by omega)).trans (rowL_at xs (by omega))
      obtain ⟨p, hp⟩ : ∃ p, p = P.getD j (0, 0) := ⟨_, rfl⟩
      have HPJ := hid hp
      rw [← hp] at hce hat hbg hbs hsx hrn hlf hcl3
      clear hp hcl hLj
      rw [← hbg]
      have HBG := hid hbg
      have HBS' := hid hbs
      clear hbg hbs
      obtain ⟨a1, a2⟩ := hat
      have hsl := hid (hsx.1.len)
      unfold sv tr at hce
      unfold tr at hsx hsl
      simp only at hce hsx hsl
      have HSX := hid hsx
      have HLV := hid hLv
      have HV := hid hV
      clear hsx hLv hV
      cases hx : lf xs p.1
      · rw [hx] at hcl3
        have hnr := hid (show rn xs p = sg xs p by
          rw [hrn.out]
          unfold ron
          rw [if_neg (by have := hlf.out; rw [hx] at this; exact of_decide_eq_false this.symm)])
        clear hx
        go_wp2_with fail
        go_roundw
        case rel => exact ⟨j + 1, L, by go_num, by rw [HBS'.out]; go_num, by omega, hLm, hid (fun i h1 h2 => hLt.out i (by omega) h2), hid (fun i hi => by
            rcases Nat.lt_trichotomy i j with h | h | h
            · rw [if_pos (by omega)]; have := hSx.out i hi; rw [if_pos h] at this; exact this
            · subst h; rw [if_pos (by omega), ← HPJ.out, hnr.out]; have := hSx.out i hi; rw [if_neg (by omega), ← HPJ.out] at this; exact this
            · rw [if_neg (by omega)]; have := hSx.out i hi; rw [if_neg (by omega)] at this; exact this), HV.out, HLV.out, hb⟩
        case measure => simp [intOf]; omega
      · rw [hx] at hcl3
        have hnr := hid (show rn xs p = tur (sg xs p) by
          rw [hrn.out]
          unfold ron
          rw [if_pos (by have := hlf.out; rw [hx] at this; exact of_decide_eq_true this.symm)])
        have cM := hid (mirrored_any b (o + p.1) (p.2 - p.1) (c - p.1) (sg xs p) wr HSX.out.1 (by omega) (by omega) (fun x hx => HO.out x (List.mem_of_mem_drop (List.mem_of_mem_take hx))))
        clear hx
        go_wp2_with (go_at_call 38; refine cM.out.mono ?_; rintro e w5 ⟨g5, c5, rfl, hg5, hc5, hS5, hb5⟩; have hV5 := HV.out.bl hb5; have hcv5 := (hb5.cell (p := ⟨ga, j, none⟩) (own_lt HV.out)).trans hce; have hfv5 := hV5.free j)
        have hgw := own_lt HV.out
        go_roundw
        case rel => exact ⟨j + 1, L.set j (some ⟨g5, 0, none⟩, p.2 - p.1, c5), by go_num, by rw [HBS'.out]; go_num, by omega, by rw [List.length_set]; exact hLm, hid (fun i h1 h2 => by rw [getD_set_other (by omega)]; exact hLt.out i (by omega) h2), hid (fun i hi => by
            rcases Nat.lt_trichotomy i j with h | h | h
            · rw [if_pos (by omega), getD_set_other (by omega)]; have := hSx.out i hi; rw [if_pos h] at this; exact (this.bl hb5).put
            · subst h
              rw [if_pos (by omega), getD_set_same (by omega), ← HPJ.out, hnr.out]
              refine Sx.put ⟨hS5, fun b' o' he => ?_⟩
              injection he with he
              injection he with he _
              omega
            · rw [if_neg (by omega), getD_set_other (by omega)]; have := hSx.out i hi; rw [if_neg (by omega)] at this; exact (this.bl hb5).put), by rw [List.map_set]; exact hV5.set j _, (HLV.out.bl hb5).put (by omega) (by omega) _ _, Below.setCell (p := ⟨ga, j, none⟩) (hb.trans hb5) (show w.heap.size ≤ ga by omega) _⟩
        case measure => simp [intOf]; omega
    · obtain rfl : j = m := by omega
      have hS := hid (show ∀ i, i < j → Sx wr ga (L.getD i default) ((P.map (rn xs)).getD i []) by
        intro i hi
        have := hSx.out i hi
        rw [if_pos hi] at this
        rw [getD_map (d := (0, 0)) (by rw [← HP.out]; exact hi)]
        exact this)
      have hord := hid (ord_pt (l := xs) (P := P) (by rw [hl.out]; exact HPt.out))
      have holen := hid (ord_len xs)
      clear hSx hLt
      have HV := hid hV
      clear hV
      cases base
      · have hor := hid (show ord xs = (P.map (rn xs)).flatten by
          rw [hord.out, if_neg]
          have := HBS.out
          unfold lbs at this
          exact of_decide_eq_false this.symm)
        have cC := hid (concat_row (X := P.map (rn xs)) HV.out hLm (by rw [List.length_map, ← HP.out]) (fun i hi => (hS.out i hi).1) (by omega) (by rw [← hor.out, holen.out, hl.out]; omega))
        rw [← hor.out] at cC
        go_wp2_with fail
        refine cC.out.mono ?_
        rintro e w6 ⟨A6, c6, rfl, hS6, hc6, hb6⟩
        go_wp2_with fail
        go_ret
        exact ⟨A6, c6, rfl, hS6, hc6, hb.trans hb6⟩
      · have hor := hid (show ord xs = ((P.map (rn xs)).reverse).flatten by
          rw [hord.out, if_pos]
          have := HBS.out
          unfold lbs at this
          exact of_decide_eq_true this.symm)
        have hj0 : 0 < j := by
          rcases Nat.eq_zero_or_pos j with h0 | h0
          · exfalso
            have hPn : P = [] := List.length_eq_zero_iff.1 (by rw [← HP.out]; exact h0)
            have hpt := HPt.out
            rw [hPn] at hpt
            have hn0 : n = 0 := by
              have := hpt.last
              simpa [beg] using this.symm
            have hx0 : xs = [] := List.length_eq_zero_iff.1 (by rw [hl.out]; exact hn0)
            have := HBS.out
            rw [hx0] at this
            exact absurd this (by decide)
          · exact h0
        obtain ⟨hA1, hga2⟩ := hga.out hj0
        subst hA1
        have hgw := own_lt HV.out
        have cR := hid (rev2_any ga c' B2 L wr (by rw [hLm]; exact HV.out) (by omega))
        rw [hLm] at cR
        go_wp2_with fail
        refine cR.out.mono ?_
        rintro e w6 ⟨rfl, hV6, hu6⟩
        have hb6 : Bl w w6 := Bu.bl hb hu6 (by omega)
        have hpm : (P.map (rn xs)).length = j := by rw [List.length_map, ← HP.out]
        have cC := hid (concat_row (X := (P.map (rn xs)).reverse) hV6 (by rw [List.length_reverse]; exact hLm) (by rw [List.length_reverse]; exact hpm)
          (fun i hi => by
            rw [getD_rev (by rw [hLm]; exact hi), getD_rev (by rw [hpm]; exact hi), hLm, hpm]
            exact ((hS.out (j - 1 - i) (by omega)).bu hu6).1) (by omega) (by rw [← hor.out, holen.out, hl.out]; omega))
        rw [← hor.out] at cC
        go_wp2_with fail
        refine cC.out.mono ?_
        rintro e w7 ⟨A6, c6, rfl, hS6, hc6, hb7⟩
        go_wp2_with fail
        go_ret
        exact ⟨A6, c6, rfl, hS6, hc6, hb6.trans hb7⟩
end Go.Proofs.YtajcalmjdfhedaaDoor.Glyph
