/- awake of the statements about glyph: it returns true. -/
import Derived.Test.YtajcalmjdfhedaaDoorYDec
import Derived.Test.YtajcalmjdfhedaaDoorYRef4
import Derived.Test.YtajcalmjdfhedaaDoorYEnc
import Derived.Test.YtajcalmjdfhedaaDoorYOrd
namespace Go.Proofs.YtajcalmjdfhedaaDoor.Glyph
open Go.RowKit
open Go.Proofs.YtajcalmjdfhedaaDoor.Wire
set_option linter.unusedVariables false

theorem same_at (xs : List Int) (hl : xs.length ≤ 1000) (A A' : Option Addr) (c c' : Nat) (w : World) (hS : Sh w w.heap.size .i64 A xs.length xs) (hS' : Sh w w.heap.size .i64 A' xs.length xs) :
    Calls Tryd.prog 14 #[.slice A xs.length c, .slice A' xs.length c'] w fun e w' => e = .returned (.bool true) ∧ Q w w' := Same_yes A A' _ _ c c' xs xs w hS hS' (by omega) (by omega) rfl
theorem dec_at (s : ByteArray) (zs : List Int) (E : Int) (hs : s.size ≤ 1099511627776) (h1 : decL s = zs) (h2 : decE s = E) (w : World) (hT : Tab w) :
    Calls Tryd.prog 12 #[.string s] w fun e w' => ∃ A' c', e = .returned (.tuple #[.slice A' zs.length c', .int .i64 E]) ∧ Sh w' w'.heap.size .i64 A' zs.length zs ∧ zs.length ≤ c' ∧ Bl w w' := by
  subst h1 h2
  exact Decode_any s w (by omega) hT
theorem decL_len (s : ByteArray) : (decL s).length ≤ s.size := by
  unfold decL
  cases h : dec (sb s) with
  | none => simp
  | some l => have := dec_byts h; rw [sb_len] at this; exact this
theorem dec_yes {s : ByteArray} {l : List Int} (h : dec (sb s) = some l) : decL s = l ∧ decE s = 0 := by
  unfold decL decE
  rw [h]
  exact ⟨rfl, rfl⟩
theorem dec_no {s : ByteArray} (h : dec (sb s) = none) : decL s = [] ∧ decE s = 4 := by
  unfold decL decE
  rw [h]
  exact ⟨rfl, rfl⟩
theorem sb_cat (a b : ByteArray) : sb (a ++ b) = sb a ++ sb b := by
  unfold sb
  rw [ByteArray.data_append, Array.toList_append, List.map_append]
theorem decLE {s : ByteArray} {l : List Int} (h : okl l) (e : sb s = enc l) : decL s = l ∧ decE s = 0 := by
  unfold decL decE
  rw [e, dec_some h]
  exact ⟨rfl, rfl⟩
theorem ok64_okl {l : List Int} (h : okl l) : ok64 l := fun x hx => by have := scr_range (h x hx); omega
theorem dec_ab : dec (sb ⟨#[97, 44, 98]⟩) = none := by
  refine dec_fail (s := ⟨#[97, 44, 98]⟩) (L := [97]) (k := 1) (by decide +kernel) (by decide +kernel) (by decide +kernel) ?_
  intro j h1 h3
  have : j = 1 ∨ j = 2 ∨ j = 3 := by omega
  rcases this with rfl | rfl | rfl <;> (unfold Fit; decide +kernel)
theorem ord_ex : ord [1488, 1489, 32, 49, 50] = [49, 50, 32, 1489, 1488] := by
  rw [ord_one (d := -1) (by decide +kernel) (by decide +kernel) (by decide)]
  show tur _ = _
  rw [tur_no (by decide +kernel), tur_no (by decide +kernel), tur_no (by decide +kernel), tur_dig (by decide +kernel)]
  have e1 : List.dropWhile dig [50] = [] := by decide +kernel
  have e2 : List.takeWhile dig [50] = [50] := by decide +kernel
  rw [e1, e2, tur_nil]; rfl

set_option maxRecDepth 100000 in
set_option maxHeartbeats 2000000 in
theorem awake_any (w : World) (hT : Tab w) : Calls Tryd.prog 15 #[] w fun e w' => e = .returned (.bool true) ∧ Bl w w' := by
  have d1 := decLE (s := ⟨#[65, 195, 169]⟩) (l := [65, 233]) (by decide +kernel) (by decide +kernel)
  have k1 := hid (fun w' (hb : Bl w w') => dec_at ⟨#[65, 195, 169]⟩ [65, 233] 0 (by decide) d1.1 d1.2 w' (hT.bl hb))
  have k2 := hid (fun w' (hb : Bl w w') => dec_at ⟨#[97, 44, 98]⟩ [] 4 (by decide) (by unfold decL; rw [dec_ab]; rfl) (by unfold decE; rw [dec_ab]; rfl) w' (hT.bl hb))
  clear d1
  have k3 := hid (fun A c w' (hb : Bl w w') hS => Encode_any A 1 c [19968] w' hS (by unfold ok64; decide) (by decide) (hT.bl hb))
  have e3 : encS [19968] = ⟨#[228, 184, 128]⟩ ∧ encE [19968] = 0 := by decide +kernel
  rw [e3.1, e3.2] at k3
  clear e3
  have k4 := hid (fun w' (hb : Bl w w') => Script_any 215 w' (by decide) (by decide) (hT.bl hb))
  rw [show scr 215 = -1 by decide +kernel] at k4
  have k5 := hid (fun w' (hb : Bl w w') => Width_any 19968 9 w' (by decide) (by decide) (by decide) (by decide) (hT.bl hb))
  rw [show wid 19968 9 = 9 by decide +kernel] at k5
  have k6 := hid (fun w' (hb : Bl w w') => Width_any 32 9 w' (by decide) (by decide) (by decide) (by decide) (hT.bl hb))
  rw [show wid 32 9 = 5 by decide +kernel] at k6
  have k7 := hid (fun w' (hb : Bl w w') => Width_any 97 9 w' (by decide) (by decide) (by decide) (by decide) (hT.bl hb))
  rw [show wid 97 9 = 6 by decide +kernel] at k7
  have k8 := hid (fun w' (hb : Bl w w') => Fold_any 352 w' (by decide) (by decide) (hT.bl hb))
  rw [show fol 352 = 353 by decide +kernel] at k8
  have k9 := hid (fun A c w' (hb : Bl w w') hS hc => (Order_any A 5 c [1488, 1489, 32, 49, 50] w' hS (by unfold ok64; decide) hc (by omega) (hT.bl hb)))
  rw [ord_ex] at k9
  have s1 := hid (same_at [65, 233] (by decide))
  have s2 := hid (same_at [49, 50, 32, 1489, 1488] (by decide))
  simp only [List.length_cons, List.length_nil, Nat.zero_add, Nat.reduceAdd] at k1 k2 s1 s2
  go_enter Tryd.func15, Tryd.ntmps15
  go_wp2_with fail
  refine (k1.out _ (Bl.refl _)).mono ?_
  rintro e w1 ⟨A1, c1, rfl, hs1, hc1, hb1⟩
  go_wp2_with fail
  refine (k2.out _ hb1).mono ?_
  rintro e w2 ⟨A2, c2, rfl, hs2, hc2, hb2⟩
  have hs1 := hs1.bl hb2
  have B2 := Bl.trans hb1 hb2
  clear hs2 hc1 hb1 hb2
  go_wp2_with fail
  refine (k3.out _ _ _ (B2.alloc _) ?_).mono ?_
  · exact Sh.made _ _ _ [19968] _ rfl (by simp)
  rintro e w3 ⟨rfl, hb3⟩
  have hs1 := (hs1.al _).bl hb3
  have B3 := (B2.alloc _).trans hb3
  clear B2 hb3
  go_wp2_with fail
  refine (s1.out _ _ _ _ _ (hs1.al _) ?_).mono ?_
  · exact Sh.made _ _ _ [65, 233] _ rfl (by simp)
  rintro e w4 ⟨rfl, hq⟩
  have B4 := (B3.alloc _).q hq
  clear hs1 B3 hq
  go_wp2_with fail
  refine (k4.out _ B4).mono ?_
  rintro e w5 ⟨rfl, hb⟩
  have B5 := B4.trans hb
  clear B4 hb
  go_wp2_with fail
  refine (k5.out _ B5).mono ?_
  rintro e w6 ⟨rfl, hb⟩
  have B6 := B5.trans hb
  clear B5 hb
  go_wp2_with fail
  refine (k6.out _ B6).mono ?_
  rintro e w7 ⟨rfl, hb⟩
  have B7 := B6.trans hb
  clear B6 hb
  go_wp2_with fail
  refine (k7.out _ B7).mono ?_
  rintro e w8 ⟨rfl, hb⟩
  have B8 := B7.trans hb
  clear B7 hb
  go_wp2_with fail
  refine (k8.out _ B8).mono ?_
  rintro e w9 ⟨rfl, hb⟩
  have B9 := B8.trans hb
  clear B8 hb
  go_wp2_with fail
  refine (k9.out _ _ _ (B9.alloc _) ?_ (by decide)).mono ?_
  · exact Sh.made _ _ _ [1488, 1489, 32, 49, 50] _ rfl (by simp)
  rintro e v1 ⟨Ao, co, rfl, hso, hco, hbo⟩
  have C1 := (B9.alloc _).trans hbo
  clear B9 hbo
  simp only [List.length_cons, List.length_nil, Nat.zero_add, Nat.reduceAdd] at hso
  go_wp2_with fail
  refine (s2.out _ _ _ _ _ (hso.al _) ?_).mono ?_
  · exact Sh.made _ _ _ [49, 50, 32, 1489, 1488] _ rfl (by simp)
  rintro e v2 ⟨rfl, hq⟩
  have C2 := (C1.alloc _).q hq
  clear C1 hq
  go_wp2_with fail
  go_ret
  exact ⟨rfl, C2⟩
end Go.Proofs.YtajcalmjdfhedaaDoor.Glyph
