/- Contracts of the reference of name: Key, Width. -/
import Derived.Test.YtjbkpiimjkekgaaDoorNRef3
namespace Go.Proofs.YtjbkpiimjkekgaaDoor.Name
open Go.RowKit
open Go.Proofs.YtjbkpiimjkekgaaDoor.Wire
open Go.Proofs.YtjbkpiimjkekgaaDoor.Glyph
set_option linter.unusedVariables false

def KeyOut (w : World) (S : List Int) (e : Ending) (w' : World) : Prop :=
  ∃ A c, e = .returned (.tuple #[.slice A (key S).length c, .int .i64 (chk S)]) ∧ Sh w' w'.heap.size .i64 A (key S).length (key S) ∧ (key S).length ≤ c ∧ Bl w w'
theorem KeyOut.no {w w' : World} {S : List Int} {x : Int} (h : chk S = x) (h0 : x ≠ 0) (hb : Bl w w') : KeyOut w S (.returned (.tuple #[.slice none 0 0, .int .i64 x])) w' := by
  have h1 := key_no (S := S) (by rw [h]; exact h0)
  refine ⟨none, 0, by rw [h1, h]; rfl, ?_, by rw [h1]; exact Nat.le_refl _, hb⟩
  rw [h1]; exact Sh.nil _ _ _ _
theorem KeyOut.yes {w w' : World} {S K : List Int} {A : Option Addr} {m c : Nat} (h : chk S = 0) (hk : key S = K) (hS : Sh w' w'.heap.size .i64 A m K) (hc : m ≤ c) (hb : Bl w w') : KeyOut w S (.returned (.tuple #[.slice A m c, .int .i64 0])) w' := by
  obtain rfl := hS.len
  exact ⟨A, c, by rw [hk, h], by rw [hk]; exact hS, by rw [hk]; exact hc, hb⟩
theorem keyL_in {l : List Int} {x : Int} (h : mrk x = false) : keyL (l ++ [x]) = keyL l ++ [fol x] := by unfold keyL; rw [List.filter_append, List.map_append, List.filter_cons, if_pos (by simp [h])]; rfl
theorem keyL_out {l : List Int} {x : Int} (h : mrk x = true) : keyL (l ++ [x]) = keyL l := by unfold keyL; rw [List.filter_append, List.map_append, List.filter_cons, if_neg (by simp [h])]; simp

set_option maxHeartbeats 1000000 in
theorem RKey_any (s : ByteArray) (w : World) (hm : s.size ≤ 1099511627776) :
    Calls Tryd.prog 13 #[.string s] w (KeyOut w (sb s)) := by
  have c1 := RCheck_any s w hm
  by_cases h0 : chk (sb s) = 0
  · obtain ⟨_, h40, l, hd, _, _, _⟩ := chk_ok.1 h0
    have hok := (dec_iff.1 hd).1
    have hll : l.length ≤ 40 := by have := dec_byts hd; omega
    have c2 := fun w' => RDecode_any s w' hm
    unfold DecOut at c2
    rw [(dec_some_out hd).1, (dec_some_out hd).2] at c2
    rw [h0] at c1
    have fin := hid (fun (w' : World) (A : Option Addr) (m c : Nat) => KeyOut.yes (w := w) (w' := w') (A := A) (m := m) (c := c) h0 (key_some h0 hd))
    have C1 := hid c1
    have C2 := hid c2
    have HO := hid hok
    clear c1 c2 h0 hd h40 hok
    obtain ⟨n, hn⟩ : ∃ n, n = l.length := ⟨_, rfl⟩
    rw [← hn] at hll C2
    have hl := hid hn.symm
    clear hn
    go_enter Tryd.func13, Tryd.ntmps13
    go_wp2_with fail
    refine C1.out.mono ?_
    rintro e w1 ⟨rfl, hb1⟩
    go_wp2_with fail
    refine (C2.out _).mono ?_
    rintro e w2 ⟨A2, k2, rfl, hs2, hc2, hb2⟩
    have hb02 := hb1.trans hb2
    clear hb1 hb2
    go_wp2_with fail
    go_loopw [7, 8] (fun b i wr => ∃ (A' : Option Addr) (m c' k : Nat), b = .slice A' m c' ∧ i = .int .i64 k ∧ k ≤ n ∧ m ≤ k ∧ Ow wr w2.heap.size 3 .i64 A' m c' (keyL (l.take k)) ∧ Sh wr w2.heap.size .i64 A2 n l ∧ Bl w wr ∧ w2.heap.size ≤ wr.heap.size) (fun _ i _ => n - (intOf i).toNat)
    case atStart => exact ⟨some ⟨w2.heap.size, 0, none⟩, 0, 0, 0, rfl, rfl, by omega, by omega, Ow.new _ _ _, hs2.alloc (Nat.le_refl _) _, hb02.alloc _, by simp⟩
    case round =>
      clear hs2
      obtain ⟨A', m, c', k, rfl, rfl, hk, hmk, ho, hs, hb, hsz⟩ := hrel
      by_cases hlt : k < n
      · obtain ⟨b, o, rfl, _, hcell⟩ := hs.2 (by omega)
        have hc1 := hcell k hlt
        have hkl : k < l.length := by rw [hl.out]; exact hlt
        have hsn := hid (take_snoc (l := l) (i := k) hkl)
        have hmem := getD_mem hkl
        have hr := scr_range (HO.out _ hmem)
        clear hcell hmem hkl
        generalize l.getD k 0 = x at *
        have c1 := RMark_any x wr
        cases hx : mrk x
        · have hfin := hid (show keyL (l.take (k + 1)) = keyL (l.take k) ++ [fol x] by rw [hsn.out, keyL_in hx])
          rw [hx] at c1
          have M1 := hid c1
          have F1 := hid (fun w' => RFold_any x w' (by omega) (by omega))
          clear c1 hx hsn
          generalize fol x = y at *
          go_wp2_with fail
          refine M1.out.mono ?_
          rintro e w' ⟨rfl, rfl⟩
          go_wp2_with fail
          refine (F1.out _).mono ?_
          rintro e w' ⟨rfl, rfl⟩
          go_wp2_with (at_builtin; refine wpList_app_own _ rfl (.tmp 32) (.tmp 38) _ rfl elI rfl (ho.alloc _) rfl (Sh.one _ _ _ _) (by omega) (by omega) (by simp; omega) ?_; intro A3 c3 w3 ho3 hb3)
          have hb34 : Below w2.heap.size wr w3 := Below.trans ((Below.refl _ wr).alloc hsz _) hb3
          go_roundw
          case rel => exact ⟨A3, m + 1, c3, k + 1, rfl, by go_num, by omega, by omega, by rw [hfin.out]; exact ho3, hs.below hb34, Below.trans hb (hb34.mono hb02.size), Nat.le_trans hsz hb34.size⟩
          case measure => simp [intOf]; omega
        · have hfin := hid (show keyL (l.take (k + 1)) = keyL (l.take k) by rw [hsn.out, keyL_out hx])
          rw [hx] at c1
          have M1 := hid c1
          clear c1 hx hsn
          go_wp2_with fail
          refine M1.out.mono ?_
          rintro e w' ⟨rfl, rfl⟩
          go_wp2_with fail
          go_roundw
          case rel => exact ⟨A', m, c', k + 1, rfl, by go_num, by omega, by omega, by rw [hfin.out]; exact ho, hs, hb, hsz⟩
          case measure => simp [intOf]; omega
      · obtain rfl : n = k := by omega
        go_wp2_with fail
        go_ret2
        rw [take_all (by rw [hl.out]; omega)] at ho
        exact fin.out _ _ _ _ ho.sh (ow_cap ho) hb
  · have fin := hid (fun (w' : World) => KeyOut.no (w := w) (w' := w') (S := sb s) rfl h0)
    generalize hX : chk (sb s) = X at *
    have HX := hid hX
    have t : (X == 0) = false := by simpa using h0
    have C1 := hid c1
    clear c1 hX
    go_enter Tryd.func13, Tryd.ntmps13
    go_wp2_with fail
    refine C1.out.mono ?_
    rintro e w1 ⟨rfl, hb1⟩
    go_wp2_with fail
    go_ret2
    exact fin.out _ hb1

theorem wsum_snoc (l : List Int) (x n : Int) : ((l ++ [x]).map fun r => wid r n).sum = (l.map fun r => wid r n).sum + wid x n := by simp
theorem wid_le (r n : Int) : 0 ≤ wid r n ∧ wid r n ≤ 64 := by
  by_cases h : n < 1 ∨ 64 < n ∨ scr r < 0
  · rw [wid_no h]; omega
  · simp only [not_or, Int.not_lt] at h
    have := wid_yes (r := r) (n := n) h.1 h.2.1 h.2.2
    omega
theorem wsum_le (n : Int) : ∀ l : List Int, 0 ≤ (l.map fun r => wid r n).sum ∧ (l.map fun r => wid r n).sum ≤ 64 * l.length
  | [] => by simp
  | a :: l => by
    have h := wsum_le n l
    have g := wid_le a n
    simp only [List.map_cons, List.sum_cons, List.length_cons]
    omega
def WidOut (w : World) (S : List Int) (n : Int) (e : Ending) (w' : World) : Prop := e = .returned (.tuple #[.int .i64 (wdt S n), .int .i64 (wde S n)]) ∧ Bl w w'
theorem WidOut.mk' {w w' : World} {S : List Int} {n a b : Int} (h1 : wdt S n = a) (h2 : wde S n = b) (hb : Bl w w') : WidOut w S n (.returned (.tuple #[.int .i64 a, .int .i64 b])) w' := ⟨by rw [h1, h2], hb⟩
set_option maxHeartbeats 1000000 in
theorem RNWidth_any (s : ByteArray) (z : Int) (w : World) (hm : s.size ≤ 1099511627776) (g0 : -9223372036854775808 ≤ z) (g1 : z ≤ 9223372036854775807) :
    Calls Tryd.prog 22 #[.string s, .int .i64 z] w (WidOut w (sb s) z) := by
  have c1 := RCheck_any s w hm
  by_cases h0 : chk (sb s) = 0
  · rw [h0] at c1
    have C1 := hid c1
    clear c1
    by_cases hz : 1 ≤ z ∧ z ≤ 64
    · obtain ⟨_, h40, l, hd, _, _, _⟩ := chk_ok.1 h0
      have hll : l.length ≤ 40 := by have := dec_byts hd; omega
      have c2 := fun w' => RDecode_any s w' hm
      unfold DecOut at c2
      rw [(dec_some_out hd).1, (dec_some_out hd).2] at c2
      have f1 : wdt (sb s) z = (l.map fun r => wid r z).sum := by unfold wdt; rw [if_pos ⟨h0, hz⟩, hd]; rfl
      have f2 : wde (sb s) z = 0 := by unfold wde; rw [if_neg (fun h => h h0), if_pos hz]
      have fin := hid (fun (w' : World) => WidOut.mk' (w := w) (w' := w') f1 f2)
      have C2 := hid c2
      clear c2 h0 hd h40 f1 f2
      obtain ⟨z1, z2⟩ := hz
      have HB := hid (fun k => wsum_le z (l.take k))
      obtain ⟨n, hn⟩ : ∃ n, n = l.length := ⟨_, rfl⟩
      rw [← hn] at hll C2
      have hl := hid hn.symm
      clear hn
      go_enter Tryd.func22, Tryd.ntmps22
      go_wp2_with fail
      refine C1.out.mono ?_
      rintro e w1 ⟨rfl, hb1⟩
      go_wp2_with fail
      refine (C2.out _).mono ?_
      rintro e w2 ⟨A2, k2, rfl, hs2, hc2, hb2⟩
      have hb02 := hb1.trans hb2
      clear hb1 hb2
      go_wp2_with fail
      go_loop [9, 10] (fun t i => ∃ (k : Nat) (T : Int), t = .int .i64 T ∧ i = .int .i64 k ∧ k ≤ n ∧ Hid (T = ((l.take k).map fun r => wid r z).sum)) (fun _ i => n - (intOf i).toNat)
      case atStart => exact ⟨0, 0, rfl, rfl, by omega, hid rfl⟩
      case round =>
        obtain ⟨k, T, rfl, rfl, hk, hT⟩ := hrel
        by_cases hlt : k < n
        · obtain ⟨b, o, rfl, _, hcell⟩ := hs2.2 (by omega)
          have hc1 := hcell k hlt
          have hkl : k < l.length := by rw [hl.out]; exact hlt
          have hsn := hid (take_snoc (l := l) (i := k) hkl)
          have hb1 := HB.out k
          rw [← hT.out, List.length_take] at hb1
          have hT0 : 0 ≤ T ∧ T ≤ 64 * 40 := by omega
          clear hcell hkl hb1
          generalize l.getD k 0 = x at *
          have hw := wid_le x z
          have fs := hid (show T + wid x z = ((l.take (k + 1)).map fun r => wid r z).sum by rw [hsn.out, wsum_snoc, hT.out])
          have W1 := hid (RWidth_any x z w2 g0 g1)
          generalize wid x z = v at *
          obtain ⟨a1, a2⟩ := hT0
          obtain ⟨a3, a4⟩ := hw
          go_wp2_with fail
          refine W1.out.mono ?_
          rintro e w' ⟨rfl, rfl⟩
          go_wp2_with fail
          go_round
          case rel => exact ⟨k + 1, T + v, rfl, by go_num, by omega, fs⟩
          case measure => simp [intOf]; omega
        · obtain rfl : n = k := by omega
          go_wp2_with fail
          go_ret2
          have := hT.out
          rw [take_all (by rw [hl.out]; omega)] at this
          rw [this]
          exact fin.out _ hb02
    · have f1 : wdt (sb s) z = 0 := by unfold wdt; rw [if_neg (fun h => hz h.2)]
      have f2 : wde (sb s) z = 2 := by unfold wde; rw [if_neg (fun h => h h0), if_neg hz]
      have fin := hid (fun (w' : World) => WidOut.mk' (w := w) (w' := w') f1 f2)
      clear f1 f2
      by_cases h1 : z < 1
      · clear hz
        go_enter Tryd.func22, Tryd.ntmps22
        go_wp2_with fail
        refine C1.out.mono ?_
        rintro e w1 ⟨rfl, hb1⟩
        go_wp2_with fail
        go_ret2
        exact fin.out _ hb1
      · have h2 : 64 < z := by omega
        clear hz
        go_enter Tryd.func22, Tryd.ntmps22
        go_wp2_with fail
        refine C1.out.mono ?_
        rintro e w1 ⟨rfl, hb1⟩
        go_wp2_with fail
        go_ret2
        exact fin.out _ hb1
  · have f1 : wdt (sb s) z = 0 := by unfold wdt; rw [if_neg (fun h => h0 h.1)]
    have f2 : wde (sb s) z = chk (sb s) := by unfold wde; rw [if_pos h0]
    have fin := hid (fun (w' : World) => WidOut.mk' (w := w) (w' := w') f1 f2)
    clear f1 f2
    generalize chk (sb s) = X at *
    have t : (X == 0) = false := by simpa using h0
    have C1 := hid c1
    clear c1
    go_enter Tryd.func22, Tryd.ntmps22
    go_wp2_with fail
    refine C1.out.mono ?_
    rintro e w1 ⟨rfl, hb1⟩
    go_wp2_with fail
    go_ret2
    exact fin.out _ hb1
end Go.Proofs.YtjbkpiimjkekgaaDoor.Name
