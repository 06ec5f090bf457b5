/- Contracts of the reference of idset: Normal, Union, Inter, Minus; few. -/
import Derived.Test.YtofjfnpfcibbeaaIWith
namespace Go.Proofs.Ytofjfnpfcibbeaa.Idset
open Go.RowKit
open Go.Proofs.Ytofjfnpfcibbeaa.Wire
set_option linter.unusedVariables false

theorem nrm_snoc (l : List Int) (x : Int) : nrm (l ++ [x]) = ins x (nrm l) := add_snoc [] l x
theorem Out2.of {w w' : World} {L zs : List Int} {A : Option Addr} {m c : Nat} (hS : Sh w' w'.heap.size .i64 A m L) (hc : m ≤ c) (hb : Bl w w') (h : L = zs) : Out2 w .i64 zs (.returned (.slice A m c)) w' := by
  subst h
  obtain rfl := hS.len
  exact ⟨A, c, rfl, hS, hc, hb⟩

set_option maxHeartbeats 600000 in
theorem RNormal_any (A : Option Addr) (n c : Nat) (xs : List Int) (w : World) (hS : Sh w w.heap.size .i64 A n xs) (hm : n ≤ 1099511627776) :
    Calls Try.prog 17 #[.slice A n c] w (Out2 w .i64 (nrm xs)) := by
  have hl := hid hS.len
  go_enter Try.func17, Try.ntmps17
  go_wp2_with fail
  go_loopw [3, 4] (fun b i wr => ∃ (A' : Option Addr) (m c' k : Nat) (L : List Int), b = .slice A' m c' ∧ i = .int .i64 k ∧ k ≤ n ∧ m ≤ k ∧ m ≤ c' ∧ Hid (L = nrm (xs.take k)) ∧ Sh wr wr.heap.size .i64 A' m L ∧ Bl w wr) (fun _ i _ => n - (intOf i).toNat)
  case atStart => exact ⟨some ⟨w.heap.size, 0, none⟩, 0, 0, 0, [], rfl, rfl, by omega, by omega, by omega, hid rfl, Sh.nil _ _ _ _, (Bl.refl w).alloc _⟩
  case round =>
    obtain ⟨A', m, c', k, L, rfl, rfl, hk, hmk, hmc, hL, hs, hb⟩ := hrel
    by_cases hlt : k < n
    · obtain ⟨b, o, rfl, _, hcell⟩ := (hS.bl hb).2 (by omega)
      have hc1 := hcell k hlt
      have hsn := hid (take_snoc (l := xs) (i := k) (by rw [hl.out]; omega))
      clear hcell
      generalize xs.getD k 0 = x at *
      have hil := ins_len x L
      have hml := hid hs.len
      rw [hml.out] at hil
      have r1 := hid (RWith_any A' m c' L x wr hs hmc (by omega) (by rw [hL.out]; exact nrm_asc _))
      have fin := hid (show ins x L = nrm (xs.take (k + 1)) by rw [hsn.out, nrm_snoc, hL.out])
      generalize ins x L = L' at *
      go_wp2_with fail
      refine r1.out.mono ?_
      rintro e w2 ⟨A2, c2, rfl, hs2, hc2, hb2⟩
      go_wp2_with fail
      go_roundw
      case rel => exact ⟨A2, L'.length, c2, k + 1, L', rfl, by go_num, by omega, by omega, hc2, fin, hs2, hb.trans hb2⟩
      case measure => simp [intOf]; omega
    · obtain rfl : k = n := by omega
      go_wp2_with fail
      go_ret
      have := hL.out
      rw [take_all (by rw [hl.out]; omega)] at this
      exact Out2.of hs hmc hb this

set_option maxHeartbeats 600000 in
theorem RUnion_any (A : Option Addr) (n c : Nat) (xs : List Int) (A1 : Option Addr) (n1 c1 : Nat) (ys : List Int) (w : World) (hS : Sh w w.heap.size .i64 A n xs) (hS1 : Sh w w.heap.size .i64 A1 n1 ys) (hm : n + n1 ≤ 1099511627776) :
    Calls Try.prog 19 #[.slice A n c, .slice A1 n1 c1] w (Out2 w .i64 (uni xs ys)) := by
  have hl := hid hS1.len
  have hnl := nrm_len xs
  rw [hS.len] at hnl
  have r0 := hid (RNormal_any A n c xs w hS (by omega))
  have ha := hid (nrm_asc xs)
  have hU := hid (show uni xs ys = add (nrm xs) ys from rfl)
  generalize uni xs ys = U at *
  generalize nrm xs = X at *
  go_enter Try.func19, Try.ntmps19
  go_wp2_with fail
  refine r0.out.mono ?_
  rintro e w0 ⟨A0, c0, rfl, hs0, hc0, hb0⟩
  clear r0
  generalize hX : X.length = p at *
  have HX := hid hX
  clear hX
  go_wp2_with fail
  go_loopw [5, 6] (fun b i wr => ∃ (A' : Option Addr) (m c' k : Nat) (L : List Int), b = .slice A' m c' ∧ i = .int .i64 k ∧ k ≤ n1 ∧ m ≤ p + k ∧ m ≤ c' ∧ Hid (L = add X (ys.take k)) ∧ Sh wr wr.heap.size .i64 A' m L ∧ Bl w wr) (fun _ i _ => n1 - (intOf i).toNat)
  case atStart => exact ⟨A0, p, c0, 0, X, rfl, rfl, by omega, by omega, hc0, hid rfl, hs0, hb0⟩
  case round =>
    clear hs0
    obtain ⟨A', m, c', k, L, rfl, rfl, hk, hmk, hmc, hL, hs, hb⟩ := hrel
    by_cases hlt : k < n1
    · obtain ⟨b, o, rfl, _, hcell⟩ := (hS1.bl hb).2 (by omega)
      have hc1 := hcell k hlt
      have hsn := hid (take_snoc (l := ys) (i := k) (by rw [hl.out]; omega))
      clear hcell
      generalize ys.getD k 0 = x at *
      have hil := ins_len x L
      have hml := hid hs.len
      rw [hml.out] at hil
      have r1 := hid (RWith_any A' m c' L x wr hs hmc (by omega) (by rw [hL.out]; exact add_asc _ _ ha.out))
      have fin := hid (show ins x L = add X (ys.take (k + 1)) by rw [hsn.out, add_snoc, hL.out])
      generalize ins x L = L' at *
      go_wp2_with fail
      refine r1.out.mono ?_
      rintro e w2 ⟨A2, c2, rfl, hs2, hc2, hb2⟩
      go_wp2_with fail
      go_roundw
      case rel => exact ⟨A2, L'.length, c2, k + 1, L', rfl, by go_num, by omega, by omega, hc2, fin, hs2, hb.trans hb2⟩
      case measure => simp [intOf]; omega
    · obtain rfl : k = n1 := by omega
      go_wp2_with fail
      go_ret
      have := hL.out
      rw [take_all (by rw [hl.out]; omega), ← hU.out] at this
      exact Out2.of hs hmc hb this

theorem inter_in {l ys : List Int} {x : Int} (h : hasb ys x = true) : nrm ((l ++ [x]).filter fun x => decide (x ∈ ys)) = ins x (nrm (l.filter fun x => decide (x ∈ ys))) := by
  rw [List.filter_append, List.filter_cons, if_pos (by simpa using hasb_mem h), List.filter_nil, nrm_snoc]
theorem inter_out {l ys : List Int} {x : Int} (h : hasb ys x = false) : nrm ((l ++ [x]).filter fun x => decide (x ∈ ys)) = nrm (l.filter fun x => decide (x ∈ ys)) := by
  rw [List.filter_append, List.filter_cons, if_neg (by simpa using hasb_not h), List.filter_nil, List.append_nil]

set_option maxHeartbeats 1000000 in
theorem RInter_any (A : Option Addr) (n c : Nat) (xs : List Int) (A1 : Option Addr) (n1 c1 : Nat) (ys : List Int) (w : World) (hS : Sh w w.heap.size .i64 A n xs) (hS1 : Sh w w.heap.size .i64 A1 n1 ys) (hm : n + n1 ≤ 1099511627776) :
    Calls Try.prog 21 #[.slice A n c, .slice A1 n1 c1] w (Out2 w .i64 (int xs ys)) := by
  have hl := hid hS.len
  go_enter Try.func21, Try.ntmps21
  go_wp2_with fail
  go_loopw [5, 6] (fun b i wr => ∃ (A' : Option Addr) (m c' k : Nat) (L : List Int), b = .slice A' m c' ∧ i = .int .i64 k ∧ k ≤ n ∧ m ≤ k ∧ m ≤ c' ∧ Hid (L = nrm ((xs.take k).filter fun x => decide (x ∈ ys))) ∧ Sh wr wr.heap.size .i64 A' m L ∧ Bl w wr) (fun _ i _ => n - (intOf i).toNat)
  case atStart => exact ⟨some ⟨w.heap.size, 0, none⟩, 0, 0, 0, [], rfl, rfl, by omega, by omega, by omega, hid rfl, Sh.nil _ _ _ _, (Bl.refl w).alloc _⟩
  case round =>
    obtain ⟨A', m, c', k, L, rfl, rfl, hk, hmk, hmc, hL, hs, hb⟩ := hrel
    by_cases hlt : k < n
    · obtain ⟨b, o, rfl, _, hcell⟩ := (hS.bl hb).2 (by omega)
      have hc1 := hcell k hlt
      have hsn := hid (take_snoc (l := xs) (i := k) (by rw [hl.out]; omega))
      clear hcell
      generalize xs.getD k 0 = x at *
      have r2 := RHas_any A1 n1 c1 ys x wr _ (hS1.bl hb) (by omega)
      cases hh : hasb ys x
      · rw [hh] at r2
        have R2 := hid r2
        have fin := hid (show L = nrm ((xs.take (k + 1)).filter fun x => decide (x ∈ ys)) by rw [hsn.out, inter_out hh, hL.out])
        clear hh r2
        go_wp2_with fail
        refine R2.out.mono ?_
        rintro e w' ⟨rfl, rfl⟩
        go_wp2_with fail
        go_roundw
        case rel => exact ⟨A', m, c', k + 1, L, rfl, by go_num, by omega, by omega, hmc, fin, hs, hb⟩
        case measure => simp [intOf]; omega
      · rw [hh] at r2
        have R2 := hid r2
        have fin := hid (show ins x L = nrm ((xs.take (k + 1)).filter fun x => decide (x ∈ ys)) by rw [hsn.out, inter_in hh, hL.out])
        clear hh r2
        have hil := ins_len x L
        have hml := hid hs.len
        rw [hml.out] at hil
        have r1 := hid (RWith_any A' m c' L x wr hs hmc (by omega) (by rw [hL.out]; exact nrm_asc _))
        generalize ins x L = L' at *
        go_wp2_with fail
        refine R2.out.mono ?_
        rintro e w' ⟨rfl, rfl⟩
        go_wp2_with fail
        refine r1.out.mono ?_
        rintro e w2 ⟨A2, c2, rfl, hs2, hc2, hb2⟩
        go_wp2_with fail
        go_roundw
        case rel => exact ⟨A2, L'.length, c2, k + 1, L', rfl, by go_num, by omega, by omega, hc2, fin, hs2, hb.trans hb2⟩
        case measure => simp [intOf]; omega
    · obtain rfl : k = n := by omega
      go_wp2_with fail
      go_ret
      have := hL.out
      rw [take_all (by rw [hl.out]; omega)] at this
      exact Out2.of hs hmc hb this

theorem minus_in {l ys : List Int} {x : Int} (h : hasb ys x = false) : nrm ((l ++ [x]).filter fun x => !decide (x ∈ ys)) = ins x (nrm (l.filter fun x => !decide (x ∈ ys))) := by
  rw [List.filter_append, List.filter_cons, if_pos (by simpa using hasb_not h), List.filter_nil, nrm_snoc]
theorem minus_out {l ys : List Int} {x : Int} (h : hasb ys x = true) : nrm ((l ++ [x]).filter fun x => !decide (x ∈ ys)) = nrm (l.filter fun x => !decide (x ∈ ys)) := by
  rw [List.filter_append, List.filter_cons, if_neg (by simpa using hasb_mem h), List.filter_nil, List.append_nil]

set_option maxHeartbeats 1000000 in
theorem RMinus_any (A : Option Addr) (n c : Nat) (xs : List Int) (A1 : Option Addr) (n1 c1 : Nat) (ys : List Int) (w : World) (hS : Sh w w.heap.size .i64 A n xs) (hS1 : Sh w w.heap.size .i64 A1 n1 ys) (hm : n + n1 ≤ 1099511627776) :
    Calls Try.prog 23 #[.slice A n c, .slice A1 n1 c1] w (Out2 w .i64 (mns xs ys)) := by
  have hl := hid hS.len
  go_enter Try.func23, Try.ntmps23
  go_wp2_with fail
  go_loopw [5, 6] (fun b i wr => ∃ (A' : Option Addr) (m c' k : Nat) (L : List Int), b = .slice A' m c' ∧ i = .int .i64 k ∧ k ≤ n ∧ m ≤ k ∧ m ≤ c' ∧ Hid (L = nrm ((xs.take k).filter fun x => !decide (x ∈ ys))) ∧ Sh wr wr.heap.size .i64 A' m L ∧ Bl w wr) (fun _ i _ => n - (intOf i).toNat)
  case atStart => exact ⟨some ⟨w.heap.size, 0, none⟩, 0, 0, 0, [], rfl, rfl, by omega, by omega, by omega, hid rfl, Sh.nil _ _ _ _, (Bl.refl w).alloc _⟩
  case round =>
    obtain ⟨A', m, c', k, L, rfl, rfl, hk, hmk, hmc, hL, hs, hb⟩ := hrel
    by_cases hlt : k < n
    · obtain ⟨b, o, rfl, _, hcell⟩ := (hS.bl hb).2 (by omega)
      have hc1 := hcell k hlt
      have hsn := hid (take_snoc (l := xs) (i := k) (by rw [hl.out]; omega))
      clear hcell
      generalize xs.getD k 0 = x at *
      have r2 := RHas_any A1 n1 c1 ys x wr _ (hS1.bl hb) (by omega)
      cases hh : hasb ys x
      · rw [hh] at r2
        have R2 := hid r2
        have fin := hid (show ins x L = nrm ((xs.take (k + 1)).filter fun x => !decide (x ∈ ys)) by rw [hsn.out, minus_in hh, hL.out])
        clear hh r2
        have hil := ins_len x L
        have hml := hid hs.len
        rw [hml.out] at hil
        have r1 := hid (RWith_any A' m c' L x wr hs hmc (by omega) (by rw [hL.out]; exact nrm_asc _))
        generalize ins x L = L' at *
        go_wp2_with fail
        refine R2.out.mono ?_
        rintro e w' ⟨rfl, rfl⟩
        go_wp2_with fail
        refine r1.out.mono ?_
        rintro e w2 ⟨A2, c2, rfl, hs2, hc2, hb2⟩
        go_wp2_with fail
        go_roundw
        case rel => exact ⟨A2, L'.length, c2, k + 1, L', rfl, by go_num, by omega, by omega, hc2, fin, hs2, hb.trans hb2⟩
        case measure => simp [intOf]; omega
      · rw [hh] at r2
        have R2 := hid r2
        have fin := hid (show L = nrm ((xs.take (k + 1)).filter fun x => !decide (x ∈ ys)) by rw [hsn.out, minus_out hh, hL.out])
        clear hh r2
        go_wp2_with fail
        refine R2.out.mono ?_
        rintro e w' ⟨rfl, rfl⟩
        go_wp2_with fail
        go_roundw
        case rel => exact ⟨A', m, c', k + 1, L, rfl, by go_num, by omega, by omega, hmc, fin, hs, hb⟩
        case measure => simp [intOf]; omega
    · obtain rfl : k = n := by omega
      go_wp2_with fail
      go_ret
      have := hL.out
      rw [take_all (by rw [hl.out]; omega)] at this
      exact Out2.of hs hmc hb this

set_option maxHeartbeats 400000 in
theorem few_yes (A : Option Addr) (n c : Nat) (A1 : Option Addr) (n1 c1 : Nat) (A2 : Option Addr) (n2 c2 : Nat) (w : World) (h : n ≤ 100) (h1 : n1 ≤ 100) (h2 : n2 ≤ 100) :
    Calls Try.prog 9 #[.slice A n c, .slice A1 n1 c1, .slice A2 n2 c2] w fun e w' => e = .returned (.bool true) ∧ w = w' := by
  have t : decide ((n : Int) ≤ 100) = true := by simp; omega
  have t1 : decide ((n1 : Int) ≤ 100) = true := by simp; omega
  have t2 : decide ((n2 : Int) ≤ 100) = true := by simp; omega
  go_enter Try.func9, Try.ntmps9
  go_wp2_with fail
  go_ret
  exact ⟨rfl, rfl⟩
set_option maxHeartbeats 800000 in
theorem few_no (A : Option Addr) (n c : Nat) (A1 : Option Addr) (n1 c1 : Nat) (A2 : Option Addr) (n2 c2 : Nat) (w : World) (h : ¬ (n ≤ 100 ∧ n1 ≤ 100 ∧ n2 ≤ 100)) :
    Calls Try.prog 9 #[.slice A n c, .slice A1 n1 c1, .slice A2 n2 c2] w fun e w' => e = .returned (.bool false) ∧ w = w' := by
  rcases (show (¬ n ≤ 100) ∨ (n ≤ 100 ∧ ¬ n1 ≤ 100) ∨ (n ≤ 100 ∧ n1 ≤ 100 ∧ ¬ n2 ≤ 100) by omega) with g | ⟨g, g1⟩ | ⟨g, g1, g2⟩
  · have t : decide ((n : Int) ≤ 100) = false := by simp; omega
    go_enter Try.func9, Try.ntmps9
    go_wp2_with fail
    go_ret
    exact ⟨rfl, rfl⟩
  · have t : decide ((n : Int) ≤ 100) = true := by simp; omega
    have t1 : decide ((n1 : Int) ≤ 100) = false := by simp; omega
    go_enter Try.func9, Try.ntmps9
    go_wp2_with fail
    go_ret
    exact ⟨rfl, rfl⟩
  · have t : decide ((n : Int) ≤ 100) = true := by simp; omega
    have t1 : decide ((n1 : Int) ≤ 100) = true := by simp; omega
    have t2 : decide ((n2 : Int) ≤ 100) = false := by simp; omega
    go_enter Try.func9, Try.ntmps9
    go_wp2_with fail
    go_ret
    exact ⟨rfl, rfl⟩
end Go.Proofs.Ytofjfnpfcibbeaa.Idset
