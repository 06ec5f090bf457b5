/- Contract of near of geom as it landed; Twice and Side. -/
import Derived.Test.YtjdkgndecnhokaaECode2
namespace Go.Proofs.Ytjdkgndecnhokaa.Geom
open Go.RowKit
open Go.Proofs.Ytjdkgndecnhokaa.Wire
set_option linter.unusedVariables false

set_option maxHeartbeats 2000000 in
theorem Near_in (A : Option Addr) (n c : Nat) (ps : List P) (w : World) (hS : ShP w w.heap.size A n ps) (hm : n ≤ 1000) :
    Calls Try.prog 32 #[.slice A n c] w fun e w' => e = .returned (.bool (decide (Nrs ps))) ∧ Bl w w' := by
  have hl := hid hS.len
  go_enter Try.func32, Try.ntmps32
  go_wp2_with fail
  go_loopw [7, 8] (fun i _ wr => ∃ (k : Nat), i = .int .i64 k ∧ k ≤ n ∧ Hid (Nrs (ps.take k)) ∧ Hid (Bl w wr)) (fun i _ _ => n - (intOf i).toNat)
  case atStart => exact ⟨0, rfl, by omega, hid (by simp [Nrs]), hid (Bl.refl _)⟩
  case round =>
    obtain ⟨k, rfl, hk, hp, hB⟩ := hrel
    by_cases hlt : k < n
    · obtain ⟨b, o, rfl, hbs, hcell⟩ := (hS.bl hB.out).2 (by omega)
      obtain ⟨hc1, hc2⟩ := hcell k hlt
      have hkl : k < ps.length := by rw [hl.out]; exact hlt
      have hget : ps.getD k (0, 0) = ps[k] := by simp [List.getD, List.getElem?_eq_getElem hkl]
      have hmem := hid (show ps.getD k (0, 0) ∈ ps by rw [hget]; exact List.getElem_mem _)
      have hsn := hid (show ps.take (k + 1) = ps.take k ++ [ps.getD k (0, 0)] by rw [List.take_succ_eq_append_getElem hkl, hget])
      clear hcell hget hkl hbs
      generalize ps.getD k (0, 0) = q at *
      obtain ⟨x, y⟩ := q
      simp only at hc1 hc2
      have c1 := fun w' => In_any (-2097152) (-2097152) 2097152 2097152 x y w'
      by_cases hn : Nr (x, y)
      · have hn' : Hid (Nrs (ps.take (k + 1))) := hid (by
          rw [hsn.out]
          intro p hpm
          rcases List.mem_append.1 hpm with h | h
          · exact hp.out p h
          · rw [List.mem_singleton.1 h]; exact hn)
        rw [show inn (-2097152) (-2097152) 2097152 2097152 x y = true from decide_eq_true hn] at c1
        have C1 := hid c1
        clear c1 hn
        go_wp2_with fail
        refine (C1.out _).mono ?_
        rintro e w2 ⟨rfl, hb2⟩
        have hB2 := hid (Bl.trans (Bl.alloc hB.out _) hb2)
        clear hb2
        go_wp2_with fail
        go_roundw
        case rel => exact ⟨k + 1, by go_num, by omega, hn', hB2⟩
        case measure => simp [intOf]; omega
      · have fin := hid (show decide (Nrs ps) = false from decide_eq_false fun h => hn (h _ hmem.out))
        rw [show inn (-2097152) (-2097152) 2097152 2097152 x y = false from decide_eq_false hn] at c1
        have C1 := hid c1
        clear c1 hn
        go_wp2_with fail
        refine (C1.out _).mono ?_
        rintro e w2 ⟨rfl, hb2⟩
        have hB2 := hid (Bl.trans (Bl.alloc hB.out _) hb2)
        clear hb2
        go_wp2_with fail
        go_ret
        exact ⟨retB (by rw [fin.out]), hB2.out⟩
    · obtain rfl : n = k := by omega
      have := hp.out
      rw [List.take_of_length_le (by rw [hl.out]; exact Nat.le_refl _)] at this
      have fin := hid (show decide (Nrs ps) = true from decide_eq_true this)
      clear this
      go_wp2_with fail
      go_ret
      exact ⟨retB (by rw [fin.out]), hB.out⟩
theorem Near3 (a b c : P) (w : World) (T : TypeId) (g : Nat) (hg : g = w.heap.size) :
    Calls Try.prog 32 #[.slice (some ⟨g, 0, none⟩) 3 3] (w.alloc (.cells #[.int .i64 a.1, .int .i64 a.2, .int .i64 b.1, .int .i64 b.2, .int .i64 c.1, .int .i64 c.2] T)) fun e w' => e = .returned (.bool (decide (Nrs [a, b, c]))) ∧ Bl (w.alloc (.cells #[.int .i64 a.1, .int .i64 a.2, .int .i64 b.1, .int .i64 b.2, .int .i64 c.1, .int .i64 c.2] T)) w' :=
  Near_in _ 3 3 [a, b, c] _ (ShP.made w T (0, 0) [a, b, c] _ rfl hg) (by omega)
theorem Near4 (a b c d : P) (w : World) (T : TypeId) (g : Nat) (hg : g = w.heap.size) :
    Calls Try.prog 32 #[.slice (some ⟨g, 0, none⟩) 4 4] (w.alloc (.cells #[.int .i64 a.1, .int .i64 a.2, .int .i64 b.1, .int .i64 b.2, .int .i64 c.1, .int .i64 c.2, .int .i64 d.1, .int .i64 d.2] T)) fun e w' => e = .returned (.bool (decide (Nrs [a, b, c, d]))) ∧ Bl (w.alloc (.cells #[.int .i64 a.1, .int .i64 a.2, .int .i64 b.1, .int .i64 b.2, .int .i64 c.1, .int .i64 c.2, .int .i64 d.1, .int .i64 d.2] T)) w' :=
  Near_in _ 4 4 [a, b, c, d] _ (ShP.made w T (0, 0) [a, b, c, d] _ rfl hg) (by omega)

set_option maxHeartbeats 1000000 in
theorem Twice_any (a b c : P) (w : World) :
    Calls Try.prog 11 #[.agg #[.int .i64 a.1, .int .i64 a.2], .agg #[.int .i64 b.1, .int .i64 b.2], .agg #[.int .i64 c.1, .int .i64 c.2]] w (fun e w' => e = .returned (.int .i64 (tw a b c)) ∧ Bl w w') := by
  have n1 := fun w' T g hg => Near3 a b c w' T g hg
  by_cases hn : Nrs [a, b, c]
  · have h3 := nrs3.1 hn
    have c1 := hid (fun w' => Cross_in a b c w' h3.1 h3.2.1 h3.2.2)
    have fin := hid (show tw a b c = crs a b a c by unfold tw; rw [if_pos hn])
    rw [decide_eq_true hn] at n1
    have N1 := hid n1
    clear n1 hn h3
    generalize tw a b c = X at *
    generalize crs a b a c = Y at *
    obtain ⟨a1, a2⟩ := a
    obtain ⟨b1, b2⟩ := b
    obtain ⟨c1', c2'⟩ := c
    simp only at N1 c1
    go_enter Try.func11, Try.ntmps11
    go_wp2_with fail
    refine (N1.out _ _ _ (by simp)).mono ?_
    rintro e w1 ⟨rfl, hb1⟩
    obtain ⟨x1, x2, x3⟩ := box3 (Bl.trans ((Bl.refl _).alloc _) hb1)
    have k1 := x1.c0
    have k2 := x1.c1
    have k3 := x2.c0
    have k4 := x2.c1
    have k5 := x3.c0
    have k6 := x3.c1
    have HB := hid (Bl.trans ((((Bl.refl w).alloc _).alloc _).alloc _ |>.alloc _) hb1)
    clear hb1 x1 x2 x3
    go_wp2_with fail
    refine (c1.out _).mono ?_
    rintro e w2 ⟨rfl, hb⟩
    go_wp2_with fail
    go_ret
    exact ⟨ret1 (by rw [fin.out]), Bl.trans HB.out hb⟩
  · have fin := hid (show tw a b c = 0 by unfold tw; rw [if_neg hn])
    rw [decide_eq_false hn] at n1
    have N1 := hid n1
    clear n1 hn
    generalize tw a b c = X at *
    obtain ⟨a1, a2⟩ := a
    obtain ⟨b1, b2⟩ := b
    obtain ⟨c1', c2'⟩ := c
    simp only at N1
    go_enter Try.func11, Try.ntmps11
    go_wp2_with fail
    refine (N1.out _ _ _ (by simp)).mono ?_
    rintro e w1 ⟨rfl, hb1⟩
    have HB := hid (Bl.trans ((((Bl.refl w).alloc _).alloc _).alloc _ |>.alloc _) hb1)
    clear hb1
    go_wp2_with fail
    go_ret
    exact ⟨ret1 (by rw [fin.out]), HB.out⟩
set_option maxHeartbeats 1000000 in
theorem Side_any (a b c : P) (w : World) :
    Calls Try.prog 13 #[.agg #[.int .i64 a.1, .int .i64 a.2], .agg #[.int .i64 b.1, .int .i64 b.2], .agg #[.int .i64 c.1, .int .i64 c.2]] w (fun e w' => e = .returned (.int .i64 (sd a b c)) ∧ Bl w w') := by
  have c1 := hid (fun w' => Twice_any a b c w')
  have c2 := hid (fun w' => Compare0 (tw a b c) w')
  have e := hid (show sd a b c = sgn (tw a b c) from rfl)
  generalize sd a b c = X at *
  generalize sgn (tw a b c) = Y at *
  generalize tw a b c = Z at *
  obtain ⟨a1, a2⟩ := a
  obtain ⟨b1, b2⟩ := b
  obtain ⟨c1', c2'⟩ := c
  simp only at c1
  go_enter Try.func13, Try.ntmps13
  go_wp2_with fail
  refine (c1.out _).mono ?_
  rintro e w1 ⟨rfl, hb⟩
  have HB := hid (Bl.trans ((((Bl.refl w).alloc _).alloc _).alloc _) hb)
  clear hb
  go_wp2_with fail
  refine (c2.out _).mono ?_
  rintro e w2 ⟨rfl, rfl⟩
  go_wp2_with fail
  go_ret
  exact ⟨ret1 (by rw [e.out]), HB.out⟩
end Go.Proofs.Ytjdkgndecnhokaa.Geom
