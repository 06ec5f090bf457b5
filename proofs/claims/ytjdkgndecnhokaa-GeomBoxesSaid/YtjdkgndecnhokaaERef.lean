/- Contracts of the reference of geom: cross, dot, Near, Twice, Side, On. -/
import Derived.Test.YtjdkgndecnhokaaGPair
import Derived.Test.YtjdkgndecnhokaaEPlain3
import Derived.Laws.NewDeep
import Derived.BigQuiet
namespace Go.Proofs.Ytjdkgndecnhokaa.Geom
open Go.RowKit
open Go.Proofs.Ytjdkgndecnhokaa.Wire
set_option linter.unusedVariables false

theorem mul_bound {u v M : Int} (h1 : -M ≤ u) (h2 : u ≤ M) (h3 : -M ≤ v) (h4 : v ≤ M) : -(M * M) ≤ u * v ∧ u * v ≤ M * M := by
  have a1 := Int.mul_nonneg (show 0 ≤ M - u by omega) (show 0 ≤ M - v by omega)
  have a2 := Int.mul_nonneg (show 0 ≤ M + u by omega) (show 0 ≤ M + v by omega)
  have a3 := Int.mul_nonneg (show 0 ≤ M - u by omega) (show 0 ≤ M + v by omega)
  have a4 := Int.mul_nonneg (show 0 ≤ M + u by omega) (show 0 ≤ M - v by omega)
  have e1 : (M - u) * (M - v) + (M + u) * (M + v) = 2 * (M * M) + 2 * (u * v) := by grind
  have e2 : (M - u) * (M + v) + (M + u) * (M - v) = 2 * (M * M) - 2 * (u * v) := by grind
  omega
theorem prod_bound {u v : Int} (h1 : -4194304 ≤ u) (h2 : u ≤ 4194304) (h3 : -4194304 ≤ v) (h4 : v ≤ 4194304) : -17592186044416 ≤ u * v ∧ u * v ≤ 17592186044416 := mul_bound (M := 4194304) h1 h2 h3 h4

set_option maxHeartbeats 1000000 in
theorem RCross_any (a b c d : P) (w : World) (ha : Nr a) (hb : Nr b) (hc : Nr c) (hd : Nr d) :
    Calls Try.prog 34 #[.agg #[.int .i64 a.1, .int .i64 a.2], .agg #[.int .i64 b.1, .int .i64 b.2], .agg #[.int .i64 c.1, .int .i64 c.2], .agg #[.int .i64 d.1, .int .i64 d.2]] w fun e w' => e = .returned (.int .i64 (crs a b c d)) ∧ Bl w w' := by
  obtain ⟨a1, a2⟩ := a
  obtain ⟨b1, b2⟩ := b
  obtain ⟨c1, c2⟩ := c
  obtain ⟨d1, d2⟩ := d
  have e := hid (show crs (a1, a2) (b1, b2) (c1, c2) (d1, d2) = (b1 - a1) * (d2 - c2) - (b2 - a2) * (d1 - c1) from rfl)
  unfold Nr at ha hb hc hd
  simp only at ha hb hc hd
  obtain ⟨x1, x2, x3, x4⟩ := ha
  obtain ⟨y1, y2, y3, y4⟩ := hb
  obtain ⟨z1, z2, z3, z4⟩ := hc
  obtain ⟨v1, v2, v3, v4⟩ := hd
  have p1 := prod_bound (u := b1 - a1) (v := d2 - c2) (by omega) (by omega) (by omega) (by omega)
  have p2 := prod_bound (u := b2 - a2) (v := d1 - c1) (by omega) (by omega) (by omega) (by omega)
  obtain ⟨p11, p12⟩ := p1
  obtain ⟨p21, p22⟩ := p2
  generalize crs (a1, a2) (b1, b2) (c1, c2) (d1, d2) = R at *
  go_enter Try.func34, Try.ntmps34
  go_wp2_with fail
  go_ret
  exact ⟨ret1 (by rw [e.out]), ((((Bl.refl w).alloc _).alloc _).alloc _).alloc _⟩
set_option maxHeartbeats 1000000 in
theorem RDot_any (a b c d : P) (w : World) (ha : Nr a) (hb : Nr b) (hc : Nr c) (hd : Nr d) :
    Calls Try.prog 37 #[.agg #[.int .i64 a.1, .int .i64 a.2], .agg #[.int .i64 b.1, .int .i64 b.2], .agg #[.int .i64 c.1, .int .i64 c.2], .agg #[.int .i64 d.1, .int .i64 d.2]] w fun e w' => e = .returned (.int .i64 (dt a b c d)) ∧ Bl w w' := by
  obtain ⟨a1, a2⟩ := a
  obtain ⟨b1, b2⟩ := b
  obtain ⟨c1, c2⟩ := c
  obtain ⟨d1, d2⟩ := d
  have e := hid (show dt (a1, a2) (b1, b2) (c1, c2) (d1, d2) = (b1 - a1) * (d1 - c1) + (b2 - a2) * (d2 - c2) from rfl)
  unfold Nr at ha hb hc hd
  simp only at ha hb hc hd
  obtain ⟨x1, x2, x3, x4⟩ := ha
  obtain ⟨y1, y2, y3, y4⟩ := hb
  obtain ⟨z1, z2, z3, z4⟩ := hc
  obtain ⟨v1, v2, v3, v4⟩ := hd
  have p1 := prod_bound (u := b1 - a1) (v := d1 - c1) (by omega) (by omega) (by omega) (by omega)
  have p2 := prod_bound (u := b2 - a2) (v := d2 - c2) (by omega) (by omega) (by omega) (by omega)
  obtain ⟨p11, p12⟩ := p1
  obtain ⟨p21, p22⟩ := p2
  generalize dt (a1, a2) (b1, b2) (c1, c2) (d1, d2) = R at *
  go_enter Try.func37, Try.ntmps37
  go_wp2_with fail
  go_ret
  exact ⟨ret1 (by rw [e.out]), ((((Bl.refl w).alloc _).alloc _).alloc _).alloc _⟩

set_option maxHeartbeats 1000000 in
theorem RNear_any (A : Option Addr) (n c : Nat) (ps : List P) (w : World) (B : Nat) (hS : ShP w B A n ps) (hm : n ≤ 1000) :
    Calls Try.prog 22 #[.slice A n c] w fun e w' => e = .returned (.bool (decide (Nrs ps))) ∧ w = w' := by
  have hl := hid hS.len
  go_enter Try.func22, Try.ntmps22
  go_wp2_with fail
  go_loop [3] (fun i => ∃ (k : Nat), i = .int .i64 k ∧ k ≤ n ∧ Hid (Nrs (ps.take k))) (fun i => n - (intOf i).toNat)
  case atStart => exact ⟨0, rfl, by omega, hid (by simp [Nrs])⟩
  case round =>
    obtain ⟨k, rfl, hk, hp⟩ := hrel
    by_cases hlt : k < n
    · obtain ⟨b, o, rfl, _, hcell⟩ := hS.2 (by omega)
      obtain ⟨hc1, hc2⟩ := hcell k hlt
      have hkl : k < ps.length := by rw [hl.out]; exact hlt
      have hget : ps.getD k (0, 0) = ps[k] := by simp [List.getD, List.getElem?_eq_getElem hkl]
      have hmem := hid (show ps.getD k (0, 0) ∈ ps by rw [hget]; exact List.getElem_mem _)
      have hsn := hid (show ps.take (k + 1) = ps.take k ++ [ps.getD k (0, 0)] by rw [List.take_succ_eq_append_getElem hkl, hget])
      clear hcell hget hkl
      generalize ps.getD k (0, 0) = q at *
      obtain ⟨x, y⟩ := q
      simp only at hc1 hc2
      by_cases hn : Nr (x, y)
      · have hn' : Hid (Nrs (ps.take (k + 1))) := hid (by
          rw [hsn.out]
          intro p hpm
          rcases List.mem_append.1 hpm with h | h
          · exact hp.out p h
          · rw [List.mem_singleton.1 h]; exact hn)
        unfold Nr at hn
        obtain ⟨n1, n2, n3, n4⟩ := hn
        simp only at n1 n2 n3 n4
        go_wp2_with fail
        go_round
        case rel => exact ⟨k + 1, by go_num, by omega, hn'⟩
        case measure => simp [intOf]; omega
      · have fin := hid (show decide (Nrs ps) = false from decide_eq_false fun h => hn (h _ hmem.out))
        have hcase : x < -2097152 ∨ (¬ x < -2097152 ∧ 2097152 < x) ∨ (¬ x < -2097152 ∧ ¬ 2097152 < x ∧ y < -2097152) ∨ (¬ x < -2097152 ∧ ¬ 2097152 < x ∧ ¬ y < -2097152 ∧ 2097152 < y) := by
          unfold Nr at hn; simp only at hn; omega
        clear hn
        rcases hcase with h1 | ⟨h1, h2⟩ | ⟨h1, h2, h3⟩ | ⟨h1, h2, h3, h4⟩
        all_goals
          go_wp2_with fail
          go_ret
          exact ⟨retB (by rw [fin.out]), rfl⟩
    · obtain rfl : n = k := by omega
      have := hp.out
      rw [List.take_of_length_le (by rw [hl.out]; exact Nat.le_refl _)] at this
      have fin := hid (show decide (Nrs ps) = true from decide_eq_true this)
      clear this
      go_wp2_with fail
      go_ret
      exact ⟨retB (by rw [fin.out]), rfl⟩
theorem RNear3 (a b c : P) (w : World) (T : TypeId) (g : Nat) (hg : g = w.heap.size) :
    Calls Try.prog 22 #[.slice (some ⟨g, 0, none⟩) 3 3] (w.alloc (.cells #[.int .i64 a.1, .int .i64 a.2, .int .i64 b.1, .int .i64 b.2, .int .i64 c.1, .int .i64 c.2] T)) fun e w' => e = .returned (.bool (decide (Nrs [a, b, c]))) ∧ (w.alloc (.cells #[.int .i64 a.1, .int .i64 a.2, .int .i64 b.1, .int .i64 b.2, .int .i64 c.1, .int .i64 c.2] T)) = w' :=
  RNear_any _ 3 3 [a, b, c] _ _ (ShP.made w T (0, 0) [a, b, c] _ rfl hg) (by omega)
theorem RNear4 (a b c d : P) (w : World) (T : TypeId) (g : Nat) (hg : g = w.heap.size) :
    Calls Try.prog 22 #[.slice (some ⟨g, 0, none⟩) 4 4] (w.alloc (.cells #[.int .i64 a.1, .int .i64 a.2, .int .i64 b.1, .int .i64 b.2, .int .i64 c.1, .int .i64 c.2, .int .i64 d.1, .int .i64 d.2] T)) fun e w' => e = .returned (.bool (decide (Nrs [a, b, c, d]))) ∧ (w.alloc (.cells #[.int .i64 a.1, .int .i64 a.2, .int .i64 b.1, .int .i64 b.2, .int .i64 c.1, .int .i64 c.2, .int .i64 d.1, .int .i64 d.2] T)) = w' :=
  RNear_any _ 4 4 [a, b, c, d] _ _ (ShP.made w T (0, 0) [a, b, c, d] _ rfl hg) (by omega)

set_option maxHeartbeats 1000000 in
theorem RTwice_any (a b c : P) (w : World) :
    Calls Try.prog 12 #[.agg #[.int .i64 a.1, .int .i64 a.2], .agg #[.int .i64 b.1, .int .i64 b.2], .agg #[.int .i64 c.1, .int .i64 c.2]] w fun e w' => e = .returned (.int .i64 (tw a b c)) ∧ Bl w w' := by
  have n1 := fun w' T g hg => RNear3 a b c w' T g hg
  by_cases hn : Nrs [a, b, c]
  · have h3 := nrs3.1 hn
    have c1 := hid (fun w' => RCross_any a b a c w' h3.1 h3.2.1 h3.1 h3.2.2)
    have fin := hid (show tw a b c = crs a b a c by unfold tw; rw [if_pos hn])
    rw [decide_eq_true hn] at n1
    have N1 := hid n1
    clear n1 hn h3
    generalize tw a b c = X at *
    generalize crs a b a c = Y at *
    obtain ⟨a1, a2⟩ := a
    obtain ⟨b1, b2⟩ := b
    obtain ⟨c1', c2'⟩ := c
    simp only at N1 c1
    go_enter Try.func12, Try.ntmps12
    go_wp2_with fail
    refine (N1.out _ _ _ (by simp)).mono ?_
    rintro e w1 ⟨rfl, rfl⟩
    go_wp2_with fail
    refine (c1.out _).mono ?_
    rintro e w2 ⟨rfl, hb⟩
    go_wp2_with fail
    go_ret
    exact ⟨ret1 (by rw [fin.out]), Bl.trans ((((Bl.refl w).alloc _).alloc _).alloc _ |>.alloc _) hb⟩
  · have fin := hid (show tw a b c = 0 by unfold tw; rw [if_neg hn])
    rw [decide_eq_false hn] at n1
    have N1 := hid n1
    clear n1 hn
    generalize tw a b c = X at *
    obtain ⟨a1, a2⟩ := a
    obtain ⟨b1, b2⟩ := b
    obtain ⟨c1', c2'⟩ := c
    simp only at N1
    go_enter Try.func12, Try.ntmps12
    go_wp2_with fail
    refine (N1.out _ _ _ (by simp)).mono ?_
    rintro e w1 ⟨rfl, rfl⟩
    go_wp2_with fail
    go_ret
    exact ⟨ret1 (by rw [fin.out]), ((((Bl.refl w).alloc _).alloc _).alloc _).alloc _⟩
end Go.Proofs.Ytjdkgndecnhokaa.Geom
