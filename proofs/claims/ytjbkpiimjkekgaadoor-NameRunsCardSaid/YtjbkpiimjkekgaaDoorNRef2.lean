/- Contracts of the reference of name: numbers, bytes. -/
import Derived.Test.YtjbkpiimjkekgaaDoorNRef
namespace Go.Proofs.YtjbkpiimjkekgaaDoor.Name
open Go.RowKit
open Go.Proofs.YtjbkpiimjkekgaaDoor.Wire
open Go.Proofs.YtjbkpiimjkekgaaDoor.Glyph
set_option linter.unusedVariables false

theorem num_drop {s t : List Int} : ∀ k, s.take k = t.take k → k ≤ s.length → k ≤ t.length → num s t = num (s.drop k) (t.drop k) := by
  intro k
  induction k generalizing s t with
  | zero => intro _ _ _; rfl
  | succ k ih =>
    intro h h1 h2
    cases s with
    | nil => simp at h1
    | cons a s =>
      cases t with
      | nil => simp at h2
      | cons b t =>
        simp only [List.take_succ_cons, List.cons.injEq] at h
        obtain ⟨rfl, h⟩ := h
        simp only [num, List.drop_succ_cons]
        rw [if_neg (by omega), if_neg (by omega)]
        exact ih h (by simpa using h1) (by simpa using h2)
theorem num_lt {s t : List Int} {k : Nat} (h : s.take k = t.take k) (h1 : k < s.length) (h2 : k < t.length) (h3 : s.getD k 0 < t.getD k 0) : num s t = -1 := by
  rw [num_drop k h (by omega) (by omega), drop_at h1, drop_at h2]
  simp only [num]; rw [if_pos h3]
theorem num_gt {s t : List Int} {k : Nat} (h : s.take k = t.take k) (h1 : k < s.length) (h2 : k < t.length) (h3 : t.getD k 0 < s.getD k 0) : num s t = 1 := by
  rw [num_drop k h (by omega) (by omega), drop_at h1, drop_at h2]
  simp only [num]; rw [if_neg (by omega), if_pos h3]
theorem num_len {s t : List Int} {k : Nat} (h : s.take k = t.take k) (h1 : k ≤ s.length) (h2 : k ≤ t.length) (h3 : k = s.length ∨ k = t.length) :
    num s t = if s.length < t.length then -1 else if t.length < s.length then 1 else 0 := by
  rw [num_drop k h h1 h2]
  rcases h3 with rfl | rfl
  · rw [List.drop_length]
    cases ht : t.drop s.length with
    | nil =>
      have : t.length ≤ s.length := by have := congrArg List.length ht; rw [List.length_drop, List.length_nil] at this; omega
      rw [if_neg (by omega), if_neg (by omega)]; rfl
    | cons b u =>
      have : s.length < t.length := by have := congrArg List.length ht; rw [List.length_drop, List.length_cons] at this; omega
      rw [if_pos this]; rfl
  · rw [List.drop_length]
    cases ht : s.drop t.length with
    | nil =>
      have : s.length ≤ t.length := by have := congrArg List.length ht; rw [List.length_drop, List.length_nil] at this; omega
      rw [if_neg (by omega), if_neg (by omega)]; rfl
    | cons b u =>
      have : t.length < s.length := by have := congrArg List.length ht; rw [List.length_drop, List.length_cons] at this; omega
      rw [if_neg (by omega), if_pos this]; rfl

set_option maxHeartbeats 1000000 in
theorem RNumbers_any (A : Option Addr) (n c : Nat) (xs : List Int) (A1 : Option Addr) (n1 c1 : Nat) (ys : List Int) (w : World) (B B1 : Nat) (hS : Sh w B .i64 A n xs) (hS1 : Sh w B1 .i64 A1 n1 ys) (hm : n ≤ 1099511627776) (hm1 : n1 ≤ 1099511627776) :
    Calls Tryd.prog 34 #[.slice A n c, .slice A1 n1 c1] w fun e w' => e = .returned (.int .i64 (num xs ys)) ∧ Q w w' := by
  have hl := hid hS.len
  have hl1 := hid hS1.len
  go_enter Tryd.func34, Tryd.ntmps34
  go_wp2_with fail
  go_loopw [5] (fun i wr => ∃ (k : Nat), i = .int .i64 k ∧ k ≤ n ∧ k ≤ n1 ∧ Hid (xs.take k = ys.take k) ∧ Q w wr) (fun i _ => n - (intOf i).toNat)
  case atStart => exact ⟨0, rfl, by omega, by omega, hid rfl, Q.refl _⟩
  case round =>
    obtain ⟨k, rfl, hk, hk1, hp, hq⟩ := hrel
    by_cases hlt : k < n
    · by_cases hlt1 : k < n1
      · obtain ⟨b, o, rfl, _, hcell⟩ := (hS.below (hq.below B)).2 (by omega)
        obtain ⟨b', o', rfl, _, hcell'⟩ := (hS1.below (hq.below B1)).2 (by omega)
        have hc1 := hcell k hlt
        have hc2 := hcell' k hlt1
        have sn := hid (take_snoc (l := xs) (i := k) (by rw [hl.out]; omega))
        have sn' := hid (take_snoc (l := ys) (i := k) (by rw [hl1.out]; omega))
        have f1 := hid (fun (h : xs.getD k 0 < ys.getD k 0) => num_lt hp.out (by rw [hl.out]; omega) (by rw [hl1.out]; omega) h)
        have f2 := hid (fun (h : ys.getD k 0 < xs.getD k 0) => num_gt hp.out (by rw [hl.out]; omega) (by rw [hl1.out]; omega) h)
        clear hcell hcell'
        generalize xs.getD k 0 = x at *
        generalize ys.getD k 0 = y at *
        by_cases h1 : x < y
        · have fin := hid (f1.out h1)
          clear f1 f2
          go_wp2_with fail
          go_quiet (fail)
          go_wp2_with fail
          go_ret
          exact ⟨ret1 fin.out.symm, hq.drewN _⟩
        · by_cases h2 : y < x
          · have fin := hid (f2.out h2)
            clear f1 f2
            have d1 : y ≤ x := by omega
            go_wp2_with fail
            go_quiet (fail)
            go_wp2_with fail
            go_quiet (fail)
            go_wp2_with fail
            go_ret
            exact ⟨ret1 fin.out.symm, (hq.drewN _).drewN _⟩
          · obtain rfl : x = y := by omega
            have ht := hid (show xs.take (k + 1) = ys.take (k + 1) by rw [sn.out, sn'.out, hp.out])
            clear f1 f2 sn sn'
            go_wp2_with fail
            go_quiet (fail)
            go_wp2_with fail
            go_quiet (fail)
            go_wp2_with fail
            go_roundw
            case rel => exact ⟨k + 1, by go_num, by omega, by omega, ht, hq.drewN _⟩
            case measure => simp [intOf]; omega
      · obtain rfl : n1 = k := by omega
        have fin := hid (num_len hp.out (by rw [hl.out]; exact hk) (by rw [hl1.out]; exact Nat.le_refl _) (.inr hl1.out.symm))
        rw [hl.out, hl1.out, if_neg (by omega), if_pos hlt] at fin
        go_wp2_with fail
        go_ret
        exact ⟨ret1 fin.out.symm, hq⟩
    · obtain rfl : n = k := by omega
      have fin := hid (num_len hp.out (by rw [hl.out]; exact Nat.le_refl _) (by rw [hl1.out]; exact hk1) (.inl hl.out.symm))
      rw [hl.out, hl1.out] at fin
      by_cases hlt1 : n < n1
      · rw [if_pos hlt1] at fin
        go_wp2_with fail
        go_ret
        exact ⟨ret1 fin.out.symm, hq⟩
      · obtain rfl : n1 = n := by omega
        rw [if_neg (by omega), if_neg (by omega)] at fin
        go_wp2_with fail
        go_ret
        exact ⟨ret1 fin.out.symm, hq⟩

set_option maxHeartbeats 1000000 in
theorem RBytes_any (s : ByteArray) (w : World) (hm : s.size ≤ 1099511627776) :
    Calls Tryd.prog 35 #[.string s] w (Out2 w .i64 (sb s)) := by
  go_enter Tryd.func35, Tryd.ntmps35
  go_wp2_with fail
  go_loopw [3, 4] (fun l i wr => ∃ (A' : Option Addr) (c' k : Nat), l = .slice A' k c' ∧ i = .int .i64 k ∧ k ≤ s.size ∧ Ow wr w.heap.size 3 .i64 A' k c' ((sb s).take k) ∧ Bl w wr) (fun _ i _ => s.size - (intOf i).toNat)
  case atStart => exact ⟨some ⟨w.heap.size, 0, none⟩, 0, 0, rfl, rfl, by omega, Ow.new _ _ _, (Bl.refl w).alloc _⟩
  case round =>
    obtain ⟨A', c', k, rfl, rfl, hk, ho, hb⟩ := hrel
    by_cases hlt : k < s.size
    · have hg := hid (sb_get hlt)
      have hsn := hid (take_snoc (l := sb s) (i := k) (by rw [sb_len]; omega))
      have b1 : ((s[k]'hlt).toNat : Int) < 256 := by have := (s[k]'hlt).toNat_lt; omega
      have hW := hb.size
      rw [hg.out] at hsn
      clear hg
      go_wp2_with (at_builtin; refine wpList_app_own _ rfl (.tmp 12) (.tmp 17) _ rfl elI rfl (ho.alloc _) rfl (Sh.one _ _ _ _) (by omega) (by omega) (by simp; omega) ?_; intro A2 c2 w2 ho2 hb2)
      go_roundw
      case rel => exact ⟨A2, c2, k + 1, rfl, by go_num, by omega, by rw [hsn.out]; exact ho2, Below.trans (hb.alloc _) hb2⟩
      case measure => simp [intOf]; omega
    · obtain rfl : s.size = k := by omega
      go_wp2_with fail
      go_ret
      rw [take_all (by rw [sb_len]; omega)] at ho
      exact ho.out hb
end Go.Proofs.YtjbkpiimjkekgaaDoor.Name
