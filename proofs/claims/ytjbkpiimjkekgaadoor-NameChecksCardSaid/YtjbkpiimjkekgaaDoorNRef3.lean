/- Contracts of the reference of name: Check. -/
import Derived.Test.YtjbkpiimjkekgaaDoorNRef2
namespace Go.Proofs.YtjbkpiimjkekgaaDoor.Name
open Go.RowKit
open Go.Proofs.YtjbkpiimjkekgaaDoor.Wire
open Go.Proofs.YtjbkpiimjkekgaaDoor.Glyph
set_option linter.unusedVariables false

theorem chk_nil : chk [] = 14 := by unfold chk; rw [if_pos rfl]
theorem chk_long {S : List Int} (h : 40 < S.length) : chk S = 3 := by
  unfold chk
  rw [if_neg (by intro e; rw [e] at h; simp at h), if_pos h]
theorem chk_none {S : List Int} (h : S ≠ []) (h1 : S.length ≤ 40) (h2 : dec S = none) : chk S = 4 := by
  unfold chk
  rw [if_neg h, if_neg (by omega), h2]
theorem chk_bad {S l : List Int} (h : S ≠ []) (h1 : S.length ≤ 40) (h2 : dec S = some l) (h3 : blk l = true ∨ com l = true) : chk S = 14 := by
  unfold chk
  rw [if_neg h, if_neg (by omega), h2]
  simp only
  rw [if_pos (.inr h3)]
theorem dec_ne {S l : List Int} (h : S ≠ []) (h2 : dec S = some l) : l ≠ [] := by
  rintro rfl
  exact h (dec_iff.1 h2).2.symm
theorem chk_good {S l : List Int} (h : S ≠ []) (h1 : S.length ≤ 40) (h2 : dec S = some l) (h3 : blk l = false) (h4 : com l = false) : chk S = 0 :=
  chk_ok.2 ⟨h, h1, l, h2, dec_ne h h2, h3, h4⟩

theorem dec_some_out {s : ByteArray} {l : List Int} (h : dec (sb s) = some l) : decL s = l ∧ decE s = 0 := by
  unfold decL decE; rw [h]; exact ⟨rfl, rfl⟩
theorem dec_none_out {s : ByteArray} (h : dec (sb s) = none) : decL s = [] ∧ decE s = 4 := by
  unfold decL decE; rw [h]; exact ⟨rfl, rfl⟩

theorem str_ne {s : ByteArray} (h : ¬ s.size = 0) : (s.toList == []) = false := by
  refine beq_eq_false_iff_ne.2 fun e => h ?_
  rw [ByteArray.toList_eq] at e
  have : s.data.toList.length = 0 := by rw [e]; rfl
  rw [Array.length_toList] at this
  exact this
set_option maxHeartbeats 1000000 in
theorem RCheck_any (s : ByteArray) (w : World) (hm : s.size ≤ 1099511627776) :
    Calls Tryd.prog 15 #[.string s] w fun e w' => e = .returned (.int .i64 (chk (sb s))) ∧ Bl w w' := by
  by_cases h0 : s.size = 0
  · have e0 : sb s = [] := List.eq_nil_of_length_eq_zero (by rw [sb_len]; exact h0)
    obtain rfl := sb_nil s e0
    have fin := hid (show chk (sb ⟨#[]⟩) = 14 from chk_nil)
    generalize chk (sb ⟨#[]⟩) = X at *
    go_enter Tryd.func15, Tryd.ntmps15
    go_wp2_with fail
    go_ret
    exact ⟨ret1 fin.out.symm, Bl.refl _⟩
  have hS : sb s ≠ [] := fun e => h0 (by rw [← sb_len, e]; rfl)
  have te := str_ne h0
  by_cases h1 : 40 < s.size
  · have fin := hid (chk_long (S := sb s) (by rw [sb_len]; exact h1))
    have i1 : (40 : Int) < (s.size : Int) := by omega
    generalize chk (sb s) = X at *
    go_enter Tryd.func15, Tryd.ntmps15
    go_wp2_with fail
    go_ret
    exact ⟨ret1 fin.out.symm, Bl.refl _⟩
  have i1 : ¬ (40 : Int) < (s.size : Int) := by omega
  have hl40 : (sb s).length ≤ 40 := by rw [sb_len]; omega
  have c1 := RDecode_any s w hm
  unfold DecOut at c1
  cases hd : dec (sb s) with
  | none =>
    have fin := hid (chk_none hS hl40 hd)
    rw [(dec_none_out hd).1, (dec_none_out hd).2] at c1
    have C1 := hid c1
    have HS := hid hS
    clear c1 hd hS hl40
    generalize chk (sb s) = X at *
    go_enter Tryd.func15, Tryd.ntmps15
    go_wp2_with fail
    refine C1.out.mono ?_
    rintro e w1 ⟨A1, k1, rfl, hs1, hc1, hb1⟩
    go_wp2_with fail
    go_ret
    exact ⟨ret1 fin.out.symm, hb1⟩
  | some l =>
    rw [(dec_some_out hd).1, (dec_some_out hd).2] at c1
    have hlne := dec_ne hS hd
    have hl0 : 0 < l.length := List.length_pos_iff.2 hlne
    have hl1 : l.length ≤ 40 := by have := dec_byts hd; omega
    have f1 := hid (fun h : blk l = true => chk_bad hS hl40 hd (.inl h))
    have f2 := hid (fun h : com l = true => chk_bad hS hl40 hd (.inr h))
    have f3 := hid (fun (h : blk l = false) (g : com l = false) => chk_good hS hl40 hd h g)
    have C1 := hid c1
    have HS := hid hS
    have HD := hid hd
    clear c1 hd hS hl40 hlne
    generalize chk (sb s) = X at *
    obtain ⟨n, hn⟩ : ∃ n, n = l.length := ⟨_, rfl⟩
    rw [← hn] at hl0 hl1 C1
    have HN := hid hn
    clear hn
    have tn : ((n : Int) == 0) = false := beq_eq_false_iff_ne.2 (by omega)
    go_enter Tryd.func15, Tryd.ntmps15
    go_wp2_with fail
    refine C1.out.mono ?_
    rintro e w1 ⟨A1, k1, rfl, hs1, hc1, hb1⟩
    have c2 := RBlanks_any A1 n k1 l w1 _ hs1 hl0 (by omega)
    have c3 := RCommon_any A1 n k1 l w1 _ hs1 (by omega)
    cases hbl : blk l
    · rw [hbl] at c2
      cases hco : com l
      · rw [hco] at c3
        have fin := hid (f3.out hbl hco)
        have C2 := hid c2
        have C3 := hid c3
        clear c2 c3 f1 f2 f3 hbl hco
        go_wp2_with fail
        refine C2.out.mono ?_
        rintro e w' ⟨rfl, rfl⟩
        go_wp2_with fail
        refine C3.out.mono ?_
        rintro e w' ⟨rfl, rfl⟩
        go_wp2_with fail
        go_ret
        exact ⟨ret1 fin.out.symm, hb1⟩
      · rw [hco] at c3
        have fin := hid (f2.out hco)
        have C2 := hid c2
        have C3 := hid c3
        clear c2 c3 f1 f2 f3 hbl hco
        go_wp2_with fail
        refine C2.out.mono ?_
        rintro e w' ⟨rfl, rfl⟩
        go_wp2_with fail
        refine C3.out.mono ?_
        rintro e w' ⟨rfl, rfl⟩
        go_wp2_with fail
        go_ret
        exact ⟨ret1 fin.out.symm, hb1⟩
    · rw [hbl] at c2
      have fin := hid (f1.out hbl)
      have C2 := hid c2
      clear c2 c3 f1 f2 f3 hbl
      go_wp2_with fail
      refine C2.out.mono ?_
      rintro e w' ⟨rfl, rfl⟩
      go_wp2_with fail
      go_ret
      exact ⟨ret1 fin.out.symm, hb1⟩
end Go.Proofs.YtjbkpiimjkekgaaDoor.Name
