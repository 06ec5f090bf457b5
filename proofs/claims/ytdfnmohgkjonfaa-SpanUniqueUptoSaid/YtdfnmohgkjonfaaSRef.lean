/- Contracts of the reference of span: Has, wanted, with, bounds. -/
import Derived.Test.YtdfnmohgkjonfaaGPair
import Derived.Test.YtdfnmohgkjonfaaSPlain
import Derived.Deep.RegionHeld3
namespace Go.Proofs.Ytdfnmohgkjonfaa.Span
open Go.RowKit
open Go.Proofs.Ytdfnmohgkjonfaa.Wire
open Go.Proofs.Ytdfnmohgkjonfaa.Idset
set_option linter.unusedVariables false

theorem elI : El Try.prog 44 3 .i64 8 := ⟨Try.underlying44, info_parts (by kernel_rfl)⟩
theorem elR : ElP Try.prog 22 34 := ⟨Try.underlying22, info_parts (by kernel_rfl)⟩
theorem take_snocP {l : List Pr} {i : Nat} (h : i < l.length) : l.take (i + 1) = l.take i ++ [l.getD i (0, 0)] := by
  rw [List.take_succ_eq_append_getElem h]
  simp [List.getD, List.getElem?_eq_getElem h]
theorem take_allP {l : List Pr} {n : Nat} (h : l.length ≤ n) : l.take n = l := List.take_of_length_le h
theorem inb_snoc (l : List Pr) (p : Pr) (n : Int) : inb (l ++ [p]) n = (inb l n || (decide (p.1 ≤ n) && decide (n < p.2))) := by rw [inb_app]; simp [inb]

set_option maxHeartbeats 600000 in
theorem RHas_any (A : Option Addr) (n c : Nat) (ps : List Pr) (N : Int) (w : World) (B : Nat) (hS : ShP w B A n ps) (hm : n ≤ 8796093022208) :
    Calls Try.prog 19 #[.slice A n c, .int .i64 N] w fun e w' => e = .returned (.bool (inb ps N)) ∧ w = w' := by
  have hl := hid hS.len
  go_enter Try.func19, Try.ntmps19
  go_wp2_with fail
  go_loop [5] (fun i => ∃ (k : Nat), i = .int .i64 k ∧ k ≤ n ∧ Hid (inb (ps.take k) N = false)) (fun i => n - (intOf i).toNat)
  case atStart => exact ⟨0, rfl, by omega, hid rfl⟩
  case round =>
    obtain ⟨k, rfl, hk, hn⟩ := hrel
    by_cases hlt : k < n
    · obtain ⟨b, o, rfl, _, hcell⟩ := hS.2 (by omega)
      have hc1 := (hcell k hlt).1
      have hc2 := (hcell k hlt).2
      have hsn := hid (take_snocP (l := ps) (i := k) (by rw [hl.out]; omega))
      have hall := hid (show inb ps N = (inb (ps.take (k + 1)) N || inb (ps.drop (k + 1)) N) by rw [← inb_app, List.take_append_drop])
      clear hcell
      generalize ps.getD k (0, 0) = p at *
      obtain ⟨x, y⟩ := p
      simp only at hc1 hc2
      have hs := hid (inb_snoc (ps.take k) (x, y) N)
      by_cases hx : x ≤ N ∧ N < y
      · obtain ⟨h1, h2⟩ := hx
        go_wp2_with fail
        go_ret
        exact ⟨retB (by rw [hall.out, hsn.out, hs.out]; simp [h1, h2]), rfl⟩
      · have fin : Hid (inb (ps.take (k + 1)) N = false) := hid (by
          rw [hsn.out, hs.out, hn.out]
          by_cases h1 : x ≤ N
          · have h2 : ¬ N < y := fun h => hx ⟨h1, h⟩
            simp [h2]
          · simp [h1])
        by_cases h1 : x ≤ N
        · have h2 : ¬ N < y := fun h => hx ⟨h1, h⟩
          have t1 : decide (N < y) = false := by simpa using h2
          clear hx
          go_wp2_with fail
          go_round
          case rel => exact ⟨k + 1, by go_num, by omega, fin⟩
          case measure => simp [intOf]; omega
        · have t1 : decide (x ≤ N) = false := by simpa using h1
          clear hx
          go_wp2_with fail
          go_round
          case rel => exact ⟨k + 1, by go_num, by omega, fin⟩
          case measure => simp [intOf]; omega
    · obtain rfl : k = n := by omega
      go_wp2_with fail
      go_ret
      have := hn.out
      rw [take_allP (by rw [hl.out]; omega)] at this
      exact ⟨retB this.symm, rfl⟩

set_option maxHeartbeats 800000 in
theorem wanted_any (A : Option Addr) (n c : Nat) (ps : List Pr) (A1 : Option Addr) (n1 c1 : Nat) (qs : List Pr) (N op : Int) (w : World) (B : Nat) (hS : ShP w B A n ps) (hS1 : ShP w B A1 n1 qs) (hm : n ≤ 8796093022208) (hm1 : n1 ≤ 8796093022208) :
    Calls Try.prog 39 #[.slice A n c, .slice A1 n1 c1, .int .i64 N, .int .i64 op] w fun e w' => e = .returned (.bool (wnt op (inb ps N) (inb qs N))) ∧ w = w' := by
  have r1 := RHas_any A n c ps N w B hS hm
  have r2 := RHas_any A1 n1 c1 qs N w B hS1 hm1
  cases h1 : inb ps N <;> cases h2 : inb qs N
  all_goals
    rw [h1] at r1
    rw [h2] at r2
    have R1 := hid r1
    have R2 := hid r2
    clear r1 r2 h1 h2
    by_cases o0 : op = 0
    · subst o0
      go_enter Try.func39, Try.ntmps39
      go_wp2_with fail
      refine R1.out.mono ?_
      rintro e w' ⟨rfl, rfl⟩
      go_wp2_with fail
      try (refine R2.out.mono ?_; rintro e w' ⟨rfl, rfl⟩; go_wp2_with fail)
      go_ret
      exact ⟨rfl, rfl⟩
    by_cases o1 : op = 1
    · subst o1
      go_enter Try.func39, Try.ntmps39
      go_wp2_with fail
      refine R1.out.mono ?_
      rintro e w' ⟨rfl, rfl⟩
      go_wp2_with fail
      try (refine R2.out.mono ?_; rintro e w' ⟨rfl, rfl⟩; go_wp2_with fail)
      go_ret
      exact ⟨rfl, rfl⟩
    · have t0 : (op == 0) = false := by simpa using o0
      have t1 : (op == 1) = false := by simpa using o1
      have fin : ∀ x y, Hid (wnt op x y = (x && !y)) := fun x y => hid (by unfold wnt; rw [if_neg o0, if_neg o1])
      go_enter Try.func39, Try.ntmps39
      go_wp2_with fail
      refine R1.out.mono ?_
      rintro e w' ⟨rfl, rfl⟩
      go_wp2_with fail
      try (refine R2.out.mono ?_; rintro e w' ⟨rfl, rfl⟩; go_wp2_with fail)
      go_ret
      exact ⟨retB (by rw [(fin _ _).out]; rfl), rfl⟩

theorem ins_snoc {l : List Int} {x n : Int} (h : asc (l ++ [x])) (hn : ∃ y ∈ l, n ≤ y) : ins n (l ++ [x]) = ins n l ++ [x] := by
  obtain ⟨a1, a2, a3⟩ := asc_app.1 h
  obtain ⟨y, hy, hny⟩ := hn
  have hyx := a3 y hy x (by simp)
  refine asc_ext (asc_ins _ _ h) (asc_app.2 ⟨asc_ins _ _ a1, a2, fun u hu v hv => ?_⟩) fun z => ?_
  · obtain rfl := List.mem_singleton.1 hv
    rcases (mem_ins n u l).1 hu with rfl | hu
    · omega
    · exact a3 u hu v (by simp)
  · rw [mem_ins, List.mem_append, List.mem_append, mem_ins, or_assoc]
theorem ins_lt {l : List Int} {x n : Int} (h : asc (l ++ [x])) (hl : ∀ y ∈ l, y < n) (hx : n < x) : ins n (l ++ [x]) = l ++ [n] ++ [x] := by
  obtain ⟨a1, a2, a3⟩ := asc_app.1 h
  refine asc_ext (asc_ins _ _ h) (asc_app.2 ⟨asc_app.2 ⟨a1, asc_cons.2 ⟨(fun y hy => by cases hy), asc_nil⟩, fun u hu v hv => ?_⟩, a2, fun u hu v hv => ?_⟩) fun z => ?_
  · obtain rfl := List.mem_singleton.1 hv; exact hl u hu
  · obtain rfl := List.mem_singleton.1 hv
    rcases List.mem_append.1 hu with hu | hu
    · exact a3 u hu v (by simp)
    · obtain rfl := List.mem_singleton.1 hu; exact hx
  · rw [mem_ins, List.mem_append, List.mem_append, List.mem_append, List.mem_singleton, List.mem_singleton]
    constructor
    · rintro (h | h | h)
      · exact .inl (.inr h)
      · exact .inl (.inl h)
      · exact .inr h
    · rintro ((h | h) | h)
      · exact .inr (.inl h)
      · exact .inl h
      · exact .inr (.inr h)
theorem ins_end {l : List Int} {n : Int} (h : asc l) (hl : ∀ y ∈ l, y < n) : ins n l = l ++ [n] := by
  refine asc_ext (asc_ins _ _ h) (asc_app.2 ⟨h, asc_cons.2 ⟨(fun y hy => by cases hy), asc_nil⟩, fun u hu v hv => ?_⟩) fun z => ?_
  · obtain rfl := List.mem_singleton.1 hv; exact hl u hu
  · rw [mem_ins, List.mem_append, List.mem_singleton]; exact Or.comm
theorem asc_take {l : List Int} (h : asc l) (k : Nat) : asc (l.take k) := by
  have : asc (l.take k ++ l.drop k) := by rw [List.take_append_drop]; exact h
  exact (asc_app.1 this).1

set_option maxHeartbeats 2000000 in
theorem with_any (A : Option Addr) (n c : Nat) (xs : List Int) (N : Int) (w : World) (hS : Sh w w.heap.size .i64 A n xs) (hm : n ≤ 1099511627776) (ha : asc xs) :
    Calls Try.prog 45 #[.slice A n c, .int .i64 N] w (OutN w .i64 (ins N xs).length (ins N xs)) := by
  have hl := hid hS.len
  have HA := hid ha
  clear ha
  go_enter Try.func45, Try.ntmps45
  go_wp2_with fail
  go_loopw [5, 6, 7] (fun b dn i wr => ∃ (A' : Option Addr) (m c' k : Nat) (d : Bool) (L : List Int), b = .slice A' m c' ∧ dn = .bool d ∧ i = .int .i64 k ∧ k ≤ n ∧ m ≤ k + 1 ∧ Hid (L = if d then ins N (xs.take k) else xs.take k) ∧
      Hid (d = false → ∀ x ∈ xs.take k, x < N) ∧ Hid (d = true → ∃ x ∈ xs.take k, N ≤ x) ∧ Ow wr w.heap.size 3 .i64 A' m c' L ∧ Bl w wr) (fun _ _ i _ => n - (intOf i).toNat)
  case atStart => exact ⟨none, 0, 0, 0, false, [], rfl, rfl, rfl, by omega, by omega, hid rfl, hid (fun _ x hx => by simp at hx), hid (fun h => by cases h), Ow.none_ _ _ _ _, Bl.refl _⟩
  case round =>
    obtain ⟨A', m, c', k, d, L, rfl, rfl, rfl, hk, hmk, hL, hlo, hhi, ho, hb⟩ := hrel
    have hsz := hb.size
    by_cases hlt : k < n
    · obtain ⟨b, o, rfl, hbB, hcell⟩ := hS.2 (by omega)
      have hcw := hid (hcell k hlt)
      have hc1 := (Below.cell hb (p := ⟨b, o + k, none⟩) hbB).trans hcw.out
      have hsn := hid (take_snoc (l := xs) (i := k) (by rw [hl.out]; omega))
      have hak := hid (asc_take HA.out (k + 1))
      clear hcell
      generalize xs.getD k 0 = x at *
      rw [hsn.out] at hak
      cases d
      · by_cases hx : N ≤ x
        · by_cases hx2 : N < x
          · go_wp2_with (first
              | (at_builtin; refine wpList_app_own _ rfl (.tmp 30) (.tmp 32) _ rfl elI rfl (ho.alloc _) rfl (Sh.one _ _ _ _) (by omega) (by omega) (by simp; omega) ?_; intro A2 c2 w2 ho2 hb2; have hB2 : Bl w w2 := Below.trans (hb.alloc _) hb2; have hz2 := hB2.size; have hc2 := (Below.cell hB2 (p := ⟨b, o + k, none⟩) hbB).trans hcw.out)
              | (at_builtin; refine wpList_app_own _ rfl (.tmp 34) (.tmp 39) _ rfl elI rfl (ho2.alloc _) rfl (Sh.one _ _ _ _) (by omega) (by omega) (by simp; omega) ?_; intro A3 c3 w3 ho3 hb3))
            go_roundw
            case rel => exact ⟨A3, m + 1 + 1, c3, k + 1, true, L ++ [N] ++ [x], rfl, rfl, by go_num, by omega, by have := ho.len; have := hlo.out rfl; have hlt2 := hL.out; simp only [Bool.false_eq_true, if_false] at hlt2; have h9 := congrArg List.length hlt2; rw [List.length_take] at h9; omega, hid (by have hlt2 := hL.out; simp only [Bool.false_eq_true, if_false] at hlt2; rw [if_pos rfl, hsn.out, ins_lt hak.out (hlo.out rfl) hx2, hlt2]), hid (fun h => by cases h), hid (fun _ => ⟨x, by rw [hsn.out]; simp, by omega⟩), ho3, Below.trans (hB2.alloc _) hb3⟩
            case measure => simp [intOf]; omega
          · obtain rfl : N = x := by omega
            go_wp2_with (at_builtin; refine wpList_app_own _ rfl (.tmp 34) (.tmp 39) _ rfl elI rfl (ho.alloc _) rfl (Sh.one _ _ _ _) (by omega) (by omega) (by simp; omega) ?_; intro A3 c3 w3 ho3 hb3)
            go_roundw
            case rel => exact ⟨A3, m + 1, c3, k + 1, true, L ++ [N], rfl, rfl, by go_num, by omega, by omega, hid (by have hlt2 := hL.out; simp only [Bool.false_eq_true, if_false] at hlt2; rw [if_pos rfl, hsn.out, hlt2]; exact (ins_has hak.out (by simp)).symm), hid (fun h => by cases h), hid (fun _ => ⟨N, by rw [hsn.out]; simp, Int.le_refl _⟩), ho3, Below.trans (hb.alloc _) hb3⟩
            case measure => simp [intOf]; omega
        · have t1 : decide (N ≤ x) = false := by simpa using hx
          go_wp2_with (at_builtin; refine wpList_app_own _ rfl (.tmp 34) (.tmp 39) _ rfl elI rfl (ho.alloc _) rfl (Sh.one _ _ _ _) (by omega) (by omega) (by simp; omega) ?_; intro A3 c3 w3 ho3 hb3)
          go_roundw
          case rel => exact ⟨A3, m + 1, c3, k + 1, false, L ++ [x], rfl, rfl, by go_num, by omega, by omega, hid (by have hlt2 := hL.out; simp only [Bool.false_eq_true, if_false] at hlt2 ⊢; rw [hsn.out, hlt2]), hid (fun _ y hy => by rw [hsn.out] at hy; rcases List.mem_append.1 hy with hy | hy; exact hlo.out rfl y hy; obtain rfl := List.mem_singleton.1 hy; omega), hid (fun h => by cases h), ho3, Below.trans (hb.alloc _) hb3⟩
          case measure => simp [intOf]; omega
      · go_wp2_with (at_builtin; refine wpList_app_own _ rfl (.tmp 34) (.tmp 39) _ rfl elI rfl (ho.alloc _) rfl (Sh.one _ _ _ _) (by omega) (by omega) (by simp; omega) ?_; intro A3 c3 w3 ho3 hb3)
        go_roundw
        case rel => exact ⟨A3, m + 1, c3, k + 1, true, L ++ [x], rfl, rfl, by go_num, by omega, by omega, hid (by have hlt2 := hL.out; rw [if_pos rfl] at hlt2; rw [if_pos rfl, hsn.out, hlt2, ins_snoc hak.out (hhi.out rfl)]), hid (fun h => by cases h), hid (fun _ => by obtain ⟨y, hy, hny⟩ := hhi.out rfl; exact ⟨y, by rw [hsn.out]; simp [hy], hny⟩), ho3, Below.trans (hb.alloc _) hb3⟩
        case measure => simp [intOf]; omega
    · obtain rfl : k = n := by omega
      cases d
      · go_wp2_with (at_builtin; refine wpList_app_own _ rfl (.tmp 43) (.tmp 45) _ rfl elI rfl (ho.alloc _) rfl (Sh.one _ _ _ _) (by omega) (by omega) (by simp; omega) ?_; intro A3 c3 w3 ho3 hb3)
        go_ret
        have h1 := hL.out
        have h2 := hlo.out (by trivial)
        simp only [Bool.false_eq_true, if_false] at h1
        rw [take_all (by rw [hl.out]; omega)] at h1 h2
        rw [h1, ← ins_end HA.out h2] at ho3
        exact (ho3.out (Below.trans (hb.alloc _) hb3)).at rfl
      · go_wp2_with fail
        go_ret
        have h1 := hL.out
        simp only [if_true] at h1
        rw [take_all (by rw [hl.out]; omega)] at h1
        rw [h1] at ho
        exact (ho.out hb).at rfl
end Go.Proofs.Ytdfnmohgkjonfaa.Span
