/- The library's Trim and Contains at blanks, and what they say of the code points of a string. -/
import Derived.Test.YtjbkpiimjkekgaaDoorNTab
import Derived.Test.YtjbkpiimjkekgaaDoorNLib
import Derived.Test.YtjbkpiimjkekgaaDoorYDec
namespace Go.Proofs.YtjbkpiimjkekgaaDoor.Name
open Go.RowKit
open Go.Proofs.YtjbkpiimjkekgaaDoor.Wire
open Go.Proofs.YtjbkpiimjkekgaaDoor.Glyph
set_option linter.unusedVariables false
set_option linter.unusedSimpArgs false

/-! code points and their bytes: blanks -/
theorem un_head {r : Int} (h : 0 ≤ r) (h1 : r ≤ 65535) (t : List Int) : (un r ++ t).getD 0 0 = 32 ↔ r = 32 := by
  by_cases h2 : r < 128
  · rw [un_1 h2]; rfl
  · by_cases h3 : r < 2048
    · rw [un_2 h2 h3]
      show 192 + r / 64 = 32 ↔ r = 32
      omega
    · rw [un_3 h2 h3]
      show 224 + r / 4096 = 32 ↔ r = 32
      omega
theorem un_last {r : Int} (h : 0 ≤ r) (h1 : r ≤ 65535) : (un r).getLast? = some 32 ↔ r = 32 := by
  by_cases h2 : r < 128
  · rw [un_1 h2]; simp
  · by_cases h3 : r < 2048
    · rw [un_2 h2 h3]
      simp only [List.getLast?_cons_cons, List.getLast?_singleton, Option.some.injEq]
      omega
    · rw [un_3 h2 h3]
      simp only [List.getLast?_cons_cons, List.getLast?_singleton, Option.some.injEq]
      omega
theorem twice_ne {a : Int} (h : a ≠ 32) : ∀ l, twice (a :: l) = twice l
  | [] => rfl
  | b :: l => by simp [twice, h]
theorem twice_eq : ∀ l : List Int, twice (32 :: l) = (decide (l.getD 0 0 = 32) || twice l)
  | [] => rfl
  | b :: l => by simp [twice]
theorem enc_head : ∀ {l : List Int}, okl l → ((enc l).getD 0 0 = 32 ↔ l.getD 0 0 = 32)
  | [], _ => Iff.rfl
  | r :: l, h => by
    have hr := scr_range (okl_cons.1 h).1
    rw [enc_cons, un_head (by omega) (by omega)]
    rfl
theorem enc_twice : ∀ {l : List Int}, okl l → twice (enc l) = twice l
  | [], _ => rfl
  | r :: l, h => by
    have hr := scr_range (okl_cons.1 h).1
    have hl := (okl_cons.1 h).2
    have ih := enc_twice hl
    rw [enc_cons]
    by_cases h2 : r < 128
    · rw [un_1 h2]
      show twice (r :: enc l) = _
      by_cases h3 : r = 32
      · subst h3
        rw [twice_eq, twice_eq, ih]
        congr 1
        exact decide_eq_decide.2 (enc_head hl)
      · rw [twice_ne h3, twice_ne h3, ih]
    · rw [twice_ne (l := l) (by omega)]
      by_cases h3 : r < 2048
      · rw [un_2 h2 h3]
        show twice ((192 + r / 64) :: (128 + r % 64) :: enc l) = _
        rw [twice_ne (by omega), twice_ne (by omega), ih]
      · rw [un_3 h2 h3]
        show twice ((224 + r / 4096) :: (128 + r / 64 % 64) :: (128 + r % 64) :: enc l) = _
        rw [twice_ne (by omega), twice_ne (by omega), twice_ne (by omega), ih]
theorem last_iff (l : List Int) : l.getD (l.length - 1) 0 = 32 ↔ l.getLast? = some 32 := by
  rw [List.getLast?_eq_getElem?, List.getD]
  cases h : l[l.length - 1]? with
  | none => simp
  | some x => simp
theorem enc_last {l : List Int} (h : okl l) : (enc l).getD ((enc l).length - 1) 0 = 32 ↔ l.getD (l.length - 1) 0 = 32 := by
  rw [last_iff, last_iff]
  rcases List.eq_nil_or_concat l with rfl | ⟨m, r, rfl⟩
  · exact Iff.rfl
  · rw [List.concat_eq_append] at h ⊢
    have hr := scr_range ((okl_cons.1 (okl_app.1 h).2).1)
    have hne := (un_len r).1
    rw [enc_app, enc_one, List.getLast?_append, List.getLast?_append]
    have e1 := un_last (r := r) (by omega) (by omega)
    cases hx : (un r).getLast? with
    | none =>
      rw [List.getLast?_eq_none_iff] at hx
      rw [hx] at hne
      simp at hne
    | some x =>
      rw [hx] at e1
      simp only [Option.or_some, Option.some.injEq, List.getLast?_singleton] at e1 ⊢
      simpa using e1
theorem enc_blk {l : List Int} (h : okl l) : blk (enc l) = blk l := by
  unfold blk
  rw [enc_twice h]
  congr 1
  congr 1
  · exact decide_eq_decide.2 (enc_head h)
  · exact decide_eq_decide.2 (enc_last h)

/-! the library's answers -/
theorem dwl (p : UInt8 → Bool) (l : List UInt8) : (l.dropWhile p).length ≤ l.length := (List.dropWhile_sublist p).length_le
theorem dw_eq {p : UInt8 → Bool} {l : List UInt8} (h : (l.dropWhile p).length = l.length) : ∀ b, l.head? = some b → p b = false := by
  intro b hb
  cases l with
  | nil => simp at hb
  | cons a l =>
    obtain rfl : a = b := by simpa using hb
    cases hp : p a with
    | false => rfl
    | true =>
      rw [List.dropWhile_cons_of_pos hp] at h
      have := dwl p l
      rw [List.length_cons] at h
      omega
theorem trim_ends (l : List UInt8) (c : UInt8) : Lib.trimB l c = l ↔ l.head? ≠ some c ∧ l.getLast? ≠ some c := by
  have d1 : ∀ m : List UInt8, (m.dropWhile (· == c)).length ≤ m.length := fun m => dwl _ m
  constructor
  · intro h
    have hr : (Lib.trimRightB l c).length ≤ l.length := by
      have := d1 l.reverse
      unfold Lib.trimRightB
      simpa using this
    have hlen := congrArg List.length h
    have hle : (Lib.trimB l c).length ≤ (Lib.trimRightB l c).length := d1 _
    have e2 : (l.reverse.dropWhile (· == c)).length = l.reverse.length := by
      have : (Lib.trimRightB l c).length = l.length := by omega
      unfold Lib.trimRightB at this
      simpa using this
    have hne := dw_eq e2
    have e3 : Lib.trimRightB l c = l := by
      unfold Lib.trimRightB
      have : l.reverse.dropWhile (· == c) = l.reverse := (List.dropWhile_suffix _).eq_of_length e2
      rw [this, List.reverse_reverse]
    have e4 : (l.dropWhile (· == c)).length = l.length := by
      unfold Lib.trimB at hlen
      rw [e3] at hlen
      exact hlen
    refine ⟨fun g => ?_, fun g => ?_⟩
    · have := dw_eq e4 c g
      simp at this
    · rw [← List.head?_reverse] at g
      have := hne c g
      simp at this
  · rintro ⟨h1, h2⟩
    have e1 : Lib.trimRightB l c = l := by
      rw [Lib.trimRightB_take l c l.length (Nat.le_refl _) (fun j b hj hb => by rw [List.getElem?_eq_none hj] at hb; cases hb) (fun b h0 hb => ?_), List.take_length]
      rintro rfl
      rw [List.getLast?_eq_getElem?] at h2
      exact h2 hb
    unfold Lib.trimB
    rw [e1, Lib.trimLeftB_drop l c 0 (Nat.zero_le _) (fun j b hj _ => absurd hj (Nat.not_lt_zero _)) (fun b hb => ?_), List.drop_zero]
    rintro rfl
    rw [← List.head?_eq_getElem?] at hb
    exact h1 hb
def nums (l : List UInt8) : List Int := l.map fun b => (b.toNat : Int)
theorem byte_eq (b : UInt8) : ((b.toNat : Int) = 32) ↔ b = 32 := by
  rw [← UInt8.toNat_inj]
  show (b.toNat : Int) = 32 ↔ b.toNat = 32
  omega
theorem nums_getD (l : List UInt8) (i : Nat) : (nums l).getD i 0 = 32 ↔ l[i]? = some 32 := by
  unfold nums List.getD
  rw [List.getElem?_map]
  cases h : l[i]? with
  | none => simp
  | some b =>
    simp only [Option.map_some, Option.getD_some, Option.some.injEq]
    exact byte_eq b
theorem occ_two (l : List UInt8) (j : Nat) : Lib.occAt l [32, 32] j = true ↔ l[j]? = some 32 ∧ l[j + 1]? = some 32 := by
  unfold Lib.occAt
  have e1 : l[j]? = (l.drop j)[0]? := by rw [List.getElem?_drop]; rfl
  have e2 : l[j + 1]? = (l.drop j)[1]? := by rw [List.getElem?_drop]
  rw [e1, e2]
  generalize l.drop j = m
  cases m with
  | nil => simp [List.isPrefixOf]
  | cons a m =>
    cases m with
    | nil => simp [List.isPrefixOf]
    | cons b m =>
      simp only [List.isPrefixOf, Bool.and_true, Bool.and_eq_true, beq_iff_eq, List.getElem?_cons_zero, List.getElem?_cons_succ, Option.some.injEq]
      exact ⟨fun h => ⟨h.1.symm, h.2.symm⟩, fun h => ⟨h.1.symm, h.2.symm⟩⟩
theorem contains_two (l : List UInt8) : Lib.contains l [32, 32] = twice (nums l) := by
  have key : Lib.contains l [32, 32] = true ↔ twice (nums l) = true := by
    rw [twice_iff]
    unfold Lib.contains
    rw [decide_eq_true_eq]
    rcases Lib.index_spec l [32, 32] with ⟨h, hn⟩ | ⟨i, h, hi, ho, _⟩
    · constructor
      · intro g; rw [h] at g; exact absurd g (by decide)
      · rintro ⟨i, hi, g1, g2⟩
        have hi' : i + 1 < l.length := by simpa [nums] using hi
        have := hn i (by omega)
        rw [(occ_two l i).2 ⟨(nums_getD l i).1 g1, (nums_getD l (i + 1)).1 g2⟩] at this
        cases this
    · constructor
      · intro _
        obtain ⟨g1, g2⟩ := (occ_two l i).1 ho
        have h2 : i + 1 < l.length := (List.getElem?_eq_some_iff.1 g2).1
        exact ⟨i, by simpa [nums] using h2, (nums_getD l i).2 g1, (nums_getD l (i + 1)).2 g2⟩
      · intro _
        rw [h]; exact Int.natCast_nonneg i
  exact Bool.eq_iff_iff.2 key
theorem trim_two (l : List UInt8) : blk (nums l) = true ↔ Lib.trimB l 32 ≠ l ∨ Lib.contains l [32, 32] = true := by
  rw [contains_two, ne_eq, trim_ends]
  unfold blk
  rw [Bool.or_eq_true, Bool.or_eq_true, decide_eq_true_eq, decide_eq_true_eq, nums_getD]
  have e0 : (nums l).length = l.length := by unfold nums; rw [List.length_map]
  rw [e0, nums_getD, ← List.getLast?_eq_getElem?, ← List.head?_eq_getElem?]
  by_cases h1 : l.head? = some 32 <;> by_cases h2 : l.getLast? = some 32 <;> simp [h1, h2]

/-! the calls -/
theorem Trim_any (s : ByteArray) (w : World) (hm : s.size ≤ 1099511627776) :
    Calls Tryd.prog 41 #[.string s, .string ⟨#[32]⟩] w fun e w' => e = .returned (.string ⟨(Lib.trimB s.data.toList 32).toArray⟩) ∧ Q w w' := by
  refine (Tryd.strings_Trim_one s 32 (by decide) w (by omega)).mono ?_
  rintro e w' ⟨rfl, h⟩
  refine ⟨rfl, ?_⟩
  rcases h with rfl | rfl
  · exact Q.refl _
  · exact (Q.refl w).drewN 1
theorem Contains2_any (s : ByteArray) (w : World) (hm : s.size ≤ 1099511627) (hT : NT w) :
    Calls Tryd.prog 42 #[.string s, .string ⟨#[32, 32]⟩] w fun e w' => e = .returned (.bool (Lib.contains s.data.toList [32, 32])) ∧ w = w' := by
  obtain ⟨m, h⟩ := hT.mx
  refine (Tryd.strings_Contains s ⟨#[32, 32]⟩ m w (by omega) h).mono ?_
  rintro e w' ⟨rfl, rfl⟩
  exact ⟨rfl, rfl⟩
end Go.Proofs.YtjbkpiimjkekgaaDoor.Name
