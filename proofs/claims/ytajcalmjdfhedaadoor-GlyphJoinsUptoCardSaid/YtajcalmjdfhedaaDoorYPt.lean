/- A list parted where two neighbours do not belong together: the order of code points by its runs; a run that is turned by its digits. No program. -/
import Derived.Test.YtajcalmjdfhedaaDoorYPlain2
namespace Go.Proofs.YtajcalmjdfhedaaDoor.Glyph
set_option linter.unusedVariables false

/-- from 0 to s, parted where J says no -/
inductive Pt (J : Nat → Bool) (n : Nat) : List (Nat × Nat) → Nat → Prop
  | nil : Pt J n [] 0
  | snoc {P : List (Nat × Nat)} {s e : Nat} : Pt J n P s → s < e → e ≤ n → (∀ k, s < k → k < e → J k = true) → (e < n → J e = false) → Pt J n (P ++ [(s, e)]) e
/-- a part -/
def sg {α : Type} (l : List α) (p : Nat × Nat) : List α := (l.drop p.1).take (p.2 - p.1)
theorem Pt.le {J : Nat → Bool} {n s : Nat} {P : List (Nat × Nat)} (h : Pt J n P s) : P.length ≤ s ∧ s ≤ n ∧ ∀ p ∈ P, p.1 < p.2 ∧ p.2 ≤ s := by
  induction h with
  | nil => simp
  | snoc _ h1 h2 _ _ ih =>
    refine ⟨by simp; omega, h2, fun p hp => ?_⟩
    rcases List.mem_append.1 hp with a | a
    · have := ih.2.2 p a; omega
    · simp at a; subst a; exact ⟨h1, Nat.le_refl _⟩
theorem Pt.at {J : Nat → Bool} {n s : Nat} {P : List (Nat × Nat)} (h : Pt J n P s) {j : Nat} (hj : j < P.length) : (P.getD j (0, 0)).1 < (P.getD j (0, 0)).2 ∧ (P.getD j (0, 0)).2 ≤ s := by
  have : P.getD j (0, 0) ∈ P := by
    have e : P.getD j (0, 0) = P[j] := by simp [List.getD, List.getElem?_eq_getElem hj]
    rw [e]; exact List.getElem_mem _
  exact h.le.2.2 _ this
/-- where the part j begins: where the one before it ends -/
def beg (P : List (Nat × Nat)) (j : Nat) : Nat := if j = 0 then 0 else (P.getD (j - 1) (0, 0)).2
theorem Pt.last {J : Nat → Bool} {n s : Nat} {P : List (Nat × Nat)} (h : Pt J n P s) : beg P P.length = s := by
  cases h with
  | nil => rfl
  | snoc _ _ _ _ _ => unfold beg; simp
theorem Pt.beg {J : Nat → Bool} {n s : Nat} {P : List (Nat × Nat)} (h : Pt J n P s) : ∀ {j : Nat}, j < P.length → (P.getD j (0, 0)).1 = Glyph.beg P j := by
  induction h with
  | nil => intro j hj; simp at hj
  | @snoc P s e h' h1 h2 _ _ ih =>
    intro j hj
    rw [List.length_append, List.length_singleton] at hj
    by_cases hlt : j < P.length
    · have e1 : (P ++ [(s, e)]).getD j (0, 0) = P.getD j (0, 0) := by simp [List.getD, List.getElem?_append_left hlt]
      rw [e1, ih hlt]
      unfold Glyph.beg
      by_cases h0 : j = 0
      · rw [if_pos h0, if_pos h0]
      · rw [if_neg h0, if_neg h0]
        simp [List.getD, List.getElem?_append_left (show j - 1 < P.length by omega)]
    · obtain rfl : j = P.length := by omega
      have e1 : (P ++ [(s, e)]).getD P.length (0, 0) = (s, e) := by simp [List.getD]
      rw [e1]
      show s = _
      rw [← h'.last]
      unfold Glyph.beg
      by_cases h0 : P.length = 0
      · rw [if_pos h0, if_pos h0]
      · rw [if_neg h0, if_neg h0]
        simp [List.getD, List.getElem?_append_left (show P.length - 1 < P.length by omega)]
theorem beg_succ (P : List (Nat × Nat)) (j : Nat) : beg P (j + 1) = (P.getD j (0, 0)).2 := by unfold beg; rw [if_neg (by omega)]; rfl

theorem tw_take {α : Type} {p : α → Bool} : ∀ (k : Nat) (l : List α), (∀ i (h : i < l.length), i < k → p l[i] = true) → (∀ h : k < l.length, p l[k] = false) → l.takeWhile p = l.take k ∧ l.dropWhile p = l.drop k
  | _, [], _, _ => by simp
  | 0, x :: l, _, h2 => by
    have := h2 (by simp)
    simp only [List.getElem_cons_zero] at this
    rw [List.takeWhile_cons_of_neg (by rw [this]; decide), List.dropWhile_cons_of_neg (by rw [this]; decide)]
    exact ⟨rfl, rfl⟩
  | k + 1, x :: l, h1, h2 => by
    have hx := h1 0 (by simp) (by omega)
    simp only [List.getElem_cons_zero] at hx
    have := tw_take k l (fun i hi hk => by have := h1 (i + 1) (by simp; omega) (by omega); simpa using this) (fun h => by have := h2 (by simp; omega); simpa using this)
    rw [List.takeWhile_cons_of_pos hx, List.dropWhile_cons_of_pos hx, this.1, this.2]
    exact ⟨rfl, rfl⟩

/-- the directions part the list -/
def jo (l : List Int) (i : Nat) : Bool := dr l i == dr l (i - 1)
/-- the run of a part, as it stands -/
def rn (l : List Int) (p : Nat × Nat) : List Int := ron (dr l p.1) (sg l p)
theorem jo_same {l : List Int} {s e : Nat} (h : ∀ k, s < k → k < e → jo l k = true) : ∀ k, s ≤ k → k < e → dr l k = dr l s := by
  intro k hs he
  induction k with
  | zero => obtain rfl : s = 0 := by omega
            rfl
  | succ k ih =>
    by_cases hk : s = k + 1
    · rw [hk]
    · have := h (k + 1) (by omega) he
      unfold jo at this
      rw [eq_of_beq this, Nat.add_sub_cancel]
      exact ih (by omega) (by omega)
theorem go_jump {l : List Int} {b : Int} {s e : Nat} (h1 : s < e) (h2 : e ≤ l.length) (hs : ∀ k, s ≤ k → k < e → dr l k = dr l s) (he : e < l.length → dr l e ≠ dr l s) (out : List Int) :
    go b ((prs l).drop s) out = go b ((prs l).drop e) (put b out (rn l (s, e))) := by
  have hl := prs_len l
  have hget : ∀ i (h : i < (prs l).length), (prs l)[i] = (dr l i, l.getD i 0) := fun i h => by unfold prs; simp
  rw [List.drop_eq_getElem_cons (show s < (prs l).length by omega), hget, go_cons]
  obtain ⟨q1, q2⟩ := tw_take (p := fun q : Int × Int => q.1 == dr l s) (e - s - 1) ((prs l).drop (s + 1))
    (fun i hi hk => by
      rw [List.getElem_drop, hget]
      simp only [beq_iff_eq]
      exact hs _ (by omega) (by omega))
    (fun h => by
      rw [List.length_drop] at h
      rw [List.getElem_drop, hget]
      simp only [beq_eq_false_iff_ne]
      have e1 : s + 1 + (e - s - 1) = e := by omega
      rw [e1]
      exact he (by omega))
  rw [q1, q2, List.drop_drop, show s + 1 + (e - s - 1) = e by omega]
  congr 2
  unfold rn
  congr 1
  unfold sg cds
  show l.getD s 0 :: _ = (l.drop s).take (e - s)
  have hls : s < l.length := by omega
  rw [List.drop_eq_getElem_cons hls, show e - s = (e - s - 1) + 1 by omega, List.take_succ_cons]
  congr 1
  · simp [List.getD, List.getElem?_eq_getElem hls]
  · rw [List.map_take, List.map_drop]
    have := prs_cds l
    unfold cds at this
    rw [this, show e - s - 1 + 1 - 1 = e - s - 1 by omega]
theorem go_pt {l : List Int} {b : Int} {P : List (Nat × Nat)} {s : Nat} (h : Pt (jo l) l.length P s) : go b (prs l) [] = go b ((prs l).drop s) ((P.map (rn l)).foldl (put b) []) := by
  induction h with
  | nil => rfl
  | @snoc P s e h' h1 h2 h3 h4 ih =>
    rw [ih, go_jump h1 h2 (jo_same h3) ?_, List.map_append, List.foldl_append]
    · rfl
    · intro hlt
      have hj := h4 hlt
      unfold jo at hj
      rw [← jo_same h3 (e - 1) (by omega) (by omega)]
      exact beq_eq_false_iff_ne.1 hj
theorem put_all (b : Int) : ∀ (L : List (List Int)) (out : List Int), L.foldl (put b) out = if b < 0 then L.reverse.flatten ++ out else out ++ L.flatten
  | [], out => by simp
  | x :: L, out => by
    rw [List.foldl_cons, put_all b L]
    unfold put
    by_cases hb : b < 0
    · simp [hb]
    · simp [hb]
theorem ord_pt {l : List Int} {P : List (Nat × Nat)} (h : Pt (jo l) l.length P l.length) : ord l = if bas l < 0 then (P.map (rn l)).reverse.flatten else (P.map (rn l)).flatten := by
  unfold ord
  rw [go_pt h, List.drop_eq_nil_of_le (by rw [prs_len]; exact Nat.le_refl _), go_nil, put_all]
  split <;> simp

/-! a run that is turned -/
/-- digits belong together -/
def jd (z : List Int) (i : Nat) : Bool := dig (z.getD i 0) && dig (z.getD (i - 1) 0)
theorem tw_all {α : Type} {p : α → Bool} {a b : List α} (ha : ∀ x ∈ a, p x = true) (hb : ∀ x t, b = x :: t → p x = false) : (a ++ b).takeWhile p = a ∧ (a ++ b).dropWhile p = b := by
  rw [List.takeWhile_append_of_pos ha, List.dropWhile_append_of_pos ha]
  cases b with
  | nil => simp
  | cons x t =>
    have := hb x t rfl
    rw [List.takeWhile_cons_of_neg (by rw [this]; decide), List.dropWhile_cons_of_neg (by rw [this]; decide), List.append_nil]
    exact ⟨rfl, rfl⟩
theorem tur_digs_app {a b : List Int} (ha : ∀ x ∈ a, dig x = true) (h0 : a ≠ []) (hb : ∀ x t, b = x :: t → dig x = false) : tur (a ++ b) = tur b ++ a := by
  cases a with
  | nil => exact absurd rfl h0
  | cons r m =>
    have hm : ∀ x ∈ m, dig x = true := fun x hx => ha x (List.mem_cons_of_mem _ hx)
    obtain ⟨q1, q2⟩ := tw_all hm hb
    rw [List.cons_append, tur_dig (ha r (by simp)), q1, q2]
theorem sg_take {α : Type} (z : List α) {s e : Nat} (h : s ≤ e) : z.take e = z.take s ++ sg z (s, e) := by
  unfold sg
  conv => lhs; rw [show e = s + (e - s) by omega, List.take_add]
theorem tur_pt {z : List Int} {P : List (Nat × Nat)} {s : Nat} (h : Pt (jd z) z.length P s) : (P.map fun p => (sg z p).reverse).flatten = tur (z.take s).reverse := by
  induction h with
  | nil => rw [List.take_zero, List.reverse_nil, tur_nil]; rfl
  | @snoc P s e h' h1 h2 h3 h4 ih =>
    have hsl := h'.le.2.1
    rw [List.map_append, List.flatten_append, ih, sg_take z (Nat.le_of_lt h1), List.reverse_append]
    simp only [List.map_cons, List.map_nil, List.flatten_cons, List.flatten_nil, List.append_nil]
    have hgz : ∀ i, i < z.length → z.getD i 0 = z[i]! := fun i hi => by simp [List.getD, hi]
    have hlen : (sg z (s, e)).length = e - s := by unfold sg; simp; omega
    have hat : ∀ i (hi : i < e - s), (sg z (s, e))[i]'(by omega) = z.getD (s + i) 0 := fun i hi => by
      unfold sg
      simp [List.getD, List.getElem?_eq_getElem (show s + i < z.length by omega)]
    by_cases hd : dig (z.getD s 0) = true
    · refine (tur_digs_app ?_ ?_ ?_).symm
      · intro x hx
        rw [List.mem_reverse] at hx
        obtain ⟨i, hi, rfl⟩ := List.mem_iff_getElem.1 hx
        rw [hat i (by omega)]
        rcases Nat.eq_zero_or_pos i with h0 | h0
        · subst h0; exact hd
        · have := h3 (s + i) (by omega) (by omega)
          unfold jd at this
          exact (Bool.and_eq_true_iff.1 this).1
      · intro h0
        have := congrArg List.length h0
        simp only [List.length_reverse, List.length_nil] at this
        omega
      · intro x t hx
        -- the last one ahead of s is no digit
        rcases Nat.eq_zero_or_pos s with h0 | h0
        · subst h0; simp at hx
        · have hJ : jd z s = false := by
            cases h' with
            | nil => omega
            | snoc _ _ _ _ q => exact q (by omega)
          unfold jd at hJ
          rw [hd, Bool.true_and] at hJ
          have e1 : (z.take s).reverse = z.getD (s - 1) 0 :: (z.take (s - 1)).reverse := by
            have : z.take s = z.take (s - 1) ++ [z.getD (s - 1) 0] := by
              conv => lhs; rw [show s = s - 1 + 1 by omega, List.take_add_one]
              simp [List.getD, List.getElem?_eq_getElem (show s - 1 < z.length by omega)]
            rw [this, List.reverse_append]; rfl
          rw [e1] at hx
          injection hx with hx _
          rw [← hx]; exact hJ
    · have hd' : dig (z.getD s 0) = false := by simpa using hd
      have he : e = s + 1 := by
        rcases Nat.lt_or_ge (s + 1) e with hlt | hge
        · have := h3 (s + 1) (by omega) hlt
          unfold jd at this
          have := (Bool.and_eq_true_iff.1 this).2
          rw [Nat.add_sub_cancel] at this
          exact absurd this hd
        · omega
      subst he
      have e1 : sg z (s, s + 1) = [z.getD s 0] := by
        unfold sg
        simp only [Nat.add_sub_cancel_left]
        rw [List.drop_eq_getElem_cons (show s < z.length by omega), List.take_succ_cons, List.take_zero]
        simp [List.getD, List.getElem?_eq_getElem (show s < z.length by omega)]
      rw [e1, List.reverse_singleton, List.singleton_append, tur_no hd']
theorem tur_of {l : List Int} {P : List (Nat × Nat)} (h : Pt (jd l.reverse) l.length P l.length) : (P.map fun p => (sg l.reverse p).reverse).flatten = tur l := by
  have := tur_pt (z := l.reverse) (P := P) (s := l.length) (by simpa using h)
  rw [this, List.take_of_length_le (by simp), List.reverse_reverse]
end Go.Proofs.YtajcalmjdfhedaaDoor.Glyph
