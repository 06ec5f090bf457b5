/- Plain laws of points, segments and boxes: areas, common points, motions. No function of the program. -/
import Derived.Test.YtjdkgndecnhokaaRows
namespace Go.Proofs.Ytjdkgndecnhokaa.Geom
set_option linter.unusedVariables false

abbrev P := Int × Int
def crs (a b c d : P) : Int := (b.1 - a.1) * (d.2 - c.2) - (b.2 - a.2) * (d.1 - c.1)
def dt (a b c d : P) : Int := (b.1 - a.1) * (d.1 - c.1) + (b.2 - a.2) * (d.2 - c.2)
def Nr (p : P) : Prop := -2097152 ≤ p.1 ∧ p.1 ≤ 2097152 ∧ -2097152 ≤ p.2 ∧ p.2 ≤ 2097152
instance (p : P) : Decidable (Nr p) := by unfold Nr; infer_instance
def Nrs (l : List P) : Prop := ∀ p ∈ l, Nr p
instance (l : List P) : Decidable (Nrs l) := by unfold Nrs; infer_instance
theorem nrs2 {a b : P} : Nrs [a, b] ↔ Nr a ∧ Nr b := by simp [Nrs]
theorem nrs3 {a b c : P} : Nrs [a, b, c] ↔ Nr a ∧ Nr b ∧ Nr c := by simp [Nrs]
theorem nrs4 {a b c d : P} : Nrs [a, b, c, d] ↔ Nr a ∧ Nr b ∧ Nr c ∧ Nr d := by simp [Nrs]

def tw (a b c : P) : Int := if Nrs [a, b, c] then crs a b a c else 0
def sgn (n : Int) : Int := if 0 < n then 1 else if n < 0 then -1 else 0
def sd (a b c : P) : Int := sgn (tw a b c)
def on (a b p : P) : Bool := decide (Nrs [a, b, p] ∧ crs a b a p = 0 ∧ dt a p b p ≤ 0)

/-- the place of a near point in the order by X, then by Y -/
def K (p : P) : Int := p.1 * 16777216 + p.2
/-- two ranges of numbers have a common point; more than one -/
def meets (a b c d : Int) : Prop := ¬ (c < a ∧ c < b ∧ d < a ∧ d < b) ∧ ¬ (a < c ∧ a < d ∧ b < c ∧ b < d)
def over (a b c d : Int) : Prop := (a < b ∨ b < a) ∧ (c < d ∨ d < c) ∧ (a < c ∨ a < d ∨ b < c ∨ b < d) ∧ (c < a ∨ c < b ∨ d < a ∨ d < b)
instance (a b c d : Int) : Decidable (meets a b c d) := by unfold meets; infer_instance
instance (a b c d : Int) : Decidable (over a b c d) := by unfold over; infer_instance
def shr (a b c d : Int) : Int := if over a b c d then 2 else if meets a b c d then 1 else 0
def in01 (n s : Int) : Prop := (0 < n ∧ 0 ≤ s ∧ s ≤ n) ∨ (n < 0 ∧ n ≤ s ∧ s ≤ 0)
instance (n s : Int) : Decidable (in01 n s) := by unfold in01; infer_instance
def mt (a b c d : P) : Int :=
  if ¬ Nrs [a, b, c, d] then 0
  else if a = b ∧ c = d ∧ a ≠ c then 0
  else if crs a b c d = 0 then (if crs a b a c = 0 ∧ crs a b a d = 0 ∧ crs c d c a = 0 ∧ crs c d c b = 0 then shr (K a) (K b) (K c) (K d) else 0)
  else if in01 (crs a b c d) (crs a c c d) ∧ in01 (crs a b c d) (crs a c a b) then 1 else 0

theorem K_eq {a b : P} (ha : Nr a) (hb : Nr b) : K a = K b ↔ a = b := by
  obtain ⟨a1, a2⟩ := a
  obtain ⟨b1, b2⟩ := b
  unfold Nr K at *
  simp only [Prod.mk.injEq] at *
  omega
theorem K_lt {a b : P} (ha : Nr a) (hb : Nr b) : K a < K b ↔ (a.1 < b.1 ∨ a.1 = b.1 ∧ a.2 < b.2) := by
  unfold Nr K at *
  omega

/-! areas -/
theorem crs_split (a b c p : P) : crs p a p b + crs p b p c + crs p c p a = crs a b a c := by unfold crs; grind
theorem crs_flip (a b c : P) : crs b a b c = - crs a b a c := by unfold crs; grind
theorem crs_flip2 (a b c : P) : crs a c a b = - crs a b a c := by unfold crs; grind
theorem crs_turn (a b c : P) : crs b c b a = crs a b a c := by unfold crs; grind

/-! common points -/
theorem ifc {c d : Prop} [Decidable c] [Decidable d] {x y u v : Int} (h : c ↔ d) (h1 : x = u) (h2 : y = v) : (if c then x else y) = if d then u else v := by
  by_cases hc : c
  · rw [if_pos hc, if_pos (h.1 hc), h1]
  · rw [if_neg hc, if_neg (fun g => hc (h.2 g)), h2]
theorem shr_congr {a b c d a' b' c' d' : Int} (h : over a b c d ↔ over a' b' c' d') (g : meets a b c d ↔ meets a' b' c' d') : shr a b c d = shr a' b' c' d' := by
  unfold shr
  exact ifc h rfl (ifc g rfl rfl)
theorem shr_swap (a b c d : Int) : shr c d a b = shr a b c d := shr_congr (by unfold over; grind) (by unfold meets; grind)
theorem shr_rev (a b c d : Int) : shr b a c d = shr a b c d := shr_congr (by unfold over; grind) (by unfold meets; grind)
theorem in01_neg {n s : Int} : in01 (-n) (-s) ↔ in01 n s := by unfold in01; omega
theorem in01_sub {n s : Int} : in01 (-n) (s - n) ↔ in01 n s := by unfold in01; omega
theorem mt_far {a b c d : P} (h : ¬ Nrs [a, b, c, d]) : mt a b c d = 0 := by unfold mt; rw [if_pos h]
theorem mt_near {a b c d : P} (h : Nrs [a, b, c, d]) : mt a b c d = if a = b ∧ c = d ∧ a ≠ c then 0
    else if crs a b c d = 0 then (if crs a b a c = 0 ∧ crs a b a d = 0 ∧ crs c d c a = 0 ∧ crs c d c b = 0 then shr (K a) (K b) (K c) (K d) else 0)
    else if in01 (crs a b c d) (crs a c c d) ∧ in01 (crs a b c d) (crs a c a b) then 1 else 0 := by unfold mt; rw [if_neg (show ¬ ¬ Nrs [a, b, c, d] from fun g => g h)]
theorem mt_swap (a b c d : P) : mt c d a b = mt a b c d := by
  by_cases hn : Nrs [a, b, c, d]
  · have hn' : Nrs [c, d, a, b] := by rw [nrs4] at *; exact ⟨hn.2.2.1, hn.2.2.2, hn.1, hn.2.1⟩
    rw [mt_near hn', mt_near hn]
    by_cases h1 : a = b ∧ c = d ∧ a ≠ c
    · rw [if_pos h1, if_pos (show c = d ∧ a = b ∧ c ≠ a from ⟨h1.2.1, h1.1, fun e => h1.2.2 e.symm⟩)]
    · rw [if_neg h1, if_neg (show ¬ (c = d ∧ a = b ∧ c ≠ a) from fun h => h1 ⟨h.2.1, h.1, fun e => h.2.2 e.symm⟩)]
      have e1 : crs c d a b = - crs a b c d := by unfold crs; grind
      have e2 : crs c a a b = - crs a c a b := by unfold crs; grind
      have e3 : crs c a c d = - crs a c c d := by unfold crs; grind
      rw [e1, e2, e3]
      by_cases h2 : crs a b c d = 0
      · rw [if_pos h2, if_pos (by omega)]
        by_cases h3 : crs a b a c = 0 ∧ crs a b a d = 0 ∧ crs c d c a = 0 ∧ crs c d c b = 0
        · rw [if_pos h3, if_pos (show crs c d c a = 0 ∧ crs c d c b = 0 ∧ crs a b a c = 0 ∧ crs a b a d = 0 from ⟨h3.2.2.1, h3.2.2.2, h3.1, h3.2.1⟩), shr_swap]
        · rw [if_neg h3, if_neg (show ¬ (crs c d c a = 0 ∧ crs c d c b = 0 ∧ crs a b a c = 0 ∧ crs a b a d = 0) from fun h => h3 ⟨h.2.2.1, h.2.2.2, h.1, h.2.1⟩)]
      · rw [if_neg h2, if_neg (by omega)]
        exact ifc (by rw [in01_neg, in01_neg]; exact And.comm) rfl rfl
  · have hn' : ¬ Nrs [c, d, a, b] := fun h => hn (by rw [nrs4] at *; exact ⟨h.2.2.1, h.2.2.2, h.1, h.2.1⟩)
    rw [mt_far hn', mt_far hn]
theorem mt_rev (a b c d : P) : mt b a c d = mt a b c d := by
  by_cases hn : Nrs [a, b, c, d]
  · have hn' : Nrs [b, a, c, d] := by rw [nrs4] at *; exact ⟨hn.2.1, hn.1, hn.2.2⟩
    rw [mt_near hn', mt_near hn]
    by_cases h1 : a = b ∧ c = d ∧ a ≠ c
    · rw [if_pos h1, if_pos (show b = a ∧ c = d ∧ b ≠ c from ⟨h1.1.symm, h1.2.1, by rw [← h1.1]; exact h1.2.2⟩)]
    · rw [if_neg h1, if_neg (show ¬ (b = a ∧ c = d ∧ b ≠ c) from fun h => h1 ⟨h.1.symm, h.2.1, by rw [← h.1]; exact h.2.2⟩)]
      have e1 : crs b a c d = - crs a b c d := by unfold crs; grind
      have e2 : crs b c c d = crs a c c d - crs a b c d := by unfold crs; grind
      have e3 : crs b c b a = - crs a c a b := by unfold crs; grind
      have e4 : crs b a b c = - crs a b a c := by unfold crs; grind
      have e5 : crs b a b d = - crs a b a d := by unfold crs; grind
      rw [e1, e2, e3, e4, e5]
      by_cases h2 : crs a b c d = 0
      · rw [if_pos h2, if_pos (by omega)]
        by_cases h3 : crs a b a c = 0 ∧ crs a b a d = 0 ∧ crs c d c a = 0 ∧ crs c d c b = 0
        · rw [if_pos h3, if_pos (by omega), shr_rev]
        · rw [if_neg h3, if_neg (by omega)]
      · rw [if_neg h2, if_neg (by omega)]
        exact ifc (by rw [in01_neg, in01_sub]) rfl rfl
  · have hn' : ¬ Nrs [b, a, c, d] := fun h => hn (by rw [nrs4] at *; exact ⟨h.2.1, h.1, h.2.2⟩)
    rw [mt_far hn', mt_far hn]
theorem mt_rev2 (a b c d : P) : mt b a d c = mt a b c d := by rw [mt_rev, mt_swap, mt_rev, mt_swap]

/-! ranges along a line: the order by X and Y is that of the places along the line, or its reverse -/
theorem shr_iso {a b c d a' b' c' d' : Int} (h1 : a < b ↔ a' < b') (h2 : b < a ↔ b' < a') (h3 : a < c ↔ a' < c') (h4 : c < a ↔ c' < a') (h5 : a < d ↔ a' < d') (h6 : d < a ↔ d' < a')
    (h7 : b < c ↔ b' < c') (h8 : c < b ↔ c' < b') (h9 : b < d ↔ b' < d') (h10 : d < b ↔ d' < b') (h11 : c < d ↔ c' < d') (h12 : d < c ↔ d' < c') : shr a b c d = shr a' b' c' d' :=
  shr_congr (by unfold over; rw [h1, h2, h3, h4, h5, h6, h7, h8, h9, h10, h11, h12]) (by unfold meets; rw [h3, h4, h5, h6, h7, h8, h9, h10])
theorem shr_anti (a b c d : Int) : shr (-a) (-b) (-c) (-d) = shr a b c d :=
  shr_congr (by unfold over; simp only [Int.neg_lt_neg_iff]; grind) (by unfold meets; simp only [Int.neg_lt_neg_iff]; grind)
/-- the place of a point along a direction -/
def F (u p : P) : Int := u.1 * p.1 + u.2 * p.2
theorem F_sub (u p q : P) : F u q - F u p = u.1 * (q.1 - p.1) + u.2 * (q.2 - p.2) := by unfold F; grind
def par (u p q : P) : Prop := u.1 * (q.2 - p.2) = u.2 * (q.1 - p.1)
/-- the direction points to greater places -/
def up (u : P) : Prop := 0 < u.1 ∨ u.1 = 0 ∧ 0 < u.2
theorem mul_pos_iff {x y : Int} (h : 0 < x) : 0 < x * y ↔ 0 < y := by
  constructor
  · intro g
    apply Classical.byContradiction
    intro hy
    have := Int.mul_nonpos_of_nonneg_of_nonpos (Int.le_of_lt h) (show y ≤ 0 by omega)
    omega
  · intro g; exact Int.mul_pos h g
theorem sq_pos {x : Int} (h : x ≠ 0) : 0 < x * x := by
  rcases Int.lt_or_gt_of_ne h with g | g
  · exact Int.mul_pos_of_neg_of_neg g g
  · exact Int.mul_pos g g
theorem sq_nn (x : Int) : 0 ≤ x * x := by
  by_cases h : x = 0
  · subst h; decide
  · exact Int.le_of_lt (sq_pos h)
theorem par_lt {u p q : P} (hp : Nr p) (hq : Nr q) (hu : up u) (h : par u p q) : K p < K q ↔ F u p < F u q := by
  rw [K_lt hp hq]
  have e := F_sub u p q
  have e1 : F u p < F u q ↔ 0 < u.1 * (q.1 - p.1) + u.2 * (q.2 - p.2) := by omega
  rw [e1]
  unfold par at h
  generalize hx : q.1 - p.1 = dx at *
  generalize hy : q.2 - p.2 = dy at *
  have e2 : (p.1 < q.1 ∨ p.1 = q.1 ∧ p.2 < q.2) ↔ (0 < dx ∨ dx = 0 ∧ 0 < dy) := by omega
  rw [e2]
  rcases hu with hu | ⟨h0, hu⟩
  · have k : u.1 * (u.1 * dx + u.2 * dy) = (u.1 * u.1 + u.2 * u.2) * dx := by
      have : u.1 * (u.1 * dx + u.2 * dy) = u.1 * u.1 * dx + u.2 * (u.1 * dy) := by grind
      rw [this, h]; grind
    have s1 : 0 < u.1 * u.1 + u.2 * u.2 := by have := sq_pos (x := u.1) (by omega); have := sq_nn u.2; omega
    have k1 := mul_pos_iff (y := u.1 * dx + u.2 * dy) hu
    rw [k, mul_pos_iff s1] at k1
    rw [← k1]
    constructor
    · rintro (g | ⟨g, g'⟩)
      · exact g
      · subst g
        rw [Int.mul_zero] at h
        have := Int.mul_pos hu g'
        omega
    · intro g; exact .inl g
  · rw [h0] at h ⊢
    rw [Int.zero_mul] at h
    have hz : dx = 0 := by
      rcases Int.mul_eq_zero.1 h.symm with g | g
      · omega
      · exact g
    subst hz
    rw [Int.zero_mul, Int.zero_add, mul_pos_iff hu]
    constructor
    · rintro (g | g)
      · omega
      · exact g.2
    · intro g; exact .inr ⟨rfl, g⟩
theorem par_rev {u p q : P} (h : par u p q) : par u q p := by unfold par at *; grind
theorem par_neg {u p q : P} (h : par u p q) : par (-u.1, -u.2) p q := by unfold par at *; grind
theorem F_neg (u p : P) : F (-u.1, -u.2) p = - F u p := by unfold F; grind
/-- ranges of points of a line, by their places along it -/
theorem shr_up {u a b c d : P} (ha : Nr a) (hb : Nr b) (hc : Nr c) (hd : Nr d) (hu : up u) (h1 : par u a b) (h2 : par u a c) (h3 : par u a d) (h4 : par u b c) (h5 : par u b d) (h6 : par u c d) :
    shr (K a) (K b) (K c) (K d) = shr (F u a) (F u b) (F u c) (F u d) :=
  shr_iso (par_lt ha hb hu h1) (par_lt hb ha hu (par_rev h1)) (par_lt ha hc hu h2) (par_lt hc ha hu (par_rev h2)) (par_lt ha hd hu h3) (par_lt hd ha hu (par_rev h3))
    (par_lt hb hc hu h4) (par_lt hc hb hu (par_rev h4)) (par_lt hb hd hu h5) (par_lt hd hb hu (par_rev h5)) (par_lt hc hd hu h6) (par_lt hd hc hu (par_rev h6))
theorem shr_line {u a b c d : P} (ha : Nr a) (hb : Nr b) (hc : Nr c) (hd : Nr d) (hu : u ≠ (0, 0)) (h1 : par u a b) (h2 : par u a c) (h3 : par u a d) (h4 : par u b c) (h5 : par u b d) (h6 : par u c d) :
    shr (K a) (K b) (K c) (K d) = shr (F u a) (F u b) (F u c) (F u d) := by
  by_cases hup : up u
  · exact shr_up ha hb hc hd hup h1 h2 h3 h4 h5 h6
  · have hup' : up (-u.1, -u.2) := by
      obtain ⟨x, y⟩ := u
      unfold up at *
      simp only [ne_eq, Prod.mk.injEq] at *
      omega
    rw [shr_up ha hb hc hd hup' (par_neg h1) (par_neg h2) (par_neg h3) (par_neg h4) (par_neg h5) (par_neg h6), F_neg, F_neg, F_neg, F_neg, shr_anti]
end Go.Proofs.Ytjdkgndecnhokaa.Geom
