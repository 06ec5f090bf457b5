/- Plain laws of geometry: points of segments, directions, boxes. No function of the program. -/
import Derived.Test.YtjdkgndecnhokaaEPlain2
namespace Go.Proofs.Ytjdkgndecnhokaa.Geom
set_option linter.unusedVariables false

/-! points of segments -/
theorem lag (a b p : P) : dt a b a b * dt a p a p = dt a b a p * dt a b a p + crs a b a p * crs a b a p := by unfold crs dt; grind
theorem dt_bp (a b p : P) : dt a p b p = dt a p a p - dt a b a p := by unfold dt; grind
theorem on_iff {a b p : P} (hn : Nrs [a, b, p]) : on a b p = true ↔ crs a b a p = 0 ∧ dt a p b p ≤ 0 := by unfold on; simp [hn]
theorem mul_sign {t N : Int} (hN : 0 < N) : t * (t - N) ≤ 0 ↔ 0 ≤ t ∧ t ≤ N := by
  constructor
  · intro h
    apply Classical.byContradiction
    intro g
    have : t < 0 ∨ N < t := by omega
    rcases this with g | g
    · have := Int.mul_pos_of_neg_of_neg g (show t - N < 0 by omega); omega
    · have := Int.mul_pos (show 0 < t by omega) (show 0 < t - N by omega); omega
  · rintro ⟨h1, h2⟩
    exact Int.mul_nonpos_of_nonneg_of_nonpos h1 (by omega)
theorem on_range {a b p : P} (h0 : crs a b a p = 0) (hab : a ≠ b) : dt a p b p ≤ 0 ↔ 0 ≤ dt a b a p ∧ dt a b a p ≤ dt a b a b := by
  have hN : 0 < dt a b a b := by
    have := dt_nn a b
    have : dt a b a b ≠ 0 := fun h => hab (dt_zero.1 h)
    omega
  rw [← mul_sign hN, dt_bp]
  have e := lag a b p
  rw [h0, Int.mul_zero, Int.add_zero] at e
  have k : dt a b a b * (dt a p a p - dt a b a p) = dt a b a p * (dt a b a p - dt a b a b) := by
    rw [Int.mul_sub, e]; grind
  rw [← k]
  constructor
  · intro h; exact Int.mul_nonpos_of_nonneg_of_nonpos (Int.le_of_lt hN) h
  · intro h
    apply Classical.byContradiction
    intro g
    have := Int.mul_pos hN (show 0 < dt a p a p - dt a b a p by omega)
    omega
theorem on_same {a p : P} : dt a p a p ≤ 0 ↔ a = p := by
  rw [← dt_zero]
  have := dt_nn a p
  omega
theorem crs_aa (a c d : P) : crs a a c d = 0 := by unfold crs; simp
theorem crs_pp (a b p : P) : crs a b p p = 0 := by unfold crs; simp
theorem mt_point {a b p : P} (hn : Nrs [a, b, p]) : mt a b p p = if on a b p = true then 1 else 0 := by
  have hn4 : Nrs [a, b, p, p] := by rw [nrs3] at hn; rw [nrs4]; exact ⟨hn.1, hn.2.1, hn.2.2, hn.2.2⟩
  rw [mt_D hn4]
  by_cases hab : a = b
  · subst hab
    by_cases hap : a = p
    · subst hap
      have h1 : on a a a = true := (on_iff hn).2 ⟨crs_aa _ _ _, by rw [on_same]⟩
      have h2 : col a a a a := ⟨crs_aa _ _ _, crs_aa _ _ _, crs_aa _ _ _, crs_aa _ _ _⟩
      rw [if_neg (fun h => h.2.2 rfl), if_pos (crs_aa _ _ _), if_pos h2, if_pos h1]
      unfold shrD
      rw [if_neg (fun h => h rfl), if_neg (fun h => h rfl)]
    · have h1 : ¬ on a a p = true := fun h => hap (on_same.1 ((on_iff hn).1 h).2)
      rw [if_pos ⟨rfl, rfl, hap⟩, if_neg h1]
  · rw [if_neg (fun h => hab h.1), if_pos (crs_pp _ _ _)]
    by_cases h0 : crs a b a p = 0
    · have h2 : col a b p p := ⟨h0, h0, crs_aa _ _ _, crs_aa _ _ _⟩
      rw [if_pos h2]
      unfold shrD
      rw [if_pos hab]
      have hN : 0 < dt a b a b := by
        have := dt_nn a b
        have : dt a b a b ≠ 0 := fun h => hab (dt_zero.1 h)
        omega
      have hr := on_range h0 hab
      have ho : on a b p = true ↔ 0 ≤ dt a b a p ∧ dt a b a p ≤ dt a b a b := by rw [on_iff hn, ← hr]; simp [h0]
      generalize dt a b a b = N at *
      generalize dt a b a p = t at *
      by_cases hc : 0 ≤ t ∧ t ≤ N
      · rw [if_pos (ho.2 hc)]
        unfold shr
        rw [if_neg (by unfold over; omega), if_pos (by unfold meets; omega)]
      · rw [if_neg (fun h => hc (ho.1 h))]
        unfold shr
        rw [if_neg (by unfold over; omega), if_neg (by unfold meets; omega)]
    · have h2 : ¬ col a b p p := fun h => h0 h.1
      have h1 : ¬ on a b p = true := fun h => h0 ((on_iff hn).1 h).1
      rw [if_neg h2, if_neg h1]
theorem shr_pos {a b c d x : Int} (h1 : a ≤ x ∧ x ≤ b ∨ b ≤ x ∧ x ≤ a) (h2 : c ≤ x ∧ x ≤ d ∨ d ≤ x ∧ x ≤ c) : 0 < shr a b c d := by
  unfold shr
  split
  · decide
  · rw [if_pos (by unfold meets; omega)]; decide
theorem mt_on {a b c p : P} (hn : Nrs [a, b, c, p]) (ho : on a b p = true) : 0 < mt a b c p := by
  have hn3 : Nrs [a, b, p] := by rw [nrs4] at hn; rw [nrs3]; exact ⟨hn.1, hn.2.1, hn.2.2.2⟩
  obtain ⟨h0, hd⟩ := (on_iff hn3).1 ho
  rw [mt_D hn]
  by_cases hab : a = b
  · subst hab
    have hap := on_same.1 hd
    subst hap
    rw [if_neg (fun h => h.2.2 h.2.1.symm), if_pos (crs_aa _ _ _)]
    have h2 : col a a c a := ⟨crs_aa _ _ _, crs_aa _ _ _, by unfold crs; grind, by unfold crs; grind⟩
    rw [if_pos h2]
    unfold shrD
    rw [if_neg (fun h => h rfl)]
    split
    · have e : dt c a c a = dt c a c a := rfl
      exact shr_pos (x := dt c a c a) (.inl ⟨dt_nn _ _, Int.le_refl _⟩) (.inl ⟨Int.le_refl _, Int.le_refl _⟩)
    · decide
  · rw [if_neg (fun h => hab h.1)]
    have hr := (on_range h0 hab).1 hd
    have hN : 0 < dt a b a b := by
      have := dt_nn a b
      have : dt a b a b ≠ 0 := fun h => hab (dt_zero.1 h)
      omega
    -- the point p lies at the part t of N of the way from a to b
    have e1 : crs a c a b = crs a b c p := by
      have : crs a b c p = crs a b a p + crs a c a b := by unfold crs; grind
      omega
    have e2 : dt a b a b * crs a c c p = dt a b a p * crs a b c p := by
      have : dt a b a b * crs a c c p = dt a b a p * crs a b c p + (crs a b a p) * (dt a c a b - dt a b a p) := by unfold crs dt; grind
      rw [this, h0]; simp
    by_cases hz : crs a b c p = 0
    · rw [if_pos hz]
      rw [hz, Int.mul_zero] at e2
      have e3 : crs a c c p = 0 := by
        rcases Int.mul_eq_zero.1 e2 with g | g
        · omega
        · exact g
      have e4 : crs a b a c = 0 := by
        have : crs a c a b = - crs a b a c := crs_flip2 _ _ _
        omega
      have h2 : col a b c p := ⟨e4, h0, by
        have : crs c p c a = crs a c c p := by unfold crs; grind
        omega, by
        have : crs c p c b = crs a c c p - crs a b c p := by unfold crs; grind
        omega⟩
      rw [if_pos h2]
      unfold shrD
      rw [if_pos hab]
      refine shr_pos (x := dt a b a p) (.inl hr) ?_
      omega
    · rw [if_neg hz]
      have h1 : in01 (crs a b c p) (crs a c c p) := by
        unfold in01
        rcases Int.lt_or_gt_of_ne hz with g | g
        · right
          refine ⟨g, ?_, ?_⟩
          · apply Classical.byContradiction
            intro k
            have : dt a b a b * crs a c c p < dt a b a b * crs a b c p := Int.mul_lt_mul_of_pos_left (by omega) hN
            have k2 : dt a b a b * crs a b c p ≤ dt a b a p * crs a b c p := Int.mul_le_mul_of_nonpos_right hr.2 (by omega)
            omega
          · apply Classical.byContradiction
            intro k
            have := Int.mul_pos hN (show 0 < crs a c c p by omega)
            have k2 := Int.mul_nonpos_of_nonneg_of_nonpos hr.1 (show crs a b c p ≤ 0 by omega)
            omega
        · left
          refine ⟨g, ?_, ?_⟩
          · apply Classical.byContradiction
            intro k
            have := Int.mul_neg_of_pos_of_neg hN (show crs a c c p < 0 by omega)
            have k2 := Int.mul_nonneg hr.1 (show 0 ≤ crs a b c p by omega)
            omega
          · apply Classical.byContradiction
            intro k
            have : dt a b a b * crs a b c p < dt a b a b * crs a c c p := Int.mul_lt_mul_of_pos_left (by omega) hN
            have k2 : dt a b a p * crs a b c p ≤ dt a b a b * crs a b c p := Int.mul_le_mul_of_nonneg_right hr.2 (by omega)
            omega
      have h2 : in01 (crs a b c p) (crs a c a b) := by rw [e1]; unfold in01; omega
      rw [if_pos ⟨h1, h2⟩]; decide
theorem on_side {a b p : P} (h : on a b p = true) : sd a b p = 0 := by
  unfold on at h
  have := of_decide_eq_true h
  unfold sd tw
  rw [if_pos this.1, this.2.1]
  rfl

/-! directions -/
def qt (o a : P) : Int := if 0 < a.1 - o.1 ∧ 0 ≤ a.2 - o.2 then 0 else if a.1 - o.1 ≤ 0 ∧ 0 < a.2 - o.2 then 1 else if a.1 - o.1 < 0 then 2 else 3
def les (o a b : P) : Bool := decide (Nrs [o, a, b] ∧ a ≠ o ∧ b ≠ o ∧ (qt o a < qt o b ∨ qt o a = qt o b ∧ 0 < crs o a o b))
theorem les_iff {o a b : P} : les o a b = true ↔ Nrs [o, a, b] ∧ a ≠ o ∧ b ≠ o ∧ (qt o a < qt o b ∨ qt o a = qt o b ∧ 0 < crs o a o b) := by unfold les; exact decide_eq_true_iff
/-- a linear form that is positive in the whole quarter -/
def mA (q : Int) : Int := if q = 0 then 1 else if q = 2 then -1 else 0
def mB (q : Int) : Int := if q = 1 then 1 else if q = 3 then -1 else 0
theorem m_pos {o a : P} (h : a ≠ o) : 0 < mA (qt o a) * (a.1 - o.1) + mB (qt o a) * (a.2 - o.2) := by
  obtain ⟨a1, a2⟩ := a
  obtain ⟨o1, o2⟩ := o
  simp only [ne_eq, Prod.mk.injEq] at h
  unfold qt
  simp only
  split
  · simp only [mA, mB]; simp; omega
  · split
    · simp only [mA, mB]; simp; omega
    · split
      · simp only [mA, mB]; simp; omega
      · simp only [mA, mB]; simp; omega
theorem m_plu (A B : Int) (o a b c : P) : (A * (b.1 - o.1) + B * (b.2 - o.2)) * crs o a o c = (A * (a.1 - o.1) + B * (a.2 - o.2)) * crs o b o c + (A * (c.1 - o.1) + B * (c.2 - o.2)) * crs o a o b := by unfold crs; grind
theorem crs_tr {o a b c : P} (ha : a ≠ o) (hb : b ≠ o) (hc : c ≠ o) (h1 : qt o a = qt o b) (h2 : qt o b = qt o c) (g1 : 0 < crs o a o b) (g2 : 0 < crs o b o c) : 0 < crs o a o c := by
  have p1 := m_pos ha
  have p2 := m_pos hb
  have p3 := m_pos hc
  rw [h1] at p1
  rw [← h2] at p3
  have e := m_plu (mA (qt o b)) (mB (qt o b)) o a b c
  have q1 := Int.mul_pos p1 g2
  have q2 := Int.mul_pos p3 g1
  rw [← mul_pos_iff p2]
  omega
theorem crs_eq {o a b c : P} (ha : a ≠ o) (hb : b ≠ o) (hc : c ≠ o) (h1 : qt o a = qt o b) (h2 : qt o b = qt o c) (g1 : crs o a o b = 0) (g2 : crs o b o c = 0) : crs o a o c = 0 := by
  have p2 := m_pos hb
  have e := m_plu (mA (qt o b)) (mB (qt o b)) o a b c
  rw [g1, g2, Int.mul_zero, Int.mul_zero, Int.add_zero] at e
  rcases Int.mul_eq_zero.1 e with g | g
  · omega
  · exact g
theorem les_irr (o a : P) : les o a a = false := by
  cases h : les o a a with
  | false => rfl
  | true =>
    have := (les_iff.1 h).2.2.2
    have e : crs o a o a = 0 := by unfold crs; grind
    omega
theorem les_asym {o a b : P} (h : les o a b = true) : les o b a = false := by
  cases g : les o b a with
  | false => rfl
  | true =>
    have h1 := (les_iff.1 h).2.2.2
    have g1 := (les_iff.1 g).2.2.2
    have e : crs o b o a = - crs o a o b := crs_flip2 _ _ _
    omega
theorem les_tr {o a b c : P} (h : les o a b = true) (g : les o b c = true) : les o a c = true := by
  rw [les_iff] at *
  obtain ⟨n1, ha, hb, h1⟩ := h
  obtain ⟨n2, _, hc, g1⟩ := g
  rw [nrs3] at n1 n2
  refine ⟨nrs3.2 ⟨n1.1, n1.2.1, n2.2.2⟩, ha, hc, ?_⟩
  rcases h1 with h1 | ⟨h1, h2⟩
  · rcases g1 with g1 | ⟨g1, g2⟩
    · left; omega
    · left; omega
  · rcases g1 with g1 | ⟨g1, g2⟩
    · left; omega
    · right; exact ⟨by omega, crs_tr ha hb hc h1 g1 h2 g2⟩
def eqd (o a b : P) : Bool := !les o a b && !les o b a
theorem eqd_iff {o a b : P} (hn : Nrs [o, a, b]) (ha : a ≠ o) (hb : b ≠ o) : eqd o a b = true ↔ qt o a = qt o b ∧ crs o a o b = 0 := by
  have hn' : Nrs [o, b, a] := by rw [nrs3] at *; exact ⟨hn.1, hn.2.2, hn.2.1⟩
  unfold eqd les
  have e : crs o b o a = - crs o a o b := crs_flip2 _ _ _
  rw [e]
  simp only [Bool.and_eq_true, Bool.not_eq_true', decide_eq_false_iff_not]
  constructor
  · rintro ⟨h1, h2⟩
    have h1' : ¬ (qt o a < qt o b ∨ qt o a = qt o b ∧ 0 < crs o a o b) := fun h => h1 ⟨hn, ha, hb, h⟩
    have h2' : ¬ (qt o b < qt o a ∨ qt o b = qt o a ∧ 0 < -crs o a o b) := fun h => h2 ⟨hn', hb, ha, h⟩
    omega
  · rintro ⟨h1, h2⟩
    constructor
    · rintro ⟨_, _, _, h⟩; omega
    · rintro ⟨_, _, _, h⟩; omega
theorem eqd_tr {o a b c : P} (hn : Nrs [o, a, b, c]) (ha : a ≠ o) (hb : b ≠ o) (hc : c ≠ o) (h : eqd o a b = true) (g : eqd o b c = true) : eqd o a c = true := by
  rw [nrs4] at hn
  rw [eqd_iff (nrs3.2 ⟨hn.1, hn.2.1, hn.2.2.1⟩) ha hb] at h
  rw [eqd_iff (nrs3.2 ⟨hn.1, hn.2.2.1, hn.2.2.2⟩) hb hc] at g
  rw [eqd_iff (nrs3.2 ⟨hn.1, hn.2.1, hn.2.2.2⟩) ha hc]
  exact ⟨h.1.trans g.1, crs_eq ha hb hc h.1 g.1 h.2 g.2⟩

/-! boxes -/
def inn (x0 y0 x1 y1 px py : Int) : Bool := decide (x0 ≤ px ∧ px ≤ x1 ∧ y0 ≤ py ∧ py ≤ y1)
def ovl (x0 y0 x1 y1 u0 v0 u1 v1 : Int) : Bool := decide (x0 < x1 ∧ u0 < u1 ∧ x0 < u1 ∧ u0 < x1 ∧ y0 < y1 ∧ v0 < v1 ∧ y0 < v1 ∧ v0 < y1)
theorem ovl_comm (x0 y0 x1 y1 u0 v0 u1 v1 : Int) : ovl u0 v0 u1 v1 x0 y0 x1 y1 = ovl x0 y0 x1 y1 u0 v0 u1 v1 := by
  unfold ovl
  have : (u0 < u1 ∧ x0 < x1 ∧ u0 < x1 ∧ x0 < u1 ∧ v0 < v1 ∧ y0 < y1 ∧ v0 < y1 ∧ y0 < v1) ↔ (x0 < x1 ∧ u0 < u1 ∧ x0 < u1 ∧ u0 < x1 ∧ y0 < y1 ∧ v0 < v1 ∧ y0 < v1 ∧ v0 < y1) := by omega
  simp only [this]
theorem ovl_self {x0 y0 x1 y1 u0 v0 u1 v1 : Int} (h : ovl x0 y0 x1 y1 u0 v0 u1 v1 = true) : ovl x0 y0 x1 y1 x0 y0 x1 y1 = true := by
  unfold ovl at *
  have := of_decide_eq_true h
  exact decide_eq_true (by omega)
end Go.Proofs.Ytjdkgndecnhokaa.Geom
