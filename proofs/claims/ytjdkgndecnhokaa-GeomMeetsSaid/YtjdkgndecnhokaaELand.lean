/- Plain laws of geometry for the program as it landed: points of segments by boxes, common ends, halves of a turn. No function of the program. -/
import Derived.Test.YtjdkgndecnhokaaEPlain3
namespace Go.Proofs.Ytjdkgndecnhokaa.Geom
set_option linter.unusedVariables false

/-- between, on a line of numbers -/
def btw (a b p : Int) : Prop := a ≤ p ∧ p ≤ b ∨ b ≤ p ∧ p ≤ a
instance (a b p : Int) : Decidable (btw a b p) := by unfold btw; infer_instance
theorem btw_iff {a b p : Int} : btw a b p ↔ (p - a) * (p - b) ≤ 0 := by
  unfold btw
  constructor
  · rintro (⟨h, g⟩ | ⟨h, g⟩)
    · exact Int.mul_nonpos_of_nonneg_of_nonpos (by omega) (by omega)
    · exact Int.mul_nonpos_of_nonpos_of_nonneg (by omega) (by omega)
  · intro h
    apply Classical.byContradiction
    intro g
    have : (0 < p - a ∧ 0 < p - b) ∨ (p - a < 0 ∧ p - b < 0) := by omega
    rcases this with ⟨h1, h2⟩ | ⟨h1, h2⟩
    · have := Int.mul_pos h1 h2; omega
    · have := Int.mul_pos_of_neg_of_neg h1 h2; omega
/-- a point of the line lies on the segment where it lies in the box of its ends -/
theorem on_box {a b p : P} (h0 : crs a b a p = 0) : dt a p b p ≤ 0 ↔ btw a.1 b.1 p.1 ∧ btw a.2 b.2 p.2 := by
  rw [btw_iff, btw_iff]
  have e : dt a p b p = (p.1 - a.1) * (p.1 - b.1) + (p.2 - a.2) * (p.2 - b.2) := by unfold dt; rfl
  have k : (p.1 - a.1) * (p.2 - b.2) = (p.2 - a.2) * (p.1 - b.1) := by unfold crs at h0; grind
  have s : 0 ≤ ((p.1 - a.1) * (p.1 - b.1)) * ((p.2 - a.2) * (p.2 - b.2)) := by
    have : ((p.1 - a.1) * (p.1 - b.1)) * ((p.2 - a.2) * (p.2 - b.2)) = ((p.1 - a.1) * (p.2 - b.2)) * ((p.1 - a.1) * (p.2 - b.2)) := by grind
    rw [this]; exact sq_nn _
  rw [e]
  generalize (p.1 - a.1) * (p.1 - b.1) = x at *
  generalize (p.2 - a.2) * (p.2 - b.2) = y at *
  constructor
  · intro h
    constructor
    · apply Classical.byContradiction
      intro g
      have := Int.mul_neg_of_pos_of_neg (show 0 < x by omega) (show y < 0 by omega)
      omega
    · apply Classical.byContradiction
      intro g
      have := Int.mul_neg_of_neg_of_pos (show x < 0 by omega) (show 0 < y by omega)
      omega
  · rintro ⟨h, g⟩; omega
theorem on_land {a b p : P} (hn : Nrs [a, b, p]) : on a b p = decide (crs a b a p = 0 ∧ btw a.1 b.1 p.1 ∧ btw a.2 b.2 p.2) := by
  unfold on
  by_cases h0 : crs a b a p = 0
  · have := on_box h0
    simp only [hn, h0, this, true_and]
  · simp [h0]

/-! on a line, the order by X and Y serves -/
theorem on_K {a b p : P} (ha : Nr a) (hb : Nr b) (hp : Nr p) (h0 : crs a b a p = 0) : on a b p = true ↔ btw (K a) (K b) (K p) := by
  rw [on_iff (nrs3.2 ⟨ha, hb, hp⟩)]
  simp only [h0, true_and]
  by_cases hab : a = b
  · subst hab
    rw [on_same, ← K_eq ha hp]
    unfold btw; omega
  · rw [on_range h0 hab]
    have e1 : crs a b a b = 0 := by unfold crs; grind
    have p1 : par (vec a b) a b := par_iff.2 e1
    have p2 : par (vec a b) a p := par_iff.2 h0
    have p3 : par (vec a b) p b := par_iff.2 (by unfold crs at *; grind)
    have f1 : F (vec a b) b - F (vec a b) a = dt a b a b := F_dt a b a b
    have f2 : F (vec a b) p - F (vec a b) a = dt a b a p := F_dt a b a p
    have hN : 0 < dt a b a b := by
      have := dt_nn a b
      have : dt a b a b ≠ 0 := fun h => hab (dt_zero.1 h)
      omega
    have hu := vec_ne hab
    by_cases hup : up (vec a b)
    · have k1 := par_lt ha hb hup p1
      have k2 := par_lt hp ha hup (par_rev p2)
      have k3 := par_lt hb hp hup (par_rev p3)
      unfold btw
      generalize F (vec a b) a = fa at *
      generalize F (vec a b) b = fb at *
      generalize F (vec a b) p = fp at *
      omega
    · have hup' : up (-(vec a b).1, -(vec a b).2) := by
        generalize vec a b = u at *
        obtain ⟨x, y⟩ := u
        unfold up at *
        simp only [ne_eq, Prod.mk.injEq] at *
        omega
      have k1 := par_lt hb ha hup' (par_neg (par_rev p1))
      have k2 := par_lt ha hp hup' (par_neg p2)
      have k3 := par_lt hp hb hup' (par_neg p3)
      rw [F_neg, F_neg] at k1 k2 k3
      unfold btw
      generalize F (vec a b) a = fa at *
      generalize F (vec a b) b = fb at *
      generalize F (vec a b) p = fp at *
      omega

/-! halves of a turn -/
def hs (o p : P) : Bool := decide (p.2 < o.2 ∨ p.2 = o.2 ∧ p.1 < o.1)
theorem hs_qt {o p : P} (h : p ≠ o) : hs o p = decide (2 ≤ qt o p) := by
  obtain ⟨p1, p2⟩ := p
  obtain ⟨o1, o2⟩ := o
  simp only [ne_eq, Prod.mk.injEq] at h
  unfold hs qt
  simp only
  refine decide_eq_decide.2 ?_
  split
  · omega
  · split
    · omega
    · split <;> omega
theorem qt_cases {o a : P} (h : a ≠ o) : (qt o a = 0 ∧ 0 < a.1 - o.1 ∧ 0 ≤ a.2 - o.2) ∨ (qt o a = 1 ∧ a.1 - o.1 ≤ 0 ∧ 0 < a.2 - o.2) ∨ (qt o a = 2 ∧ a.1 - o.1 < 0 ∧ a.2 - o.2 ≤ 0) ∨ (qt o a = 3 ∧ 0 ≤ a.1 - o.1 ∧ a.2 - o.2 < 0) := by
  obtain ⟨a1, a2⟩ := a
  obtain ⟨o1, o2⟩ := o
  simp only [ne_eq, Prod.mk.injEq] at h
  unfold qt
  simp only
  split
  · omega
  · split
    · omega
    · split <;> omega
theorem q_lt {o a b : P} (ha : a ≠ o) (hb : b ≠ o) (h : qt o a < qt o b) (h2 : 2 ≤ qt o a ↔ 2 ≤ qt o b) : 0 < crs o a o b := by
  have ca := qt_cases ha
  have cb := qt_cases hb
  unfold crs
  rcases ca with ⟨q, x, y⟩ | ⟨q, x, y⟩ | ⟨q, x, y⟩ | ⟨q, x, y⟩ <;> rcases cb with ⟨r, u, v⟩ | ⟨r, u, v⟩ | ⟨r, u, v⟩ | ⟨r, u, v⟩
  all_goals try omega
  · have m1 := Int.mul_pos x v
    have m2 := Int.mul_nonpos_of_nonneg_of_nonpos y u
    omega
  · have m1 := Int.mul_pos_of_neg_of_neg x v
    have m2 := Int.mul_nonpos_of_nonpos_of_nonneg y u
    omega
theorem les_half {o a b : P} (hn : Nrs [o, a, b]) (ha : a ≠ o) (hb : b ≠ o) : les o a b = if hs o b = hs o a then decide (0 < crs o a o b) else hs o b := by
  have e : les o a b = decide (qt o a < qt o b ∨ qt o a = qt o b ∧ 0 < crs o a o b) := by
    unfold les; simp [hn, ha, hb]
  have f : crs o b o a = - crs o a o b := crs_flip2 _ _ _
  have k1 := q_lt ha hb
  have k2 := q_lt hb ha
  rw [e, hs_qt ha, hs_qt hb]
  rw [f] at k2
  generalize crs o a o b = C at *
  generalize qt o a = p at *
  generalize qt o b = q at *
  by_cases g : (2 ≤ p ↔ 2 ≤ q)
  · rw [if_pos (decide_eq_decide.2 g.symm)]
    refine decide_eq_decide.2 ?_
    rcases Int.lt_trichotomy p q with h | h | h
    · have := k1 h g; simp [h, this]
    · subst h; simp
    · have := k2 h g.symm
      omega
  · rw [if_neg (fun h => g (decide_eq_decide.1 h).symm)]
    refine decide_eq_decide.2 ?_
    omega

/-! common ends of two segments of one line -/
/-- a point of the list is looked at: how many points have been found, and the first of them -/
def ce1 (f : P → Bool) (s : Int × P) (p : P) : Int × P :=
  if s.1 = 2 then s else if f p = false then s else if s.1 = 1 ∧ p ≠ s.2 then (2, s.2) else (1, p)
def com (a b c d p : P) : Bool := on a b p && on c d p
def ce (a b c d : P) : Int := ([a, b, c, d].foldl (ce1 (com a b c d)) (0, (0, 0))).1
theorem fold2 (f : P → Bool) (q : P) : ∀ l : List P, (l.foldl (ce1 f) (2, q)) = (2, q)
  | [] => rfl
  | p :: l => by
    have : ce1 f (2, q) p = (2, q) := by unfold ce1; rw [if_pos rfl]
    rw [List.foldl_cons, this, fold2 f q l]
theorem fold1 (f : P → Bool) (q : P) : ∀ l : List P, (l.foldl (ce1 f) (1, q)).1 = if ∃ p ∈ l, f p = true ∧ p ≠ q then 2 else 1
  | [] => by simp
  | p :: l => by
    rw [List.foldl_cons]
    by_cases h : f p = true
    · by_cases g : p = q
      · subst g
        have : ce1 f (1, p) p = (1, p) := by unfold ce1; simp [h]
        rw [this, fold1 f p l]
        refine ifc ⟨fun ⟨r, hr, k⟩ => ⟨r, List.mem_cons_of_mem _ hr, k⟩, ?_⟩ rfl rfl
        rintro ⟨r, hr, k⟩
        rcases List.mem_cons.1 hr with e | e
        · exact absurd e k.2
        · exact ⟨r, e, k⟩
      · have : ce1 f (1, q) p = (2, q) := by unfold ce1; simp [h, g]
        rw [this, fold2, if_pos ⟨p, List.mem_cons_self, h, g⟩]
    · have : ce1 f (1, q) p = (1, q) := by unfold ce1; simp [h]
      rw [this, fold1 f q l]
      refine ifc ⟨fun ⟨r, hr, k⟩ => ⟨r, List.mem_cons_of_mem _ hr, k⟩, ?_⟩ rfl rfl
      rintro ⟨r, hr, k⟩
      rcases List.mem_cons.1 hr with e | e
      · subst e; exact absurd k.1 h
      · exact ⟨r, e, k⟩
theorem fold0 (f : P → Bool) (z p : P) (l : List P) : ((p :: l).foldl (ce1 f) (0, z)).1 = if f p = true then (if ∃ r ∈ l, f r = true ∧ r ≠ p then 2 else 1) else (l.foldl (ce1 f) (0, z)).1 := by
  rw [List.foldl_cons]
  by_cases h : f p = true
  · have : ce1 f (0, z) p = (1, p) := by unfold ce1; simp [h]
    rw [this, fold1, if_pos h]
  · have : ce1 f (0, z) p = (0, z) := by unfold ce1; simp [h]
    rw [this, if_neg h]
theorem ce_ints (A B C D : Int) (fa fb fc fd : Prop) [Decidable fa] [Decidable fb] [Decidable fc] [Decidable fd] (ha : fa ↔ btw C D A) (hb : fb ↔ btw C D B) (hc : fc ↔ btw A B C) (hd : fd ↔ btw A B D) :
    (if fa then (if (fb ∧ B ≠ A) ∨ (fc ∧ C ≠ A) ∨ (fd ∧ D ≠ A) then 2 else 1)
      else if fb then (if (fc ∧ C ≠ B) ∨ (fd ∧ D ≠ B) then 2 else 1)
      else if fc then (if fd ∧ D ≠ C then 2 else 1)
      else if fd then 1 else 0) = if A = B ∧ C = D ∧ A ≠ C then 0 else shr A B C D := by
  simp only [ha, hb, hc, hd]
  unfold shr over meets btw
  repeat' split
  all_goals omega
theorem com_K {a b c d p : P} (ha : Nr a) (hb : Nr b) (hc : Nr c) (hd : Nr d) (hp : Nr p) (h1 : crs a b a p = 0) (h2 : crs c d c p = 0) : com a b c d p = true ↔ btw (K a) (K b) (K p) ∧ btw (K c) (K d) (K p) := by
  unfold com
  rw [Bool.and_eq_true, on_K ha hb hp h1, on_K hc hd hp h2]
theorem ce_eq {a b c d : P} (hn : Nrs [a, b, c, d]) (h : col a b c d) : ce a b c d = if a = b ∧ c = d ∧ a ≠ c then 0 else shr (K a) (K b) (K c) (K d) := by
  rw [nrs4] at hn
  obtain ⟨ha, hb, hc, hd⟩ := hn
  obtain ⟨h1, h2, h3, h4⟩ := h
  have z1 : crs a b a a = 0 := by unfold crs; simp
  have z2 : crs a b a b = 0 := by unfold crs; grind
  have z3 : crs c d c c = 0 := by unfold crs; simp
  have z4 : crs c d c d = 0 := by unfold crs; grind
  have ka := com_K ha hb hc hd ha z1 h3
  have kb := com_K ha hb hc hd hb z2 h4
  have kc := com_K ha hb hc hd hc h1 z3
  have kd := com_K ha hb hc hd hd h2 z4
  have e := ce_ints (K a) (K b) (K c) (K d) (com a b c d a = true) (com a b c d b = true) (com a b c d c = true) (com a b c d d = true)
    (by rw [ka]; unfold btw; omega) (by rw [kb]; unfold btw; omega) (by rw [kc]; unfold btw; omega) (by rw [kd]; unfold btw; omega)
  simp only [ne_eq, K_eq ha hb, K_eq hc hd, K_eq ha hc, K_eq hb ha, K_eq hc ha, K_eq hd ha, K_eq hc hb, K_eq hd hb, K_eq hd hc] at e
  rw [← e]
  unfold ce
  rw [fold0, fold0, fold0, fold0]
  simp only [List.foldl, List.mem_cons, List.not_mem_nil, or_false, exists_eq_or_imp, exists_eq_left, ne_eq, false_and, exists_false, if_false]

/-! the number of common points by the sides of the ends -/
theorem sgn_mul (s t : Int) : 0 < sgn s * sgn t ↔ (0 < s ∧ 0 < t) ∨ (s < 0 ∧ t < 0) := by
  unfold sgn
  repeat' split
  all_goals simp
  all_goals omega
theorem sgn_zero (s : Int) : sgn s = 0 ↔ s = 0 := by
  unfold sgn
  repeat' split
  all_goals omega
theorem mt_land {a b c d : P} (hn : Nrs [a, b, c, d]) :
    mt a b c d = if 0 < sd a b c * sd a b d ∨ 0 < sd c d a * sd c d b then 0 else if sd a b c = 0 ∧ sd a b d = 0 then ce a b c d else 1 := by
  have h4 := nrs4.1 hn
  obtain ⟨ha, hb, hc, hd⟩ := h4
  have t1 : tw a b c = crs a b a c := by unfold tw; rw [if_pos (nrs3.2 ⟨ha, hb, hc⟩)]
  have t2 : tw a b d = crs a b a d := by unfold tw; rw [if_pos (nrs3.2 ⟨ha, hb, hd⟩)]
  have t3 : tw c d a = crs c d c a := by unfold tw; rw [if_pos (nrs3.2 ⟨hc, hd, ha⟩)]
  have t4 : tw c d b = crs c d c b := by unfold tw; rw [if_pos (nrs3.2 ⟨hc, hd, hb⟩)]
  unfold sd
  rw [t1, t2, t3, t4]
  simp only [sgn_mul, sgn_zero]
  have e1 : crs a b a c = - crs a c a b := by have := crs_flip2 a b c; omega
  have e2 : crs a b a d = crs a b c d - crs a c a b := by unfold crs; grind
  have e3 : crs c d c a = crs a c c d := by unfold crs; grind
  have e4 : crs c d c b = crs a c c d - crs a b c d := by unfold crs; grind
  have hce := ce_eq hn
  rw [mt_near hn]
  have hco : col a b c d ↔ crs a b a c = 0 ∧ crs a b a d = 0 ∧ crs c d c a = 0 ∧ crs c d c b = 0 := Iff.rfl
  have hab : a = b → crs a b c d = 0 ∧ crs a c a b = 0 := by rintro rfl; exact ⟨crs_aa _ _ _, by unfold crs; simp⟩
  have hcd : c = d → crs a b c d = 0 ∧ crs a c c d = 0 := by rintro rfl; exact ⟨by unfold crs; simp, by unfold crs; simp⟩
  rw [e1, e2, e3, e4] at hco ⊢
  generalize crs a b c d = n at *
  generalize crs a c a b = t at *
  generalize crs a c c d = s at *
  by_cases h0 : col a b c d
  · rw [hce h0]
    have := hco.1 h0
    rw [if_neg (show ¬ ((0 < -t ∧ 0 < n - t ∨ -t < 0 ∧ n - t < 0) ∨ (0 < s ∧ 0 < s - n ∨ s < 0 ∧ s - n < 0)) by omega), if_pos (show -t = 0 ∧ n - t = 0 by omega)]
    by_cases h1 : a = b ∧ c = d ∧ a ≠ c
    · rw [if_pos h1, if_pos h1]
    · rw [if_neg h1, if_neg h1, if_pos (show n = 0 by omega), if_pos this]
  · have hno : ¬ (-t = 0 ∧ n - t = 0 ∧ s = 0 ∧ s - n = 0) := fun h => h0 (hco.2 h)
    have h1 : ¬ (a = b ∧ c = d ∧ a ≠ c) := by
      rintro ⟨h, g, _⟩
      have := hab h
      have := hcd g
      exact hno (by omega)
    rw [if_neg h1]
    by_cases hz : n = 0
    · rw [if_pos hz, if_neg hno, if_pos (by omega)]
    · rw [if_neg hz]
      by_cases hi : in01 n s ∧ in01 n t
      · rw [if_pos hi]
        unfold in01 at hi
        rw [if_neg (by omega), if_neg (by omega)]
      · rw [if_neg hi]
        unfold in01 at hi
        rw [if_pos (by omega)]
end Go.Proofs.Ytjdkgndecnhokaa.Geom
