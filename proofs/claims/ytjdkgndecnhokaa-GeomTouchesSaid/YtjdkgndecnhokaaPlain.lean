/- Plain mathematics for the contracts of layer 1 (num): quotients rounded down, the range of an int, products, fractions. No Go and no program in this text. -/
namespace Go.Proofs.Ytjdkgndecnhokaa.Num
set_option linter.unusedVariables false

/-- a / b rounded down, for b not 0. -/
def fl (a b : Int) : Int := if 0 < b then a / b else (-a) / (-b)

/-- what characterizes it: a remainder of b's sign, nearer to 0 than b. -/
theorem fl_of {a b q r : Int} (h : a = b * q + r) (hp : 0 < b → 0 ≤ r ∧ r < b) (hn : b < 0 → b < r ∧ r ≤ 0) (h0 : b ≠ 0) : fl a b = q := by
  unfold fl
  by_cases hb : 0 < b
  · rw [if_pos hb]
    have := hp hb
    exact ((Int.ediv_emod_unique hb).2 ⟨by omega, this.1, this.2⟩).1
  · rw [if_neg hb]
    have hb' : b < 0 := by omega
    have := hn hb'
    refine ((Int.ediv_emod_unique (b := -b) (a := -a) (q := q) (r := -r) (by omega)).2 ⟨?_, by omega, by omega⟩).1
    rw [Int.neg_mul]; omega

/-- the remainder of fl. -/
theorem fl_rest (a b : Int) (h0 : b ≠ 0) : ∃ r, a = b * fl a b + r ∧ (0 < b → 0 ≤ r ∧ r < b) ∧ (b < 0 → b < r ∧ r ≤ 0) := by
  unfold fl
  by_cases hb : 0 < b
  · rw [if_pos hb]
    refine ⟨a % b, by have := Int.mul_ediv_add_emod a b; omega, fun _ => ⟨Int.emod_nonneg _ h0, Int.emod_lt_of_pos _ hb⟩, fun _ => by omega⟩
  · rw [if_neg hb]
    have hb' : 0 < -b := by omega
    have h1 := Int.emod_nonneg (-a) (b := -b) (by omega)
    have h2 := Int.emod_lt_of_pos (-a) hb'
    refine ⟨-((-a) % (-b)), ?_, fun _ => by omega, fun _ => by omega⟩
    have := Int.mul_ediv_add_emod (-a) (-b)
    rw [Int.neg_mul] at this
    omega

/-- an int has 64 bits -/
def okI (x : Int) : Prop := -9223372036854775808 ≤ x ∧ x ≤ 9223372036854775807
instance (x : Int) : Decidable (okI x) := by unfold okI; exact inferInstance
def rv (x : Int) : Int := if okI x then x else 0
def re (x : Int) : Int := if okI x then 0 else 15
theorem rv_ok {x : Int} (h : okI x) : rv x = x := if_pos h
theorem re_ok {x : Int} (h : okI x) : re x = 0 := if_pos h
theorem rv_no {x : Int} (h : ¬ okI x) : rv x = 0 := if_neg h
theorem re_no {x : Int} (h : ¬ okI x) : re x = 15 := if_neg h
/-- a number of size u with a sign -/
def sg (u : Int) (neg : Bool) : Int := cond neg (-u) u
theorem ok_pos {u : Int} (h0 : 0 ≤ u) (h : u < 9223372036854775808) : okI (sg u false) := show (-9223372036854775808 : Int) ≤ u ∧ u ≤ 9223372036854775807 from ⟨by omega, by omega⟩
theorem no_pos {u : Int} (h : ¬ u < 9223372036854775808) : ¬ okI (sg u false) := show ¬ ((-9223372036854775808 : Int) ≤ u ∧ u ≤ 9223372036854775807) from by omega
theorem ok_neg {u : Int} (h0 : 0 ≤ u) (h : u ≤ 9223372036854775808) : okI (sg u true) := show (-9223372036854775808 : Int) ≤ -u ∧ -u ≤ 9223372036854775807 from ⟨by omega, by omega⟩
theorem no_neg {u : Int} (h : ¬ u ≤ 9223372036854775808) : ¬ okI (sg u true) := show ¬ ((-9223372036854775808 : Int) ≤ -u ∧ -u ≤ 9223372036854775807) from by omega

/-- Go's quotient and remainder (rounded towards 0) -/
theorem tm_spec (a b : Int) (hb : b ≠ 0) : a = b * a.tdiv b + a.tmod b ∧ (0 < b → -b < a.tmod b ∧ a.tmod b < b) ∧ (b < 0 → b < a.tmod b ∧ a.tmod b < -b) ∧ (0 ≤ a → 0 ≤ a.tmod b) ∧ (a ≤ 0 → a.tmod b ≤ 0) := by
  have h1 := Int.mul_tdiv_add_tmod a b
  have h2 := Int.natAbs_tmod a b
  have h3 : a.natAbs % b.natAbs < b.natAbs := Nat.mod_lt _ (by omega)
  refine ⟨by omega, fun _ => by omega, fun _ => by omega, fun h => Int.tmod_nonneg b h, fun h => ?_⟩
  have h4 := Int.tmod_nonneg b (a := -a) (by omega)
  rw [Int.neg_tmod] at h4
  omega
theorem td_small (a b : Int) (ha : okI a) (h : 1 < b ∨ b < -1) : -4611686018427387904 ≤ a.tdiv b ∧ a.tdiv b ≤ 4611686018427387904 := by
  have h1 : (a.tdiv b).natAbs = a.natAbs / b.natAbs := Int.natAbs_tdiv a b
  have h2 : a.natAbs / b.natAbs ≤ a.natAbs / 2 := Nat.div_le_div_left (by omega) (by omega)
  unfold okI at ha
  omega
theorem td_one (a : Int) : a.tdiv 1 = a ∧ a.tmod 1 = 0 ∧ a.tdiv (-1) = -a ∧ a.tmod (-1) = 0 := by
  have h := Int.mul_tdiv_add_tmod a 1
  have e : a.tdiv (-1) = -a := by rw [Int.tdiv_neg, Int.tdiv_one]
  have g := Int.mul_tdiv_add_tmod a (-1)
  rw [e] at g
  rw [Int.tdiv_one] at h
  exact ⟨Int.tdiv_one a, by omega, e, by omega⟩
theorem td_ok (a b : Int) (ha : okI a) (hb : b ≠ 0) (h : -9223372036854775808 < a ∨ b ≠ -1) : okI (a.tdiv b) := by
  by_cases h1 : b = 1
  · rw [h1, (td_one a).1]; exact ha
  by_cases h2 : b = -1
  · rw [h2, (td_one a).2.2.1]; unfold okI at ha ⊢; omega
  have := td_small a b ha (by omega)
  unfold okI; omega

/-- fl in Go's terms: what is left has b's sign, or is 0. -/
theorem fl_same (a b : Int) (hb : b ≠ 0) (h : a.tmod b = 0 ∨ (0 < b ∧ 0 < a.tmod b) ∨ (b < 0 ∧ a.tmod b < 0)) : fl a b = a.tdiv b := by
  obtain ⟨e, p, n, _⟩ := tm_spec a b hb
  exact fl_of e (fun h => by have := p h; omega) (fun h => by have := n h; omega) hb
theorem fl_less (a b : Int) (hb : b ≠ 0) (h : (0 < b ∧ a.tmod b < 0) ∨ (b < 0 ∧ 0 < a.tmod b)) : fl a b = a.tdiv b - 1 := by
  obtain ⟨e, p, n, _⟩ := tm_spec a b hb
  refine fl_of (r := a.tmod b + b) ?_ (fun h => by have := p h; omega) (fun h => by have := n h; omega) hb
  rw [Int.mul_sub]; omega
theorem fl_ok (a b : Int) (ha : okI a) (hb : b ≠ 0) (h : -9223372036854775808 < a ∨ b ≠ -1) : okI (fl a b) := by
  have hd := td_ok a b ha hb h
  by_cases h0 : a.tmod b = 0
  · rw [fl_same a b hb (.inl h0)]; exact hd
  by_cases h1 : (0 < b ∧ 0 < a.tmod b) ∨ (b < 0 ∧ a.tmod b < 0)
  · rw [fl_same a b hb (.inr h1)]; exact hd
  rw [fl_less a b hb (by omega)]
  have hs := td_small a b ha (by
    have := td_one a
    by_cases e1 : b = 1
    · subst e1; omega
    by_cases e2 : b = -1
    · subst e2; omega
    omega)
  unfold okI; omega
theorem fl_over : fl (-9223372036854775808) (-1) = 9223372036854775808 := by decide
theorem no_over : ¬ okI (fl (-9223372036854775808) (-1)) := by decide

/-- a / b rounded up -/
def cl (a b : Int) : Int := if a - b * fl a b = 0 then fl a b else fl a b + 1
/-- a / b to the nearest integer, halves up -/
def rd (a b : Int) : Int := fl (2 * a + b) (2 * b)
theorem cl_zero (a b : Int) (hb : b ≠ 0) (h : a.tmod b = 0) : cl a b = a.tdiv b := by
  obtain ⟨e, _⟩ := tm_spec a b hb
  unfold cl
  rw [fl_same a b hb (.inl h), if_pos (by omega)]
theorem cl_same (a b : Int) (hb : b ≠ 0) (h : (0 < b ∧ 0 < a.tmod b) ∨ (b < 0 ∧ a.tmod b < 0)) : cl a b = a.tdiv b + 1 := by
  obtain ⟨e, _⟩ := tm_spec a b hb
  unfold cl
  rw [fl_same a b hb (.inr h), if_neg (by omega)]
theorem cl_less (a b : Int) (hb : b ≠ 0) (h : (0 < b ∧ a.tmod b < 0) ∨ (b < 0 ∧ 0 < a.tmod b)) : cl a b = a.tdiv b := by
  obtain ⟨e, p, n, _⟩ := tm_spec a b hb
  unfold cl
  rw [fl_less a b hb h, if_neg (by rw [Int.mul_sub]; omega)]
  omega
theorem td_step (a b : Int) (ha : okI a) (hb : b ≠ 0) (h : a.tmod b ≠ 0) : -4611686018427387904 ≤ a.tdiv b ∧ a.tdiv b ≤ 4611686018427387904 := by
  refine td_small a b ha ?_
  have := td_one a
  by_cases e1 : b = 1
  · subst e1; omega
  by_cases e2 : b = -1
  · subst e2; omega
  omega
theorem rd_of (a b q r : Int) (hb : b ≠ 0) (e : 2 * a + b = 2 * (b * q) + r) (hp : 0 < b → 0 ≤ r ∧ r < 2 * b) (hn : b < 0 → 2 * b < r ∧ r ≤ 0) : rd a b = q :=
  fl_of (r := r) (by rw [e, Int.mul_assoc]) (fun h => hp (by omega)) (fun h => hn (by omega)) (by omega)
theorem rd_zero (a b : Int) (hb : b ≠ 0) (h : a.tmod b = 0) : rd a b = a.tdiv b := by
  obtain ⟨e, p, n, _⟩ := tm_spec a b hb
  exact rd_of a b _ b hb (by omega) (by omega) (by omega)
/-- up: what is left has b's sign and is at least half of it -/
theorem rd_up (a b : Int) (hb : b ≠ 0) (h : (0 < b ∧ 0 < a.tmod b) ∨ (b < 0 ∧ a.tmod b < 0)) (g : b.natAbs ≤ 2 * (a.tmod b).natAbs) : rd a b = a.tdiv b + 1 := by
  obtain ⟨e, p, n, _⟩ := tm_spec a b hb
  refine rd_of a b _ (2 * a.tmod b - b) hb (by rw [Int.mul_add]; omega) (fun h => by have := p h; omega) (fun h => by have := n h; omega)
theorem rd_same (a b : Int) (hb : b ≠ 0) (h : (0 < b ∧ 0 < a.tmod b) ∨ (b < 0 ∧ a.tmod b < 0)) (g : 2 * (a.tmod b).natAbs < b.natAbs) : rd a b = a.tdiv b := by
  obtain ⟨e, p, n, _⟩ := tm_spec a b hb
  refine rd_of a b _ (2 * a.tmod b + b) hb (by omega) (fun h => by have := p h; omega) (fun h => by have := n h; omega)
theorem rd_down (a b : Int) (hb : b ≠ 0) (h : (0 < b ∧ a.tmod b < 0) ∨ (b < 0 ∧ 0 < a.tmod b)) (g : b.natAbs < 2 * (a.tmod b).natAbs) : rd a b = a.tdiv b - 1 := by
  obtain ⟨e, p, n, _⟩ := tm_spec a b hb
  refine rd_of a b _ (2 * a.tmod b + 3 * b) hb (by rw [Int.mul_sub]; omega) (fun h => by have := p h; omega) (fun h => by have := n h; omega)
theorem rd_less (a b : Int) (hb : b ≠ 0) (h : (0 < b ∧ a.tmod b < 0) ∨ (b < 0 ∧ 0 < a.tmod b)) (g : 2 * (a.tmod b).natAbs ≤ b.natAbs) : rd a b = a.tdiv b := by
  obtain ⟨e, p, n, _⟩ := tm_spec a b hb
  refine rd_of a b _ (2 * a.tmod b + b) hb (by omega) (fun h => by have := p h; omega) (fun h => by have := n h; omega)
theorem no_over_cl : ¬ okI (cl (-9223372036854775808) (-1)) := by decide
theorem no_over_rd : ¬ okI (rd (-9223372036854775808) (-1)) := by decide

/-- the reference's sign of a quotient -/
def mi (a b : Int) : Bool := (decide (a < 0) && decide (0 < b)) || (decide (0 < a) && decide (b < 0))
theorem mi_yes {a b : Int} (h : (a < 0 ∧ 0 < b) ∨ (0 < a ∧ b < 0)) : mi a b = true := by unfold mi; simp; exact h
theorem mi_no {a b : Int} (h : ¬ ((a < 0 ∧ 0 < b) ∨ (0 < a ∧ b < 0))) : mi a b = false := by
  unfold mi; simp; omega
theorem td_abs (a b : Int) : ((a.tdiv b).natAbs : Int) = (a.natAbs : Int) / (b.natAbs : Int) := by
  have h : (a.tdiv b).natAbs = a.natAbs / b.natAbs := Int.natAbs_tdiv a b
  rw [h, Int.natCast_ediv]
theorem tm_abs (a b : Int) : ((a.tmod b).natAbs : Int) = (a.natAbs : Int) % (b.natAbs : Int) := by
  rw [Int.natAbs_tmod, Int.natCast_emod]
theorem td_sign (a b : Int) : (mi a b = true → a.tdiv b ≤ 0) ∧ (mi a b = false → 0 ≤ a.tdiv b) := by
  have h1 : 0 ≤ a → 0 ≤ b → 0 ≤ a.tdiv b := fun x y => Int.tdiv_nonneg x y
  have h2 : a ≤ 0 → 0 ≤ b → a.tdiv b ≤ 0 := fun x y => by
    have := Int.tdiv_nonneg (a := -a) (b := b) (by omega) y
    rw [Int.neg_tdiv] at this; omega
  have h3 : 0 ≤ a → b ≤ 0 → a.tdiv b ≤ 0 := fun x y => by
    have := Int.tdiv_nonneg (a := a) (b := -b) x (by omega)
    rw [Int.tdiv_neg] at this; omega
  have h4 : a ≤ 0 → b ≤ 0 → 0 ≤ a.tdiv b := fun x y => by
    have := Int.tdiv_nonneg (a := -a) (b := -b) (by omega) (by omega)
    rw [Int.tdiv_neg, Int.neg_tdiv] at this; omega
  constructor
  · intro h
    by_cases g : (a < 0 ∧ 0 < b) ∨ (0 < a ∧ b < 0)
    · rcases g with g | g
      · exact h2 (by omega) (by omega)
      · exact h3 (by omega) (by omega)
    · rw [mi_no g] at h; cases h
  · intro h
    by_cases g : (a < 0 ∧ 0 < b) ∨ (0 < a ∧ b < 0)
    · rw [mi_yes g] at h; cases h
    · by_cases ha : 0 ≤ a
      · by_cases hb : 0 ≤ b
        · exact h1 ha hb
        · by_cases ha' : a = 0
          · subst ha'; simp
          · omega
      · by_cases hb : 0 < b
        · omega
        · exact h4 (by omega) (by omega)
/-- Go's quotient is the one of the absolute values, with its sign -/
theorem td_sg (a b : Int) : a.tdiv b = sg ((a.natAbs : Int) / (b.natAbs : Int)) (mi a b) := by
  have h := td_abs a b
  have s := td_sign a b
  cases hm : mi a b
  · have := s.2 hm
    show _ = (a.natAbs : Int) / (b.natAbs : Int)
    omega
  · have := s.1 hm
    show _ = -((a.natAbs : Int) / (b.natAbs : Int))
    omega
/-- what is left has b's sign exactly if the quotient is not negative -/
theorem tm_mi (a b : Int) (hb : b ≠ 0) (h : a.tmod b ≠ 0) : (mi a b = false → (0 < b ∧ 0 < a.tmod b) ∨ (b < 0 ∧ a.tmod b < 0)) ∧ (mi a b = true → (0 < b ∧ a.tmod b < 0) ∨ (b < 0 ∧ 0 < a.tmod b)) := by
  obtain ⟨e, p, n, q, r⟩ := tm_spec a b hb
  constructor
  · intro hm
    by_cases g : (a < 0 ∧ 0 < b) ∨ (0 < a ∧ b < 0)
    · rw [mi_yes g] at hm; cases hm
    · by_cases ha : 0 < a
      · have := q (by omega); omega
      · have := r (by omega)
        by_cases ha' : a = 0
        · subst ha'; simp at h
        · omega
  · intro hm
    by_cases g : (a < 0 ∧ 0 < b) ∨ (0 < a ∧ b < 0)
    · rcases g with g | g
      · have := r (by omega); omega
      · have := q (by omega); omega
    · rw [mi_no g] at hm; cases hm

/-- fl, cl, rd out of the parts of the absolute values -/
theorem parts_rest (a b : Int) (hb : b ≠ 0) : (((a.natAbs : Int) % (b.natAbs : Int)) = 0 ↔ a.tmod b = 0) ∧ 0 ≤ (a.natAbs : Int) % (b.natAbs : Int) ∧ (a.natAbs : Int) % (b.natAbs : Int) < (b.natAbs : Int) ∧ ((a.tmod b).natAbs : Int) = (a.natAbs : Int) % (b.natAbs : Int) := by
  have h := tm_abs a b
  have h1 := Int.emod_nonneg (a.natAbs : Int) (b := (b.natAbs : Int)) (by omega)
  have h2 := Int.emod_lt_of_pos (a.natAbs : Int) (b := (b.natAbs : Int)) (by omega)
  omega
theorem fl_parts (a b q r : Int) (hb : b ≠ 0) (hq : q = (a.natAbs : Int) / (b.natAbs : Int)) (hr : r = (a.natAbs : Int) % (b.natAbs : Int)) :
    (mi a b = false → fl a b = sg q false) ∧ (mi a b = true → r = 0 → fl a b = sg q true) ∧ (mi a b = true → 0 < r → fl a b = sg (q + 1) true) := by
  obtain ⟨z, _, _, _⟩ := parts_rest a b hb
  have s := td_sg a b
  rw [← hr] at z
  rw [← hq] at s
  refine ⟨fun m => ?_, fun m h => ?_, fun m h => ?_⟩
  · rw [m] at s
    rw [← s]
    by_cases h0 : a.tmod b = 0
    · exact fl_same a b hb (.inl h0)
    · exact fl_same a b hb (.inr ((tm_mi a b hb h0).1 m))
  · rw [m] at s
    rw [← s]
    exact fl_same a b hb (.inl (z.1 h))
  · rw [m] at s
    have h0 : a.tmod b ≠ 0 := fun e => by have := z.2 e; omega
    rw [fl_less a b hb ((tm_mi a b hb h0).2 m), s]
    show -q - 1 = -(q + 1)
    omega
theorem cl_parts (a b q r : Int) (hb : b ≠ 0) (hq : q = (a.natAbs : Int) / (b.natAbs : Int)) (hr : r = (a.natAbs : Int) % (b.natAbs : Int)) :
    (mi a b = true → cl a b = sg q true) ∧ (mi a b = false → r = 0 → cl a b = sg q false) ∧ (mi a b = false → 0 < r → cl a b = sg (q + 1) false) := by
  obtain ⟨z, _, _, _⟩ := parts_rest a b hb
  have s := td_sg a b
  rw [← hr] at z
  rw [← hq] at s
  refine ⟨fun m => ?_, fun m h => ?_, fun m h => ?_⟩
  · rw [m] at s
    rw [← s]
    by_cases h0 : a.tmod b = 0
    · exact cl_zero a b hb h0
    · exact cl_less a b hb ((tm_mi a b hb h0).2 m)
  · rw [m] at s
    rw [← s]
    exact cl_zero a b hb (z.1 h)
  · rw [m] at s
    have h0 : a.tmod b ≠ 0 := fun e => by have := z.2 e; omega
    rw [cl_same a b hb ((tm_mi a b hb h0).1 m), s]
    rfl
theorem rd_parts (a b q r y : Int) (hb : b ≠ 0) (hq : q = (a.natAbs : Int) / (b.natAbs : Int)) (hr : r = (a.natAbs : Int) % (b.natAbs : Int)) (hy : y = (b.natAbs : Int)) :
    (mi a b = false → r < y - r → rd a b = sg q false) ∧ (mi a b = false → y - r ≤ r → rd a b = sg (q + 1) false) ∧ (mi a b = true → r ≤ y - r → rd a b = sg q true) ∧ (mi a b = true → y - r < r → rd a b = sg (q + 1) true) := by
  obtain ⟨z, z1, z2, z3⟩ := parts_rest a b hb
  have s := td_sg a b
  rw [← hr] at z z1 z2 z3
  rw [← hy] at z2
  rw [← hq] at s
  refine ⟨fun m h => ?_, fun m h => ?_, fun m h => ?_, fun m h => ?_⟩
  · rw [m] at s
    rw [← s]
    by_cases h0 : a.tmod b = 0
    · exact rd_zero a b hb h0
    · exact rd_same a b hb ((tm_mi a b hb h0).1 m) (by omega)
  · rw [m] at s
    have h0 : a.tmod b ≠ 0 := fun e => by have := z.2 e; omega
    rw [rd_up a b hb ((tm_mi a b hb h0).1 m) (by omega), s]
    rfl
  · rw [m] at s
    rw [← s]
    by_cases h0 : a.tmod b = 0
    · exact rd_zero a b hb h0
    · exact rd_less a b hb ((tm_mi a b hb h0).2 m) (by omega)
  · rw [m] at s
    have h0 : a.tmod b ≠ 0 := fun e => by have := z.2 e; omega
    rw [rd_down a b hb ((tm_mi a b hb h0).2 m) (by omega), s]
    show -q - 1 = -(q + 1)
    omega
/-- all that the walks need of the parts -/
theorem parts_all (a b : Int) (ha : okI a) (hb0 : okI b) (hb : b ≠ 0) : ∃ q r y : Int, q = (a.natAbs : Int) / (b.natAbs : Int) ∧ r = (a.natAbs : Int) % (b.natAbs : Int) ∧ y = (b.natAbs : Int) ∧ 0 ≤ q ∧ q ≤ 9223372036854775808 ∧ 0 ≤ r ∧ r < y ∧ y ≤ 9223372036854775808 := by
  refine ⟨_, _, _, rfl, rfl, rfl, ?_⟩
  have h1 := Int.ediv_nonneg (a := (a.natAbs : Int)) (b := (b.natAbs : Int)) (by omega) (by omega)
  have h2 := Int.ediv_le_self (a := (a.natAbs : Int)) (b.natAbs : Int) (by omega)
  obtain ⟨_, z1, z2, _⟩ := parts_rest a b hb
  unfold okI at ha hb0
  omega
end Go.Proofs.Ytjdkgndecnhokaa.Num
