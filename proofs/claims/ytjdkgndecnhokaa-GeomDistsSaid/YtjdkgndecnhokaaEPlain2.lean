/- Plain laws of geometry: motions, distances, points of segments, directions, boxes. No function of the program. -/
import Derived.Test.YtjdkgndecnhokaaEPlain
namespace Go.Proofs.Ytjdkgndecnhokaa.Geom
set_option linter.unusedVariables false

/-! common points by scalar products alone -/
def vec (a b : P) : P := (b.1 - a.1, b.2 - a.2)
theorem par_iff {a b p q : P} : par (vec a b) p q ↔ crs a b p q = 0 := by unfold par vec crs; simp only; omega
theorem F_dt (a b p q : P) : F (vec a b) q - F (vec a b) p = dt a b p q := F_sub _ _ _
theorem shr_shift (a b c d k : Int) : shr (a + k) (b + k) (c + k) (d + k) = shr a b c d := by
  apply shr_iso <;> omega
theorem vec_ne {a b : P} (h : a ≠ b) : vec a b ≠ (0, 0) := by
  obtain ⟨a1, a2⟩ := a
  obtain ⟨b1, b2⟩ := b
  unfold vec
  simp only [ne_eq, Prod.mk.injEq] at *
  omega
theorem shr_dt {a b c d : P} (ha : Nr a) (hb : Nr b) (hc : Nr c) (hd : Nr d) (hu : a ≠ b) (h1 : crs a b c d = 0) (h2 : crs a b a c = 0) (h3 : crs a b a d = 0) :
    shr (K a) (K b) (K c) (K d) = shr 0 (dt a b a b) (dt a b a c) (dt a b a d) := by
  have e1 : crs a b a b = 0 := by unfold crs; grind
  have e2 : crs a b b c = crs a b a c := by unfold crs; grind
  have e3 : crs a b b d = crs a b a d := by unfold crs; grind
  rw [shr_line ha hb hc hd (vec_ne hu) (par_iff.2 e1) (par_iff.2 h2) (par_iff.2 h3) (par_iff.2 (by rw [e2]; exact h2)) (par_iff.2 (by rw [e3]; exact h3)) (par_iff.2 h1)]
  rw [← shr_shift 0 (dt a b a b) (dt a b a c) (dt a b a d) (F (vec a b) a), ← F_dt a b a b, ← F_dt a b a c, ← F_dt a b a d]
  simp only [Int.sub_add_cancel, Int.zero_add]
theorem shr_same (x : Int) : shr x x x x = 1 := by unfold shr over meets; simp
def col (a b c d : P) : Prop := crs a b a c = 0 ∧ crs a b a d = 0 ∧ crs c d c a = 0 ∧ crs c d c b = 0
instance (a b c d : P) : Decidable (col a b c d) := by unfold col; infer_instance
def shrD (a b c d : P) : Int := if a ≠ b then shr 0 (dt a b a b) (dt a b a c) (dt a b a d) else if c ≠ d then shr 0 (dt c d c d) (dt c d c a) (dt c d c b) else 1
theorem shr_D {a b c d : P} (hn : Nrs [a, b, c, d]) (hg : ¬ (a = b ∧ c = d ∧ a ≠ c)) (h0 : crs a b c d = 0) (h : col a b c d) : shr (K a) (K b) (K c) (K d) = shrD a b c d := by
  rw [nrs4] at hn
  obtain ⟨ha, hb, hc, hd⟩ := hn
  obtain ⟨h1, h2, h3, h4⟩ := h
  unfold shrD
  by_cases hab : a = b
  · rw [if_neg (fun g => g hab)]
    by_cases hcd : c = d
    · rw [if_neg (fun g => g hcd)]
      subst hab hcd
      have : a = c := Classical.byContradiction fun g => hg ⟨rfl, rfl, g⟩
      subst this
      exact shr_same _
    · rw [if_pos hcd, ← shr_swap]
      have e : crs c d a b = - crs a b c d := by unfold crs; grind
      exact shr_dt hc hd ha hb hcd (by rw [e, h0]; rfl) h3 h4
  · rw [if_pos hab]
    exact shr_dt ha hb hc hd hab h0 h1 h2
theorem mt_D {a b c d : P} (hn : Nrs [a, b, c, d]) : mt a b c d = if a = b ∧ c = d ∧ a ≠ c then 0
    else if crs a b c d = 0 then (if col a b c d then shrD a b c d else 0)
    else if in01 (crs a b c d) (crs a c c d) ∧ in01 (crs a b c d) (crs a c a b) then 1 else 0 := by
  rw [mt_near hn]
  by_cases h1 : a = b ∧ c = d ∧ a ≠ c
  · rw [if_pos h1, if_pos h1]
  · rw [if_neg h1, if_neg h1]
    by_cases h2 : crs a b c d = 0
    · rw [if_pos h2, if_pos h2]
      by_cases h3 : col a b c d
      · rw [if_pos h3, if_pos (show crs a b a c = 0 ∧ crs a b a d = 0 ∧ crs c d c a = 0 ∧ crs c d c b = 0 from h3), shr_D hn h1 h2 h3]
      · rw [if_neg h3, if_neg (show ¬ (crs a b a c = 0 ∧ crs a b a d = 0 ∧ crs c d c a = 0 ∧ crs c d c b = 0) from h3)]
    · rw [if_neg h2, if_neg h2]

/-! motions -/
structure Rigid (T : P → P) : Prop where
  crs : ∀ a b c d, crs (T a) (T b) (T c) (T d) = crs a b c d
  dt : ∀ a b c d, dt (T a) (T b) (T c) (T d) = dt a b c d
theorem dt_zero {a b : P} : dt a b a b = 0 ↔ a = b := by
  constructor
  · intro h
    unfold dt at h
    have h1 := sq_nn (b.1 - a.1)
    have h2 := sq_nn (b.2 - a.2)
    have k1 : b.1 - a.1 = 0 := Classical.byContradiction fun g => by have := sq_pos g; omega
    have k2 : b.2 - a.2 = 0 := Classical.byContradiction fun g => by have := sq_pos g; omega
    exact Prod.ext (by omega) (by omega)
  · rintro rfl; unfold dt; simp
theorem dt_nn (a b : P) : 0 ≤ dt a b a b := by unfold dt; have := sq_nn (b.1 - a.1); have := sq_nn (b.2 - a.2); omega
theorem Rigid.inj {T : P → P} (h : Rigid T) {a b : P} : T a = T b ↔ a = b := by rw [← dt_zero, h.dt, dt_zero]
theorem shift_rigid (v : P) : Rigid fun p => (p.1 + v.1, p.2 + v.2) := ⟨fun a b c d => by unfold crs; simp only; grind, fun a b c d => by unfold dt; simp only; grind⟩
theorem turn_rigid : Rigid fun p => (-p.2, p.1) := ⟨fun a b c d => by unfold crs; simp only; grind, fun a b c d => by unfold dt; simp only; grind⟩
theorem mt_rigid {T : P → P} (h : Rigid T) {a b c d : P} (hn : Nrs [a, b, c, d]) (hn' : Nrs [T a, T b, T c, T d]) : mt (T a) (T b) (T c) (T d) = mt a b c d := by
  rw [mt_D hn, mt_D hn']
  unfold shrD col
  simp only [h.crs, h.dt, ne_eq, h.inj]
theorem tw_rigid {T : P → P} (h : Rigid T) {a b c : P} (hn : Nrs [a, b, c]) (hn' : Nrs [T a, T b, T c]) : tw (T a) (T b) (T c) = tw a b c := by
  unfold tw; rw [if_pos hn, if_pos hn', h.crs]
theorem on_rigid {T : P → P} (h : Rigid T) {a b c : P} (hn : Nrs [a, b, c]) (hn' : Nrs [T a, T b, T c]) : on (T a) (T b) (T c) = on a b c := by
  unfold on
  simp only [h.crs, h.dt, hn, hn']

/-! distances -/
def red (c n : Int) : Int × Int :=
  if c = 0 then (0, 1) else if 9223372036854775807 < c * c / (Int.gcd (c * c) n : Int) then (c * c / n, 1) else (c * c / (Int.gcd (c * c) n : Int), n / (Int.gcd (c * c) n : Int))
def ab (n : Int) : Int := if n < 0 then -n else n
def dis (a b p : P) : Int × Int :=
  if ¬ Nrs [a, b, p] then (0, 0) else if dt a b a p ≤ 0 then (dt a p a p, 1) else if dt a b a b ≤ dt a b a p then (dt b p b p, 1) else red (ab (crs a b a p)) (dt a b a b)
theorem dis_far {a b p : P} (h : ¬ Nrs [a, b, p]) : dis a b p = (0, 0) := by unfold dis; rw [if_pos h]
theorem dis_near {a b p : P} (h : Nrs [a, b, p]) : dis a b p = if dt a b a p ≤ 0 then (dt a p a p, 1) else if dt a b a b ≤ dt a b a p then (dt b p b p, 1) else red (ab (crs a b a p)) (dt a b a b) := by
  unfold dis; rw [if_neg (show ¬ ¬ Nrs [a, b, p] from fun g => g h)]
theorem dis_rigid {T : P → P} (h : Rigid T) {a b c : P} (hn : Nrs [a, b, c]) (hn' : Nrs [T a, T b, T c]) : dis (T a) (T b) (T c) = dis a b c := by
  rw [dis_near hn, dis_near hn']
  simp only [h.crs, h.dt]
theorem dis_rev (a b p : P) : dis b a p = dis a b p := by
  by_cases hn : Nrs [a, b, p]
  · have hn' : Nrs [b, a, p] := by rw [nrs3] at *; exact ⟨hn.2.1, hn.1, hn.2.2⟩
    rw [dis_near hn, dis_near hn']
    have e1 : dt b a b p = dt a b a b - dt a b a p := by unfold dt; grind
    have e2 : dt b a b a = dt a b a b := by unfold dt; grind
    have e3 : crs b a b p = - crs a b a p := by unfold crs; grind
    have e4 : ab (- crs a b a p) = ab (crs a b a p) := by unfold ab; split <;> split <;> omega
    rw [e1, e2, e3, e4]
    have h0 := dt_nn a b
    by_cases h1 : dt a b a p ≤ 0
    · rw [if_pos h1]
      by_cases h2 : dt a b a b - dt a b a p ≤ 0
      · have : a = b := dt_zero.1 (by omega)
        subst this
        rw [if_pos h2]
      · rw [if_neg h2, if_pos (by omega)]
    · rw [if_neg h1]
      by_cases h2 : dt a b a b ≤ dt a b a p
      · rw [if_pos h2, if_pos (by omega)]
      · rw [if_neg h2, if_neg (by omega), if_neg (by omega)]
  · have hn' : ¬ Nrs [b, a, p] := fun h => hn (by rw [nrs3] at *; exact ⟨h.2.1, h.1, h.2.2⟩)
    rw [dis_far hn, dis_far hn']
end Go.Proofs.Ytjdkgndecnhokaa.Geom
