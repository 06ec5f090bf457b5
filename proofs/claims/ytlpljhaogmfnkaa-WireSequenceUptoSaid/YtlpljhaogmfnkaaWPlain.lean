/- The plain numbers and lists of layer 2 (wire): digits to the base 128, and reading them back. No program. -/
namespace Go.Proofs.Ytlpljhaogmfnkaa.Wire

def dig : Nat → Int → List Int
  | 0, u => [u]
  | f + 1, u => if u < 128 then [u] else (u % 128 + 128) :: dig f (u / 128)
def zig (n : Int) : Int := if n < 0 then -2 * n - 1 else 2 * n
def zag (u : Int) : Int := if u % 2 = 0 then u / 2 else -(u / 2) - 1
def enc (n : Int) : List Int := dig 9 (zig n)

theorem dig_small (f : Nat) {u : Int} (h : u < 128) : dig f u = [u] := by
  cases f with
  | zero => rfl
  | succ f => simp [dig, h]
theorem dig_big (f : Nat) {u : Int} (h : ¬ u < 128) : dig (f + 1) u = (u % 128 + 128) :: dig f (u / 128) := by simp [dig, h]

theorem dig_len (f : Nat) : ∀ u : Int, 1 ≤ (dig f u).length ∧ (dig f u).length ≤ f + 1 := by
  induction f with
  | zero => intro u; simp [dig]
  | succ f ih =>
    intro u
    by_cases h : u < 128
    · rw [dig_small _ h]; simp
    · rw [dig_big _ h, List.length_cons]
      have := ih (u / 128)
      omega

def byts (l : List Int) : Prop := ∀ x ∈ l, 0 ≤ x ∧ x ≤ 255
theorem byts_app {a b : List Int} (ha : byts a) (hb : byts b) : byts (a ++ b) := by
  intro x hx
  rcases List.mem_append.1 hx with h | h
  · exact ha x h
  · exact hb x h
theorem byts_get {l : List Int} (h : byts l) (i : Nat) : 0 ≤ l.getD i 0 ∧ l.getD i 0 ≤ 255 := by
  by_cases hi : i < l.length
  · have := h l[i] (List.getElem_mem hi)
    simpa [List.getD, List.getElem?_eq_getElem hi] using this
  · simp [List.getD, List.getElem?_eq_none (Nat.le_of_not_lt hi)]
theorem byts_take {l : List Int} (h : byts l) (k : Nat) : byts (l.take k) := fun x hx => h x (List.mem_of_mem_take hx)
theorem byts_drop {l : List Int} (h : byts l) (k : Nat) : byts (l.drop k) := fun x hx => h x (List.mem_of_mem_drop hx)

theorem pow_pos (k : Nat) : (0 : Int) < 128 ^ k := Int.pow_pos (by omega)
theorem pow_s (k : Nat) : (128 : Int) ^ (k + 1) = 128 * 128 ^ k := by rw [Int.pow_succ, Int.mul_comm]

theorem pow_mono {i j : Nat} (h : i ≤ j) : (128 : Int) ^ i ≤ 128 ^ j := by
  obtain ⟨d, rfl⟩ : ∃ d, j = i + d := ⟨j - i, by omega⟩
  clear h
  induction d with
  | zero => exact Int.le_refl _
  | succ d ih =>
    have := pow_pos (i + d)
    rw [← Nat.add_assoc, pow_s]
    omega
theorem dig_byts (f : Nat) : ∀ u : Int, 0 ≤ u → u < 2 * 128 ^ f → byts (dig f u) := by
  induction f with
  | zero => intro u h0 h x hx; simp [dig] at hx; subst hx; simp at h; omega
  | succ f ih =>
    intro u h0 h
    by_cases hs : u < 128
    · rw [dig_small _ hs]; intro x hx; simp at hx; subst hx; omega
    · rw [dig_big _ hs]
      intro x hx
      rcases List.mem_cons.1 hx with rfl | hx
      · omega
      · rw [pow_s] at h
        exact ih (u / 128) (by omega) (by omega) x hx

theorem zig_b {n : Int} (h1 : -9223372036854775808 ≤ n) (h2 : n ≤ 9223372036854775807) : 0 ≤ zig n ∧ zig n ≤ 18446744073709551615 := by
  unfold zig; split <;> omega
theorem pow9 : (2 : Int) * 128 ^ 9 = 18446744073709551616 := by decide
theorem zig_c {n : Int} (h1 : -9223372036854775808 ≤ n) (h2 : n ≤ 9223372036854775807) : zig n < 2 * 128 ^ 9 := by
  rw [pow9]; have := zig_b h1 h2; omega
theorem enc_byts {n : Int} (h1 : -9223372036854775808 ≤ n) (h2 : n ≤ 9223372036854775807) : byts (enc n) := dig_byts 9 _ (zig_b h1 h2).1 (zig_c h1 h2)
theorem enc_len (n : Int) : 1 ≤ (enc n).length ∧ (enc n).length ≤ 10 := dig_len 9 _
theorem zag_zig (n : Int) : zag (zig n) = n := by
  unfold zig
  by_cases h : n < 0
  · rw [if_pos h]; unfold zag; rw [if_neg (by omega)]; omega
  · rw [if_neg h]; unfold zag; rw [if_pos (by omega)]; omega
theorem zig_zag (u : Int) (h : 0 ≤ u) : zig (zag u) = u := by
  unfold zag
  by_cases e : u % 2 = 0
  · rw [if_pos e]; unfold zig; rw [if_neg (by omega)]; omega
  · rw [if_neg e]; unfold zig; rw [if_pos (by omega)]; omega
theorem zag_b {u : Int} (h0 : 0 ≤ u) (h : u ≤ 18446744073709551615) : -9223372036854775808 ≤ zag u ∧ zag u ≤ 9223372036854775807 := by
  unfold zag; split <;> omega

/-- how many of the first f bytes are 128 or more, from the start -/
def run : Nat → List Int → Nat
  | 0, _ => 0
  | _ + 1, [] => 0
  | f + 1, b :: r => if b < 128 then 0 else run f r + 1
def val : List Int → Int
  | [] => 0
  | b :: r => b % 128 + 128 * val r

theorem run_of (f : Nat) : ∀ (b : List Int) (k : Nat), k ≤ f → k ≤ b.length → (∀ j, j < k → 128 ≤ b.getD j 0) → (k = f ∨ k = b.length ∨ b.getD k 0 < 128) → run f b = k := by
  induction f with
  | zero => intro b k hk _ _ _; simp [run]; omega
  | succ f ih =>
    intro b k hk hl hall hst
    cases b with
    | nil => simp at hl; subst hl; simp [run]
    | cons b r =>
      cases k with
      | zero =>
        rcases hst with h | h | h
        · omega
        · simp at h
        · simp [run]; simpa using h
      | succ k =>
        have h0 := hall 0 (by omega)
        simp at h0
        rw [run, if_neg (by omega)]
        rw [ih r k (by omega) (by simpa using hl) (fun j hj => by simpa using hall (j + 1) (by omega)) (by
          rcases hst with h | h | h
          · left; omega
          · right; left; simpa using h
          · right; right; simpa using h)]
theorem run_le (f : Nat) : ∀ b : List Int, run f b ≤ f ∧ run f b ≤ b.length := by
  induction f with
  | zero => intro b; simp [run]
  | succ f ih =>
    intro b
    cases b with
    | nil => simp [run]
    | cons b r =>
      rw [run]
      have := ih r
      split
      · simp
      · simp only [List.length_cons]; omega
theorem run_high (f : Nat) : ∀ (b : List Int) (j : Nat), j < run f b → 128 ≤ b.getD j 0 := by
  induction f with
  | zero => intro b j h; simp [run] at h
  | succ f ih =>
    intro b j h
    cases b with
    | nil => simp [run] at h
    | cons b r =>
      rw [run] at h
      split at h
      · omega
      · cases j with
        | zero => simp; omega
        | succ j => simpa using ih r j (by omega)
theorem run_low (f : Nat) : ∀ (b : List Int), run f b < f → run f b < b.length → b.getD (run f b) 0 < 128 := by
  induction f with
  | zero => intro b h; omega
  | succ f ih =>
    intro b h hl
    cases b with
    | nil => simp at hl
    | cons b r =>
      rw [run] at h hl ⊢
      split
      · simpa using ‹b < 128›
      · rename_i hb
        rw [if_neg hb] at h hl
        simpa using ih r (by omega) (by simpa using hl)

theorem val_b : ∀ l : List Int, 0 ≤ val l ∧ val l < 128 ^ l.length
  | [] => by simp [val]
  | b :: r => by
    have := val_b r
    rw [val, List.length_cons, pow_s]
    omega
theorem val_snoc : ∀ (l : List Int) (x : Int), val (l ++ [x]) = val l + 128 ^ l.length * (x % 128)
  | [], x => by simp [val]
  | b :: r, x => by
    rw [List.cons_append, val, val_snoc r x, val, List.length_cons, pow_s, Int.mul_assoc 128, Int.mul_add]
    omega
theorem take_snoc {l : List Int} {i : Nat} (h : i < l.length) : l.take (i + 1) = l.take i ++ [l.getD i 0] := by
  rw [List.take_succ_eq_append_getElem h]
  simp [List.getD, List.getElem?_eq_getElem h]
theorem val_take {l : List Int} {i : Nat} (h : i < l.length) : val (l.take (i + 1)) = val (l.take i) + 128 ^ i * (l.getD i 0 % 128) := by
  rw [take_snoc h, val_snoc, List.length_take, Nat.min_eq_left (Nat.le_of_lt h)]
theorem val_take_b (l : List Int) (i : Nat) : 0 ≤ val (l.take i) ∧ val (l.take i) < 128 ^ i := by
  have := val_b (l.take i)
  refine ⟨this.1, Int.lt_of_lt_of_le this.2 ?_⟩
  exact pow_mono (List.length_take_le _ _)

def bad (b : List Int) (k : Nat) : Prop := (0 < k ∧ b.getD k 0 = 0) ∨ (k = 9 ∧ 1 < b.getD k 0)
instance (b : List Int) (k : Nat) : Decidable (bad b k) := by unfold bad; exact inferInstance

def dec (b : List Int) : Int × Int × Int :=
  if run 10 b = 10 then (0, 0, 4) else if run 10 b = b.length then (0, 0, 5) else if bad b (run 10 b) then (0, 0, 4)
  else (zag (val (b.take (run 10 b + 1))), (run 10 b : Int) + 1, 0)
def dn (b : List Int) : Int := (dec b).1
def du (b : List Int) : Int := (dec b).2.1
def de (b : List Int) : Int := (dec b).2.2

theorem dec_form {b : List Int} (h : run 10 b = 10) : dec b = (0, 0, 4) := by rw [dec, if_pos h]
theorem dec_short {b : List Int} (h : run 10 b ≠ 10) (h2 : run 10 b = b.length) : dec b = (0, 0, 5) := by rw [dec, if_neg h, if_pos h2]
theorem dec_bad {b : List Int} (h : run 10 b ≠ 10) (h2 : run 10 b ≠ b.length) (h3 : bad b (run 10 b)) : dec b = (0, 0, 4) := by rw [dec, if_neg h, if_neg h2, if_pos h3]
theorem dec_ok {b : List Int} (h : run 10 b ≠ 10) (h2 : run 10 b ≠ b.length) (h3 : ¬ bad b (run 10 b)) : dec b = (zag (val (b.take (run 10 b + 1))), (run 10 b : Int) + 1, 0) := by rw [dec, if_neg h, if_neg h2, if_neg h3]

theorem dec_cases (b : List Int) : (dec b = (0, 0, 4) ∨ dec b = (0, 0, 5)) ∨
    (run 10 b < 10 ∧ run 10 b < b.length ∧ ¬ bad b (run 10 b) ∧ dec b = (zag (val (b.take (run 10 b + 1))), (run 10 b : Int) + 1, 0)) := by
  have := run_le 10 b
  by_cases h : run 10 b = 10
  · exact .inl (.inl (dec_form h))
  · by_cases h2 : run 10 b = b.length
    · exact .inl (.inr (dec_short h h2))
    · by_cases h3 : bad b (run 10 b)
      · exact .inl (.inl (dec_bad h h2 h3))
      · exact .inr ⟨by omega, by omega, h3, dec_ok h h2 h3⟩

theorem val_ok {b : List Int} {k : Nat} (hk : k < 10) (hb : byts b) (h : k = 9 → b.getD k 0 ≤ 1) (hl : k < b.length) : 0 ≤ val (b.take (k + 1)) ∧ val (b.take (k + 1)) ≤ 18446744073709551615 := by
  by_cases h9 : k = 9
  · subst h9
    have h1 := val_take_b b 9
    have h2 := byts_get hb 9
    rw [val_take hl]
    have h3 := h rfl
    have h4 : (128 : Int) ^ 9 = 9223372036854775808 := by decide
    rw [h4] at h1 ⊢
    generalize b.getD 9 0 = x at *
    omega
  · have h1 := val_take_b b (k + 1)
    have h2 : (128 : Int) ^ (k + 1) ≤ 128 ^ 9 := pow_mono (by omega)
    have h4 : (128 : Int) ^ 9 = 9223372036854775808 := by decide
    omega

theorem dec_b {b : List Int} (hb : byts b) : -9223372036854775808 ≤ dn b ∧ dn b ≤ 9223372036854775807 ∧ 0 ≤ du b ∧ du b ≤ b.length ∧ du b ≤ 10 ∧ (de b = 0 ∨ de b = 4 ∨ de b = 5) ∧ (de b = 0 → 1 ≤ du b) ∧ (de b ≠ 0 → dn b = 0 ∧ du b = 0) := by
  unfold dn du de
  rcases dec_cases b with (h | h) | ⟨h1, h2, h3, h⟩
  · rw [h]; simp
  · rw [h]; simp
  · have := val_ok h1 hb (fun e => by
      unfold bad at h3
      rcases Int.lt_or_le 1 (b.getD (run 10 b) 0) with g | g
      · exact absurd (.inr ⟨e, g⟩) h3
      · exact g) h2
    have z := zag_b this.1 this.2
    rw [h]
    dsimp only
    exact ⟨z.1, z.2, by omega, by omega, by omega, .inl rfl, fun _ => by omega, fun h => absurd rfl h⟩

/-! what was written is read back -/
theorem run_dig (f : Nat) : ∀ (u : Int) (rest : List Int), 0 ≤ u → u < 2 * 128 ^ f → run (f + 1) (dig f u ++ rest) + 1 = (dig f u).length := by
  induction f with
  | zero => intro u rest h0 h; simp at h; simp [dig, run]; omega
  | succ f ih =>
    intro u rest h0 h
    by_cases hs : u < 128
    · rw [dig_small _ hs]; simp [run, hs]
    · rw [dig_big _ hs, List.cons_append, run, if_neg (by omega), List.length_cons]
      rw [pow_s] at h
      rw [ih (u / 128) rest (by omega) (by omega)]
theorem val_dig (f : Nat) : ∀ u : Int, 0 ≤ u → u < 2 * 128 ^ f → val (dig f u) = u := by
  induction f with
  | zero => intro u h0 h; simp at h; simp [dig, val]; omega
  | succ f ih =>
    intro u h0 h
    by_cases hs : u < 128
    · rw [dig_small _ hs]; simp [val]; omega
    · rw [dig_big _ hs, val]
      rw [pow_s] at h
      rw [ih (u / 128) (by omega) (by omega)]
      omega
theorem last_dig (f : Nat) : ∀ u : Int, 0 ≤ u → u < 2 * 128 ^ f →
    (1 < (dig f u).length → (dig f u).getD ((dig f u).length - 1) 0 ≠ 0) ∧ ((dig f u).length = f + 1 → (dig f u).getD ((dig f u).length - 1) 0 ≤ 1) ∧ (0 < u → (dig f u).getD ((dig f u).length - 1) 0 ≠ 0) := by
  induction f with
  | zero => intro u h0 h; simp at h; simp [dig]; omega
  | succ f ih =>
    intro u h0 h
    by_cases hs : u < 128
    · rw [dig_small _ hs]; simp; omega
    · rw [dig_big _ hs]
      rw [pow_s] at h
      have := ih (u / 128) (by omega) (by omega)
      have hl := dig_len f (u / 128)
      generalize dig f (u / 128) = l at *
      simp only [List.length_cons, Nat.add_sub_cancel]
      have e : ((u % 128 + 128) :: l).getD l.length 0 = l.getD (l.length - 1) 0 := by
        obtain ⟨m, hm⟩ : ∃ m, l.length = m + 1 := ⟨l.length - 1, by omega⟩
        rw [hm]; simp
      rw [e]
      refine ⟨fun _ => this.2.2 (by omega), fun hh => this.2.1 (by omega), fun _ => this.2.2 (by omega)⟩

theorem dec_dig (u : Int) (rest : List Int) (h0 : 0 ≤ u) (h : u ≤ 18446744073709551615) : dec (dig 9 u ++ rest) = (zag u, ((dig 9 u).length : Int), 0) := by
  have hp : u < 2 * 128 ^ 9 := by rw [pow9]; omega
  have h1 := run_dig 9 u rest h0 hp
  have h2 := val_dig 9 u h0 hp
  have h3 := last_dig 9 u h0 hp
  have h4 := dig_len 9 u
  generalize dig 9 u = l at *
  have hr : run 10 (l ++ rest) = l.length - 1 := by
    have : run (9 + 1) (l ++ rest) = run 10 (l ++ rest) := rfl
    omega
  have hg : (l ++ rest).getD (l.length - 1) 0 = l.getD (l.length - 1) 0 := by
    simp only [List.getD]
    rw [List.getElem?_append_left (by omega)]
  rw [dec_ok (by omega) (by rw [hr, List.length_append]; omega) (by
    rw [hr]; unfold bad; rw [hg]
    rintro (⟨a, b⟩ | ⟨a, b⟩)
    · exact h3.1 (by omega) b
    · have := h3.2.1 (by omega); omega)]
  rw [hr, show l.length - 1 + 1 = l.length by omega, List.take_left' rfl, h2]
  have : ((l.length - 1 : Nat) : Int) + 1 = l.length := by omega
  rw [this]

theorem dec_enc {n : Int} (rest : List Int) (h1 : -9223372036854775808 ≤ n) (h2 : n ≤ 9223372036854775807) : dec (enc n ++ rest) = (n, ((enc n).length : Int), 0) := by
  have hz := zig_b h1 h2
  unfold enc
  rw [dec_dig _ rest hz.1 hz.2, zag_zig]

/-! what was read has been written so -/
theorem dig_val (f : Nat) : ∀ l : List Int, 1 ≤ l.length → l.length ≤ f + 1 → byts l → (∀ j, j + 1 < l.length → 128 ≤ l.getD j 0) → l.getD (l.length - 1) 0 < 128 →
    (1 < l.length → l.getD (l.length - 1) 0 ≠ 0) → dig f (val l) = l := by
  induction f with
  | zero =>
    intro l h1 h2 hb _ hlast _
    match l, h1, h2 with
    | [x], _, _ =>
      have := hb x (by simp)
      simp at hlast
      simp [dig, val]; omega
  | succ f ih =>
    intro l h1 h2 hb hall hlast hnz
    match l, h1 with
    | b :: r, _ =>
      have hbb := hb b (by simp)
      by_cases hr : r = []
      · subst hr
        simp at hlast
        have : val [b] = b := by simp [val]; omega
        rw [this, dig_small _ hlast]
      · have hrl : 1 ≤ r.length := by
          cases r with
          | nil => exact absurd rfl hr
          | cons _ _ => simp
        have h0 := hall 0 (by simp; omega)
        simp at h0
        have hg : ∀ j, (b :: r).getD (j + 1) 0 = r.getD j 0 := fun j => by simp
        have hlen : (b :: r).length - 1 = (r.length - 1) + 1 := by simp only [List.length_cons]; omega
        rw [hlen, hg] at hlast hnz
        have hrb : byts r := fun x hx => hb x (by simp [hx])
        have hall' : ∀ j, j + 1 < r.length → 128 ≤ r.getD j 0 := fun j hj => by rw [← hg]; exact hall (j + 1) (by simp; omega)
        have hrec := ih r hrl (by simp at h2; omega) hrb hall' hlast (fun _ => hnz (by simp; omega))
        have hpos : 0 < val r := by
          rcases Int.lt_or_le 0 (val r) with g | g
          · exact g
          · exfalso
            have hv : val r = 0 := by have := (val_b r).1; omega
            rw [hv, dig_small _ (by omega)] at hrec
            rw [← hrec] at hnz
            exact hnz (by simp) (by simp)
        have hv : val (b :: r) = b % 128 + 128 * val r := rfl
        rw [dig_big _ (by rw [hv]; omega), hv, show (b % 128 + 128 * val r) % 128 + 128 = b by omega, show (b % 128 + 128 * val r) / 128 = val r by omega, hrec]

theorem enc_dec {b : List Int} (hb : byts b) (h : de b = 0) : b.take (du b).toNat = enc (dn b) := by
  unfold de at h
  unfold du dn
  rcases dec_cases b with (g | g) | ⟨h1, h2, h3, g⟩
  · rw [g] at h; simp at h
  · rw [g] at h; simp at h
  · rw [g]
    have hlow := run_low 10 b h1 h2
    have hhigh := run_high 10 b
    have hv := val_ok h1 hb (fun e => by
      unfold bad at h3
      rcases Int.lt_or_le 1 (b.getD (run 10 b) 0) with g | g
      · exact absurd (.inr ⟨e, g⟩) h3
      · exact g) h2
    generalize run 10 b = k at *
    simp only
    have e1 : ((k : Int) + 1).toNat = k + 1 := by omega
    rw [e1]
    unfold enc
    rw [zig_zag _ hv.1]
    have hl : (b.take (k + 1)).length = k + 1 := by rw [List.length_take]; omega
    have hg : ∀ j, j ≤ k → (b.take (k + 1)).getD j 0 = b.getD j 0 := fun j hj => by
      simp only [List.getD]
      rw [List.getElem?_take_of_lt (by omega)]
    symm
    refine dig_val 9 _ (by omega) (by omega) (byts_take hb _) (fun j hj => ?_) ?_ (fun hj => ?_)
    · rw [hg j (by omega)]; exact hhigh j (by omega)
    · rw [hl, Nat.add_sub_cancel, hg k (by omega)]; exact hlow
    · rw [hl, Nat.add_sub_cancel, hg k (by omega)]
      intro e
      exact h3 (.inl ⟨by omega, e⟩)

/-! a beginning of an encoding is too short -/
theorem high_dig (f : Nat) : ∀ (u : Int) (j : Nat), 0 ≤ u → j + 1 < (dig f u).length → 128 ≤ (dig f u).getD j 0 := by
  induction f with
  | zero => intro u j _ h; simp [dig] at h
  | succ f ih =>
    intro u j h0 h
    by_cases hs : u < 128
    · rw [dig_small _ hs] at h; simp at h
    · rw [dig_big _ hs] at h ⊢
      cases j with
      | zero => simp; omega
      | succ j =>
        simp only [List.getD_cons_succ]
        exact ih _ j (by omega) (by simpa using h)
theorem dec_cut {n : Int} {k : Nat} (h1 : -9223372036854775808 ≤ n) (h2 : n ≤ 9223372036854775807) (hk : k < (enc n).length) : dec ((enc n).take k) = (0, 0, 5) := by
  have hl := enc_len n
  have hr : run 10 ((enc n).take k) = k := by
    refine run_of 10 _ k (by omega) (by rw [List.length_take]; omega) (fun j hj => ?_) (.inr (.inl (by rw [List.length_take]; omega)))
    have : ((enc n).take k).getD j 0 = (enc n).getD j 0 := by
      simp only [List.getD]
      rw [List.getElem?_take_of_lt hj]
    rw [this]
    exact high_dig 9 _ j (zig_b h1 h2).1 (by unfold enc at hk; omega)
  exact dec_short (by omega) (by rw [hr, List.length_take]; omega)

/-! sizes -/
theorem dig_size (f : Nat) : ∀ (u : Int) (k : Nat), 0 ≤ u → u < 2 * 128 ^ f → 1 ≤ k → ((dig f u).length ≤ k ↔ u < 128 ^ k) := by
  induction f with
  | zero =>
    intro u k h0 h hk
    simp at h
    obtain ⟨m, rfl⟩ : ∃ m, k = m + 1 := ⟨k - 1, by omega⟩
    have := pow_pos m
    rw [pow_s]
    simp [dig]; omega
  | succ f ih =>
    intro u k h0 h hk
    obtain ⟨m, rfl⟩ : ∃ m, k = m + 1 := ⟨k - 1, by omega⟩
    by_cases hs : u < 128
    · have := pow_pos m
      rw [dig_small _ hs, pow_s]
      simp; omega
    · rw [dig_big _ hs, List.length_cons, pow_s]
      rw [pow_s] at h
      have hl := dig_len f (u / 128)
      by_cases hm : m = 0
      · subst hm; rw [Int.pow_zero]; constructor <;> intro a <;> omega
      · have := ih (u / 128) m (by omega) (by omega) (by omega)
        constructor
        · intro a; have := this.1 (by omega); omega
        · intro a; have := this.2 (by omega); omega
end Go.Proofs.Ytlpljhaogmfnkaa.Wire
