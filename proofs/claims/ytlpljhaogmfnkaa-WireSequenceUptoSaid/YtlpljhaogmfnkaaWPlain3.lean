/- The plain results of decoding lists of layer 2 (wire): their bounds, and that what was written is read back. No program. -/
import Derived.Test.YtlpljhaogmfnkaaWPlain2
namespace Go.Proofs.Ytlpljhaogmfnkaa.Wire

theorem lgo_b (b : List Int) (hb : byts b) : ∀ (c : Nat) (acc : List Int) (a : Nat), a ≤ b.length → acc.length ≤ a →
    (lgo c b acc a).1.length ≤ b.length ∧ 0 ≤ (lgo c b acc a).2.1 ∧ (lgo c b acc a).2.1 ≤ b.length ∧ 0 ≤ (lgo c b acc a).2.2 ∧ (lgo c b acc a).2.2 ≤ 5 ∧
    ((lgo c b acc a).2.2 = 0 → (a : Int) ≤ (lgo c b acc a).2.1) ∧ ((lgo c b acc a).2.2 ≠ 0 → (lgo c b acc a).2.1 = 0)
  | 0, acc, a => fun ha hl => by simp only [lgo]; omega
  | c + 1, acc, a => fun ha hl => by
    have hd := dec_b (byts_drop hb a)
    by_cases h : de (b.drop a) = 0
    · obtain ⟨u, hu⟩ := Int.eq_ofNat_of_zero_le hd.2.2.1
      have hlen : (b.drop a).length = b.length - a := List.length_drop ..
      have h1 := hd.2.2.2.2.2.2.1 h
      have ih := lgo_b b hb c (acc ++ [dn (b.drop a)]) (a + u) (by omega) (by simp; omega)
      have e : lgo (c + 1) b acc a = lgo c b (acc ++ [dn (b.drop a)]) ((a + u : Nat) : Int) := by
        have := lgo_k (c := c) (b := b) (acc := acc) (at_ := a) (by rw [Int.toNat_natCast]; exact h)
        rw [Int.toNat_natCast, hu] at this
        rw [this]; rfl
      rw [e]
      exact ⟨ih.1, ih.2.1, ih.2.2.1, ih.2.2.2.1, ih.2.2.2.2.1, fun g => by have := ih.2.2.2.2.2.1 g; omega, ih.2.2.2.2.2.2⟩
    · have e := lgo_e (c := c) (b := b) (acc := acc) (at_ := a) (by rw [Int.toNat_natCast]; exact h)
      rw [Int.toNat_natCast] at e
      rw [e]
      dsimp only
      have := hd.2.2.2.2.2.1
      exact ⟨by simp, by omega, by omega, by omega, by omega, fun g => absurd g h, fun _ => rfl⟩

theorem lis_b {b : List Int} (hb : byts b) (m : Int) : (ll b m).length ≤ b.length ∧ 0 ≤ lu b m ∧ lu b m ≤ b.length ∧ 0 ≤ le b m ∧ le b m ≤ 5 ∧ (le b m = 0 → 1 ≤ lu b m) ∧ (le b m ≠ 0 → lu b m = 0) := by
  have hc := cnt_b hb m
  unfold ll lu le
  by_cases h : ce b m = 0
  · rw [lis_k h]
    obtain ⟨u, hu⟩ := Int.eq_ofNat_of_zero_le hc.2.2.1
    have := lgo_b b hb (cn b m).toNat [] u (by omega) (by simp)
    have h1 := hc.2.2.2.2.2.2.2.1 h
    rw [hu]
    exact ⟨this.1, this.2.1, this.2.2.1, this.2.2.2.1, this.2.2.2.2.1, fun g => by have := this.2.2.2.2.2.1 g; omega, this.2.2.2.2.2.2⟩
  · rw [lis_e h]
    dsimp only
    exact ⟨by simp, by omega, by omega, by omega, by omega, fun g => absurd g h, fun _ => rfl⟩
theorem ll_len {b : List Int} (hb : byts b) (m : Int) : (ll b m).length ≤ b.length := (lis_b hb m).1

def encs (l : List Int) : List Int := l.flatMap enc
theorem encs_nil : encs [] = [] := rfl
theorem encs_cons (x : Int) (l : List Int) : encs (x :: l) = enc x ++ encs l := by simp [encs]
theorem encs_app (a b : List Int) : encs (a ++ b) = encs a ++ encs b := by simp [encs]

/-- what was read has been written so -/
theorem lgo_ok (b : List Int) (hb : byts b) : ∀ (c : Nat) (acc : List Int) (a : Nat) (l : List Int) (u : Int), a ≤ b.length → lgo c b acc a = (l, u, 0) →
    ∃ r, l = acc ++ r ∧ r.length = c ∧ (a : Int) ≤ u ∧ u ≤ b.length ∧ b.take u.toNat = b.take a ++ encs r
  | 0, acc, a, l, u => fun ha h => by
    simp only [lgo, Prod.mk.injEq, and_true] at h
    obtain ⟨h1, h2⟩ := h
    subst h1 h2
    exact ⟨[], by simp, rfl, by omega, by omega, by simp [encs]⟩
  | c + 1, acc, a, l, u => fun ha h => by
    have hd := dec_b (byts_drop hb a)
    by_cases h0 : de (b.drop a) = 0
    · have hen := enc_dec (byts_drop hb a) h0
      obtain ⟨v, hv⟩ := Int.eq_ofNat_of_zero_le hd.2.2.1
      have hlen : (b.drop a).length = b.length - a := List.length_drop ..
      have e : lgo (c + 1) b acc a = lgo c b (acc ++ [dn (b.drop a)]) ((a + v : Nat) : Int) := by
        have := lgo_k (c := c) (b := b) (acc := acc) (at_ := a) (by rw [Int.toNat_natCast]; exact h0)
        rw [Int.toNat_natCast, hv] at this
        rw [this]; rfl
      rw [e] at h
      obtain ⟨r, h1, h2, h3, h4, h5⟩ := lgo_ok b hb c (acc ++ [dn (b.drop a)]) (a + v) l u (by omega) h
      refine ⟨dn (b.drop a) :: r, by rw [h1, List.append_assoc]; rfl, by rw [List.length_cons, h2], by omega, h4, ?_⟩
      rw [hv, Int.toNat_natCast] at hen
      rw [h5, encs_cons, ← hen, take_add_drop, List.append_assoc]
    · have e := lgo_e (c := c) (b := b) (acc := acc) (at_ := a) (by rw [Int.toNat_natCast]; exact h0)
      rw [Int.toNat_natCast] at e
      rw [e] at h
      simp only [Prod.mk.injEq] at h
      exact absurd h.2.2 h0
theorem lis_ok {b : List Int} (hb : byts b) {m : Int} (h : le b m = 0) : b.take (lu b m).toNat = enc (ll b m).length ++ encs (ll b m) := by
  have hc := cnt_b hb m
  have h' := h
  unfold le at h'
  unfold ll lu
  by_cases g : ce b m = 0
  · rw [lis_k g] at h' ⊢
    obtain ⟨u, hu⟩ := Int.eq_ofNat_of_zero_le hc.2.2.1
    rw [hu] at h' ⊢
    have hk := (cnt_ok hb g).1
    rw [hu, Int.toNat_natCast] at hk
    obtain ⟨r, h1, h2, _, _, h5⟩ := lgo_ok b hb (cn b m).toNat [] u (lgo (cn b m).toNat b [] u).1 (lgo (cn b m).toNat b [] u).2.1 (by omega) (by rw [← h'])
    rw [List.nil_append] at h1
    rw [h5, h1, hk, h2, Int.toNat_of_nonneg hc.1]
  · rw [lis_e g] at h'
    exact absurd h' g

/-- what was written is read back -/
theorem lgo_enc (pre rest : List Int) : ∀ (l acc : List Int), (∀ x ∈ l, -9223372036854775808 ≤ x ∧ x ≤ 9223372036854775807) → ∀ (more : List Int), ∀ b, b = pre ++ more ++ encs l ++ rest →
    lgo l.length b acc ((pre ++ more).length : Nat) = (acc ++ l, (((pre ++ more ++ encs l).length : Nat) : Int), 0)
  | [], acc => fun _ more b hb => by simp [lgo, encs]
  | x :: l, acc => fun hx more b hb => by
    have h1 := hx x (by simp)
    have hdrop : b.drop (pre ++ more).length = enc x ++ (encs l ++ rest) := by
      rw [hb, encs_cons, List.append_assoc (pre ++ more), List.drop_left' rfl, List.append_assoc]
    have hd := dec_enc (n := x) (encs l ++ rest) h1.1 h1.2
    have hd3 : x = dn (b.drop (pre ++ more).length) ∧ ((enc x).length : Int) = du (b.drop (pre ++ more).length) ∧ 0 = de (b.drop (pre ++ more).length) := by
      rw [hdrop]; unfold dn du de; rw [hd]; exact ⟨rfl, rfl, rfl⟩
    rw [List.length_cons, lgo_k (by rw [Int.toNat_natCast, ← hd3.2.2]), Int.toNat_natCast, ← hd3.1, ← hd3.2.1]
    have ih := lgo_enc pre rest l (acc ++ [x]) (fun y hy => hx y (by simp [hy])) (more ++ enc x) b (by rw [hb, encs_cons]; simp [List.append_assoc])
    have e : (((pre ++ more).length : Nat) : Int) + ((enc x).length : Int) = (((pre ++ (more ++ enc x)).length : Nat) : Int) := by simp only [List.length_append]; omega
    rw [e, ih, encs_cons]
    simp [List.append_assoc]

theorem lis_enc {l rest : List Int} {m : Int} (hl : ∀ x ∈ l, -9223372036854775808 ≤ x ∧ x ≤ 9223372036854775807) (h1 : (l.length : Int) ≤ 9223372036854775807) (hm : (l.length : Int) ≤ m) :
    lis (enc l.length ++ encs l ++ rest) m = (l, (((enc l.length ++ encs l).length : Nat) : Int), 0) := by
  have hc := cnt_enc (n := l.length) (m := m) (encs l ++ rest) (by omega) h1 hm
  rw [← List.append_assoc] at hc
  have h3 : (l.length : Int) = cn (enc l.length ++ encs l ++ rest) m ∧ ((enc l.length).length : Int) = cu (enc l.length ++ encs l ++ rest) m ∧ 0 = ce (enc l.length ++ encs l ++ rest) m := c3 hc
  rw [lis_k h3.2.2.symm, ← h3.1, ← h3.2.1, Int.toNat_natCast]
  have := lgo_enc (enc l.length) rest l [] hl [] _ (by rw [List.append_nil])
  rw [List.append_nil, List.nil_append] at this
  exact this

theorem lgo_in (b : List Int) (hb : byts b) : ∀ (c : Nat) (acc : List Int) (a : Int), (∀ x ∈ acc, -9223372036854775808 ≤ x ∧ x ≤ 9223372036854775807) → ∀ x ∈ (lgo c b acc a).1, -9223372036854775808 ≤ x ∧ x ≤ 9223372036854775807
  | 0, acc, a => fun h => by simpa [lgo] using h
  | c + 1, acc, a => fun h => by
    have hd := dec_b (byts_drop hb a.toNat)
    by_cases h0 : de (b.drop a.toNat) = 0
    · rw [lgo_k h0]
      refine lgo_in b hb c _ _ (fun x hx => ?_)
      rcases List.mem_append.1 hx with g | g
      · exact h x g
      · obtain rfl := List.mem_singleton.1 g
        exact ⟨hd.1, hd.2.1⟩
    · rw [lgo_e h0]
      intro x hx; cases hx
theorem ll_oks {b : List Int} (hb : byts b) (m : Int) : ∀ x ∈ ll b m, -9223372036854775808 ≤ x ∧ x ≤ 9223372036854775807 := by
  unfold ll
  by_cases h : ce b m = 0
  · rw [lis_k h]; exact lgo_in b hb _ _ _ (fun x hx => by cases hx)
  · rw [lis_e h]; intro x hx; cases hx
theorem lgo_err {b : List Int} (hb : byts b) : ∀ (c : Nat) (acc : List Int) (a : Int), (lgo c b acc a).2.2 = 0 ∨ (lgo c b acc a).2.2 = 4 ∨ (lgo c b acc a).2.2 = 5
  | 0, acc, a => .inl rfl
  | c + 1, acc, a => by
    by_cases h0 : de (b.drop a.toNat) = 0
    · rw [lgo_k h0]
      exact lgo_err hb c _ _
    · rw [lgo_e h0]
      exact (dec_b (byts_drop hb a.toNat)).2.2.2.2.2.1
end Go.Proofs.Ytlpljhaogmfnkaa.Wire
