/- The plain numbers of layer 6 (glyph): scripts, lower-case forms, widths, UTF-8 of code points with a script. No program. -/
namespace Go.Proofs.YtjbkpiimjkekgaaDoor.Glyph
set_option linter.unusedVariables false

abbrev Com (r : Int) : Prop := r = 32 ∨ r = 39 ∨ r = 40 ∨ r = 41 ∨ r = 45 ∨ r = 46 ∨ (48 ≤ r ∧ r ≤ 57)
abbrev Lat (r : Int) : Prop := (65 ≤ r ∧ r ≤ 90) ∨ (97 ≤ r ∧ r ≤ 122) ∨ (192 ≤ r ∧ r ≤ 591 ∧ r ≠ 215 ∧ r ≠ 247)
/-- the script -/
def scr (r : Int) : Int :=
  if Com r then 0 else if Lat r then 1 else if 880 ≤ r ∧ r ≤ 1023 then 2 else if 1024 ≤ r ∧ r ≤ 1279 then 3
  else if 1488 ≤ r ∧ r ≤ 1514 then 4 else if 19968 ≤ r ∧ r ≤ 40959 then 5 else -1
/-- a digit -/
def dig (r : Int) : Bool := decide (48 ≤ r ∧ r ≤ 57)

theorem scr_cases (r : Int) : (scr r = 0 ∧ Com r) ∨ (scr r = 1 ∧ Lat r) ∨ (scr r = 2 ∧ 880 ≤ r ∧ r ≤ 1023) ∨ (scr r = 3 ∧ 1024 ≤ r ∧ r ≤ 1279) ∨
    (scr r = 4 ∧ 1488 ≤ r ∧ r ≤ 1514) ∨ (scr r = 5 ∧ 19968 ≤ r ∧ r ≤ 40959) ∨
    (scr r = -1 ∧ ¬ Com r ∧ ¬ Lat r ∧ ¬ (880 ≤ r ∧ r ≤ 1023) ∧ ¬ (1024 ≤ r ∧ r ≤ 1279) ∧ ¬ (1488 ≤ r ∧ r ≤ 1514) ∧ ¬ (19968 ≤ r ∧ r ≤ 40959)) := by
  unfold scr
  by_cases h0 : Com r
  · rw [if_pos h0]; exact .inl ⟨rfl, h0⟩
  rw [if_neg h0]
  by_cases h1 : Lat r
  · rw [if_pos h1]; exact .inr (.inl ⟨rfl, h1⟩)
  rw [if_neg h1]
  by_cases h2 : 880 ≤ r ∧ r ≤ 1023
  · rw [if_pos h2]; exact .inr (.inr (.inl ⟨rfl, h2⟩))
  rw [if_neg h2]
  by_cases h3 : 1024 ≤ r ∧ r ≤ 1279
  · rw [if_pos h3]; exact .inr (.inr (.inr (.inl ⟨rfl, h3⟩)))
  rw [if_neg h3]
  by_cases h4 : 1488 ≤ r ∧ r ≤ 1514
  · rw [if_pos h4]; exact .inr (.inr (.inr (.inr (.inl ⟨rfl, h4⟩))))
  rw [if_neg h4]
  by_cases h5 : 19968 ≤ r ∧ r ≤ 40959
  · rw [if_pos h5]; exact .inr (.inr (.inr (.inr (.inr (.inl ⟨rfl, h5⟩)))))
  rw [if_neg h5]
  exact .inr (.inr (.inr (.inr (.inr (.inr ⟨rfl, h0, h1, h2, h3, h4, h5⟩)))))
theorem scr_com {r : Int} (h : Com r) : scr r = 0 := by unfold scr; rw [if_pos h]
theorem scr_lat {r : Int} (h : Lat r) : scr r = 1 := by unfold scr; rw [if_neg (by unfold Com Lat at *; omega), if_pos h]
theorem scr_gr {r : Int} (h : 880 ≤ r ∧ r ≤ 1023) : scr r = 2 := by unfold scr; rw [if_neg (by unfold Com; omega), if_neg (by unfold Lat; omega), if_pos h]
theorem scr_cy {r : Int} (h : 1024 ≤ r ∧ r ≤ 1279) : scr r = 3 := by unfold scr; rw [if_neg (by unfold Com; omega), if_neg (by unfold Lat; omega), if_neg (by omega), if_pos h]
theorem scr_he {r : Int} (h : 1488 ≤ r ∧ r ≤ 1514) : scr r = 4 := by unfold scr; rw [if_neg (by unfold Com; omega), if_neg (by unfold Lat; omega), if_neg (by omega), if_neg (by omega), if_pos h]
theorem scr_ha {r : Int} (h : 19968 ≤ r ∧ r ≤ 40959) : scr r = 5 := by unfold scr; rw [if_neg (by unfold Com; omega), if_neg (by unfold Lat; omega), if_neg (by omega), if_neg (by omega), if_neg (by omega), if_pos h]
theorem scr_range {r : Int} (h : 0 ≤ scr r) : 32 ≤ r ∧ r ≤ 40959 ∧ ¬ (55296 ≤ r) := by
  have := scr_cases r
  unfold Com Lat at this
  omega
theorem scr_ge (r : Int) : -1 ≤ scr r ∧ scr r ≤ 5 := by have := scr_cases r; omega
theorem dig_scr {r : Int} (h : dig r = true) : scr r = 0 := by
  have := of_decide_eq_true h
  exact scr_com (by unfold Com; omega)

abbrev F32 (r : Int) : Prop := (65 ≤ r ∧ r ≤ 90) ∨ (192 ≤ r ∧ r ≤ 222 ∧ r ≠ 215) ∨ (913 ≤ r ∧ r ≤ 937) ∨ (1040 ≤ r ∧ r ≤ 1071)
abbrev F1 (r : Int) : Prop := (r % 2 = 0 ∧ ((256 ≤ r ∧ r ≤ 310) ∨ (330 ≤ r ∧ r ≤ 374))) ∨ (r % 2 = 1 ∧ ((313 ≤ r ∧ r ≤ 327) ∨ (377 ≤ r ∧ r ≤ 381)))
/-- the lower-case form -/
def fol (r : Int) : Int := if F32 r then r + 32 else if 1024 ≤ r ∧ r ≤ 1039 then r + 80 else if F1 r then r + 1 else if r = 376 then 255 else r
theorem fol_cases (r : Int) : (fol r = r + 32 ∧ F32 r) ∨ (fol r = r + 80 ∧ 1024 ≤ r ∧ r ≤ 1039) ∨ (fol r = r + 1 ∧ F1 r) ∨ (fol r = 255 ∧ r = 376) ∨
    (fol r = r ∧ ¬ F32 r ∧ ¬ (1024 ≤ r ∧ r ≤ 1039) ∧ ¬ F1 r ∧ r ≠ 376) := by
  unfold fol
  by_cases h0 : F32 r
  · rw [if_pos h0]; exact .inl ⟨rfl, h0⟩
  rw [if_neg h0]
  by_cases h1 : 1024 ≤ r ∧ r ≤ 1039
  · rw [if_pos h1]; exact .inr (.inl ⟨rfl, h1⟩)
  rw [if_neg h1]
  by_cases h2 : F1 r
  · rw [if_pos h2]; exact .inr (.inr (.inl ⟨rfl, h2⟩))
  rw [if_neg h2]
  by_cases h3 : r = 376
  · rw [if_pos h3]; exact .inr (.inr (.inr (.inl ⟨rfl, h3⟩)))
  rw [if_neg h3]
  exact .inr (.inr (.inr (.inr ⟨rfl, h0, h1, h2, h3⟩)))
theorem fol_id {r : Int} (h0 : ¬ F32 r) (h1 : ¬ (1024 ≤ r ∧ r ≤ 1039)) (h2 : ¬ F1 r) (h3 : r ≠ 376) : fol r = r := by
  unfold fol; rw [if_neg h0, if_neg h1, if_neg h2, if_neg h3]
theorem fol_scr (r : Int) : scr (fol r) = scr r := by
  rcases fol_cases r with ⟨e, h⟩ | ⟨e, h⟩ | ⟨e, h⟩ | ⟨e, h⟩ | ⟨e, _⟩ <;> rw [e]
  · unfold F32 at h
    rcases h with h | h | h | h
    · rw [scr_lat (r := r) (by unfold Lat; omega), scr_lat (by unfold Lat; omega)]
    · rw [scr_lat (r := r) (by unfold Lat; omega), scr_lat (by unfold Lat; omega)]
    · rw [scr_gr (r := r) (by omega), scr_gr (by omega)]
    · rw [scr_cy (r := r) (by omega), scr_cy (by omega)]
  · rw [scr_cy (r := r) (by omega), scr_cy (by omega)]
  · unfold F1 at h; rw [scr_lat (r := r) (by unfold Lat; omega), scr_lat (by unfold Lat; omega)]
  · rw [scr_lat (r := r) (by unfold Lat; omega), scr_lat (by unfold Lat; omega)]
theorem fol_fol (r : Int) : fol (fol r) = fol r := by
  have h := fol_cases r
  apply fol_id
  · unfold F32 at *; unfold F1 at *; omega
  · unfold F32 at *; unfold F1 at *; omega
  · unfold F32 at *; unfold F1 at *; omega
  · unfold F32 at *; unfold F1 at *; omega

/-- the width -/
def wid (r n : Int) : Int := if n < 1 ∨ 64 < n ∨ scr r < 0 then 0 else if scr r = 5 then n else if scr r = 0 ∧ dig r = false then (n + 1) / 2 else (2 * n + 2) / 3
theorem wid_no {r n : Int} (h : n < 1 ∨ 64 < n ∨ scr r < 0) : wid r n = 0 := by unfold wid; rw [if_pos h]
theorem wid_yes {r n : Int} (h1 : 1 ≤ n) (h2 : n ≤ 64) (h3 : 0 ≤ scr r) : 1 ≤ wid r n ∧ wid r n ≤ n := by
  unfold wid
  rw [if_neg (by omega)]
  split
  · omega
  · split <;> omega
theorem wid_up {r n : Int} (h1 : 1 ≤ n) (h2 : n ≤ 63) (h3 : 0 ≤ scr r) : wid r n ≤ wid r (n + 1) := by
  unfold wid
  rw [if_neg (show ¬ (n < 1 ∨ 64 < n ∨ scr r < 0) by omega), if_neg (show ¬ (n + 1 < 1 ∨ 64 < n + 1 ∨ scr r < 0) by omega)]
  by_cases h5 : scr r = 5
  · rw [if_pos h5, if_pos h5]; omega
  rw [if_neg h5, if_neg h5]
  by_cases h0 : scr r = 0 ∧ dig r = false
  · rw [if_pos h0, if_pos h0]; omega
  rw [if_neg h0, if_neg h0]; omega

/-- the bytes of a code point from 0 to 65535 -/
def un (r : Int) : List Int := if r < 128 then [r] else if r < 2048 then [192 + r / 64, 128 + r % 64] else [224 + r / 4096, 128 + r / 64 % 64, 128 + r % 64]
/-- the number that one, two or three bytes stand for -/
def val : List Int → Int
  | [a] => a
  | [a, b] => a % 32 * 64 + b % 64
  | a :: b :: c :: _ => a % 16 * 4096 + b % 64 * 64 + c % 64
  | [] => 0
theorem un_len (r : Int) : 1 ≤ (un r).length ∧ (un r).length ≤ 3 := by unfold un; split <;> (try split) <;> simp
theorem un_byts {r : Int} (h0 : 0 ≤ r) (h : r ≤ 65535) : ∀ x ∈ un r, 0 ≤ x ∧ x ≤ 255 := by
  intro x hx
  unfold un at hx
  split at hx
  · simp at hx; omega
  · split at hx
    · simp at hx; omega
    · simp at hx; omega
theorem val_un {r : Int} (h0 : 0 ≤ r) (h : r ≤ 65535) : val (un r) = r := by
  unfold un
  split
  · rfl
  · split
    · simp only [val]; omega
    · simp only [val]; omega
theorem un_inj {r q : Int} {s t : List Int} (h0 : 0 ≤ r) (h : r ≤ 65535) (g0 : 0 ≤ q) (g : q ≤ 65535) (e : un r ++ s = un q ++ t) : r = q ∧ s = t := by
  have key : r = q := by
    unfold un at e
    split at e
    · split at e
      · simp at e; omega
      · split at e
        · simp at e; omega
        · simp at e; omega
    · split at e
      · split at e
        · simp at e; omega
        · split at e
          · simp at e; omega
          · simp at e; omega
      · split at e
        · simp at e; omega
        · split at e
          · simp at e; omega
          · simp at e; omega
  subst key
  exact ⟨rfl, List.append_cancel_left e⟩

/-- code points with a script alone -/
def okl (l : List Int) : Prop := ∀ r ∈ l, 0 ≤ scr r
instance (l : List Int) : Decidable (okl l) := by unfold okl; infer_instance
/-- the bytes of a list -/
def enc (l : List Int) : List Int := l.flatMap un
theorem enc_nil : enc [] = [] := rfl
theorem enc_cons (r : Int) (l : List Int) : enc (r :: l) = un r ++ enc l := rfl
theorem enc_app (l m : List Int) : enc (l ++ m) = enc l ++ enc m := by unfold enc; rw [List.flatMap_append]
theorem enc_one (r : Int) : enc [r] = un r := by simp [enc]
theorem enc_len : ∀ (l : List Int), l.length ≤ (enc l).length ∧ (enc l).length ≤ 3 * l.length
  | [] => by simp [enc]
  | r :: l => by
    rw [enc_cons, List.length_append, List.length_cons]
    have := enc_len l
    have := un_len r
    omega
theorem okl_cons {r : Int} {l : List Int} : okl (r :: l) ↔ 0 ≤ scr r ∧ okl l := by unfold okl; simp
theorem okl_app {l m : List Int} : okl (l ++ m) ↔ okl l ∧ okl m := by
  unfold okl
  constructor
  · intro h; exact ⟨fun r hr => h r (List.mem_append_left _ hr), fun r hr => h r (List.mem_append_right _ hr)⟩
  · rintro ⟨h1, h2⟩ r hr
    rcases List.mem_append.1 hr with a | a
    · exact h1 r a
    · exact h2 r a
theorem okl_nil : okl [] := by intro r hr; cases hr
theorem enc_byts {l : List Int} (h : okl l) : ∀ x ∈ enc l, 0 ≤ x ∧ x ≤ 255 := by
  intro x hx
  obtain ⟨r, hr, hx⟩ := List.mem_flatMap.1 hx
  have := scr_range (h r hr)
  exact un_byts (by omega) (by omega) x hx
theorem enc_inj : ∀ {l m : List Int}, okl l → okl m → enc l = enc m → l = m
  | [], [], _, _, _ => rfl
  | [], q :: m, _, _, e => by
    rw [enc_cons, enc_nil] at e
    have h2 := congrArg List.length e
    simp only [List.length_append, List.length_nil] at h2
    have := un_len q
    omega
  | r :: l, [], _, _, e => by
    rw [enc_cons, enc_nil] at e
    have h2 := congrArg List.length e
    simp only [List.length_append, List.length_nil] at h2
    have := un_len r
    omega
  | r :: l, q :: m, h, g, e => by
    obtain ⟨h1, h2⟩ := okl_cons.1 h
    obtain ⟨g1, g2⟩ := okl_cons.1 g
    have a := scr_range h1
    have b := scr_range g1
    rw [enc_cons, enc_cons] at e
    obtain ⟨rfl, e'⟩ := un_inj (by omega) (by omega) (by omega) (by omega) e
    rw [enc_inj h2 g2 e']
/-- with a common beginning -/
theorem enc_pre : ∀ {l m : List Int} {t : List Int}, okl l → okl m → enc l ++ t = enc m → ∃ k, m = l ++ k ∧ okl k ∧ enc k = t
  | [], m, t, _, g, e => ⟨m, rfl, g, e.symm⟩
  | r :: l, [], t, _, _, e => by
    rw [enc_cons, enc_nil] at e
    have h2 := congrArg List.length e
    simp only [List.length_append, List.length_nil] at h2
    have := un_len r
    omega
  | r :: l, q :: m, t, h, g, e => by
    obtain ⟨h1, h2⟩ := okl_cons.1 h
    obtain ⟨g1, g2⟩ := okl_cons.1 g
    have a := scr_range h1
    have b := scr_range g1
    rw [enc_cons, enc_cons, List.append_assoc] at e
    obtain ⟨rfl, e'⟩ := un_inj (by omega) (by omega) (by omega) (by omega) e
    obtain ⟨k, rfl, hk, ek⟩ := enc_pre h2 g2 e'
    exact ⟨k, rfl, hk, ek⟩

/-- the code points of bytes -/
noncomputable def dec (s : List Int) : Option (List Int) := open Classical in if h : ∃ l, okl l ∧ enc l = s then some h.choose else none
theorem dec_some {l : List Int} (h : okl l) : dec (enc l) = some l := by
  unfold dec
  have hx : ∃ m, okl m ∧ enc m = enc l := ⟨l, h, rfl⟩
  rw [dif_pos hx]
  have := hx.choose_spec
  rw [enc_inj this.1 h this.2]
theorem dec_iff {s l : List Int} : dec s = some l ↔ okl l ∧ enc l = s := by
  constructor
  · intro h
    unfold dec at h
    split at h
    · rename_i hx
      injection h with h
      subst h
      exact hx.choose_spec
    · cases h
  · rintro ⟨h, rfl⟩; exact dec_some h
theorem dec_none {s : List Int} : dec s = none ↔ ∀ l, okl l → enc l ≠ s := by
  constructor
  · intro h l hl e
    rw [← e, dec_some hl] at h; cases h
  · intro h
    cases e : dec s with
    | none => rfl
    | some l => obtain ⟨a, b⟩ := dec_iff.1 e; exact absurd b (h l a)
theorem dec_nil : dec [] = some [] := dec_some okl_nil
/-- nothing fits behind a good beginning: nothing fits at all -/
theorem dec_stop {l t : List Int} (h : okl l) (hn : t ≠ []) (ht : ∀ r u, 0 ≤ scr r → t ≠ un r ++ u) : dec (enc l ++ t) = none := by
  rw [dec_none]
  intro m hm e
  obtain ⟨k, rfl, hk, ek⟩ := enc_pre h hm e.symm
  cases k with
  | nil => exact hn ek.symm
  | cons r k =>
    rw [enc_cons] at ek
    exact ht r _ (okl_cons.1 hk).1 ek.symm
theorem dec_join {s t l m : List Int} (h : dec s = some l) (g : dec t = some m) : dec (s ++ t) = some (l ++ m) := by
  obtain ⟨h1, rfl⟩ := dec_iff.1 h
  obtain ⟨g1, rfl⟩ := dec_iff.1 g
  rw [← enc_app]
  exact dec_some (okl_app.2 ⟨h1, g1⟩)
theorem dec_byts {s l : List Int} (h : dec s = some l) : l.length ≤ s.length := by
  obtain ⟨h1, rfl⟩ := dec_iff.1 h
  exact (enc_len l).1

/-- a try with n bytes -/
theorem try_fits {s : List Int} {n : Nat} (hn : 1 ≤ n) (hn3 : n ≤ 3) (hl : n ≤ s.length) (h : 0 ≤ scr (val (s.take n))) (e : un (val (s.take n)) = s.take n) : s = un (val (s.take n)) ++ s.drop n := by
  rw [e, List.take_append_drop]
theorem fits_try {r : Int} {u : List Int} (h : 0 ≤ scr r) : val ((un r ++ u).take (un r).length) = r ∧ (un r ++ u).take (un r).length = un r := by
  have : (un r ++ u).take (un r).length = un r := by simp
  have hr := scr_range h
  rw [this]
  exact ⟨val_un (by omega) (by omega), rfl⟩
end Go.Proofs.YtjbkpiimjkekgaaDoor.Glyph
