/- The plain lists of layer 4 (idset): ascending lists as sets, insertion, union, intersection, difference. No program. -/
namespace Go.Proofs.Ytdfnmohgkjonfaa.Idset
set_option linter.unusedVariables false

/-- strictly ascending -/
def asc (l : List Int) : Prop := l.Pairwise (· < ·)
theorem asc_nil : asc [] := List.Pairwise.nil
theorem asc_cons {x : Int} {l : List Int} : asc (x :: l) ↔ (∀ y ∈ l, x < y) ∧ asc l := List.pairwise_cons
theorem asc_app {l m : List Int} : asc (l ++ m) ↔ asc l ∧ asc m ∧ ∀ x ∈ l, ∀ y ∈ m, x < y := List.pairwise_append
/-- two ascending lists with the same elements are one -/
theorem asc_ext : ∀ {l m : List Int}, asc l → asc m → (∀ x, x ∈ l ↔ x ∈ m) → l = m
  | [], [], _, _, _ => rfl
  | [], y :: m, _, _, h => by have := (h y).2 (by simp); simp at this
  | x :: l, [], _, _, h => by have := (h x).1 (by simp); simp at this
  | x :: l, y :: m, hl, hm, h => by
    obtain ⟨hx, hl'⟩ := asc_cons.1 hl
    obtain ⟨hy, hm'⟩ := asc_cons.1 hm
    have e : x = y := by
      rcases List.mem_cons.1 ((h x).1 (by simp)) with e | e
      · exact e
      · rcases List.mem_cons.1 ((h y).2 (by simp)) with e' | e'
        · exact e'.symm
        · have := hy x e; have := hx y e'; omega
    subst e
    congr 1
    refine asc_ext hl' hm' fun z => ⟨fun hz => ?_, fun hz => ?_⟩
    · rcases List.mem_cons.1 ((h z).1 (by simp [hz])) with e | e
      · have := hx z hz; omega
      · exact e
    · rcases List.mem_cons.1 ((h z).2 (by simp [hz])) with e | e
      · have := hy z hz; omega
      · exact e

/-- one element more -/
def ins (n : Int) : List Int → List Int
  | [] => [n]
  | x :: l => if n < x then n :: x :: l else if n = x then x :: l else x :: ins n l
theorem mem_ins (n x : Int) : ∀ l : List Int, x ∈ ins n l ↔ x = n ∨ x ∈ l
  | [] => by simp [ins]
  | y :: l => by
    unfold ins
    have ih := mem_ins n x l
    split
    · simp
    · split
      · rename_i h; subst h; simp
      · simp only [List.mem_cons, ih]
        constructor
        · rintro (h | h | h)
          · exact .inr (.inl h)
          · exact .inl h
          · exact .inr (.inr h)
        · rintro (h | h | h)
          · exact .inr (.inl h)
          · exact .inl h
          · exact .inr (.inr h)
theorem asc_ins (n : Int) : ∀ l : List Int, asc l → asc (ins n l)
  | [], _ => by simp [ins, asc]
  | y :: l, h => by
    obtain ⟨hy, hl⟩ := asc_cons.1 h
    unfold ins
    split
    · rename_i hlt
      refine asc_cons.2 ⟨fun z hz => ?_, h⟩
      rcases List.mem_cons.1 hz with rfl | hz
      · exact hlt
      · have := hy z hz; omega
    · split
      · exact h
      · rename_i h1 h2
        refine asc_cons.2 ⟨fun z hz => ?_, asc_ins n l hl⟩
        rcases (mem_ins n z l).1 hz with rfl | hz
        · omega
        · exact hy z hz
theorem ins_len (n : Int) : ∀ l : List Int, (ins n l).length ≤ l.length + 1
  | [] => by simp [ins]
  | y :: l => by
    have := ins_len n l
    unfold ins
    split
    · simp
    · split
      · simp
      · simpa using this
/-- insertion by places -/
theorem ins_at {l : List Int} {n : Int} {i : Nat} (h : asc l) (hi : i ≤ l.length) (h1 : ∀ x ∈ l.take i, x < n) (h2 : ∀ x ∈ l.drop i, n < x) : l.take i ++ n :: l.drop i = ins n l := by
  have hs : asc (l.take i ++ l.drop i) := by rw [List.take_append_drop]; exact h
  obtain ⟨a1, a2, a3⟩ := asc_app.1 hs
  refine asc_ext (asc_app.2 ⟨a1, asc_cons.2 ⟨h2, a2⟩, fun x hx y hy => ?_⟩) (asc_ins n l h) fun x => ?_
  · rcases List.mem_cons.1 hy with rfl | hy
    · exact h1 x hx
    · exact a3 x hx y hy
  · rw [mem_ins, List.mem_append, List.mem_cons]
    have hm : x ∈ l ↔ x ∈ l.take i ∨ x ∈ l.drop i := by rw [← List.mem_append, List.take_append_drop]
    rw [hm]
    constructor
    · rintro (h | h | h)
      · exact .inr (.inl h)
      · exact .inl h
      · exact .inr (.inr h)
    · rintro (h | h | h)
      · exact .inr (.inl h)
      · exact .inl h
      · exact .inr (.inr h)
theorem ins_has {l : List Int} {n : Int} (h : asc l) (hn : n ∈ l) : ins n l = l :=
  asc_ext (asc_ins n l h) h fun x => by rw [mem_ins]; exact ⟨fun h => h.elim (fun e => e ▸ hn) id, .inr⟩

/-- the set of m, added to l -/
def add (l m : List Int) : List Int := m.foldl (fun a n => ins n a) l
def nrm (l : List Int) : List Int := add [] l
theorem add_nil (l : List Int) : add l [] = l := rfl
theorem add_cons (l m : List Int) (x : Int) : add l (x :: m) = add (ins x l) m := rfl
theorem add_snoc (l m : List Int) (x : Int) : add l (m ++ [x]) = ins x (add l m) := by unfold add; rw [List.foldl_append]; rfl
theorem add_asc : ∀ (m l : List Int), asc l → asc (add l m)
  | [], _, h => h
  | x :: m, l, h => add_asc m _ (asc_ins x l h)
theorem add_mem (x : Int) : ∀ (m l : List Int), x ∈ add l m ↔ x ∈ l ∨ x ∈ m
  | [], l => by simp [add]
  | y :: m, l => by
    rw [add_cons, add_mem x m, mem_ins, List.mem_cons]
    constructor
    · rintro ((h | h) | h)
      · exact .inr (.inl h)
      · exact .inl h
      · exact .inr (.inr h)
    · rintro (h | h | h)
      · exact .inl (.inr h)
      · exact .inl (.inl h)
      · exact .inr h
theorem add_len : ∀ (m l : List Int), (add l m).length ≤ l.length + m.length
  | [], _ => by simp [add]
  | x :: m, l => by
    have h1 := add_len m (ins x l)
    have h2 := ins_len x l
    rw [add_cons, List.length_cons]; omega
theorem nrm_asc (l : List Int) : asc (nrm l) := add_asc l [] asc_nil
theorem nrm_mem (x : Int) (l : List Int) : x ∈ nrm l ↔ x ∈ l := by unfold nrm; rw [add_mem]; simp
theorem nrm_len (l : List Int) : (nrm l).length ≤ l.length := by have := add_len l []; unfold nrm; simpa using this
def uni (a b : List Int) : List Int := add (nrm a) b
def int (a b : List Int) : List Int := nrm (a.filter fun x => decide (x ∈ b))
def mns (a b : List Int) : List Int := nrm (a.filter fun x => !decide (x ∈ b))
theorem uni_asc (a b : List Int) : asc (uni a b) := add_asc _ _ (nrm_asc a)
theorem int_asc (a b : List Int) : asc (int a b) := nrm_asc _
theorem mns_asc (a b : List Int) : asc (mns a b) := nrm_asc _
theorem uni_mem (x : Int) (a b : List Int) : x ∈ uni a b ↔ x ∈ a ∨ x ∈ b := by unfold uni; rw [add_mem, nrm_mem]
theorem int_mem (x : Int) (a b : List Int) : x ∈ int a b ↔ x ∈ a ∧ x ∈ b := by unfold int; rw [nrm_mem, List.mem_filter, decide_eq_true_iff]
theorem mns_mem (x : Int) (a b : List Int) : x ∈ mns a b ↔ x ∈ a ∧ ¬ x ∈ b := by unfold mns; rw [nrm_mem, List.mem_filter]; simp
theorem uni_len (a b : List Int) : (uni a b).length ≤ a.length + b.length := by
  have h1 := add_len b (nrm a)
  have h2 := nrm_len a
  unfold uni; omega
theorem int_len (a b : List Int) : (int a b).length ≤ a.length := Nat.le_trans (nrm_len _) (List.length_filter_le _ _)
theorem mns_len (a b : List Int) : (mns a b).length ≤ a.length := Nat.le_trans (nrm_len _) (List.length_filter_le _ _)
/-- a set is what it is -/
theorem nrm_set {l : List Int} (h : asc l) : nrm l = l := asc_ext (nrm_asc l) h fun x => nrm_mem x l
theorem nrm_rev (l : List Int) : nrm l.reverse = nrm l := asc_ext (nrm_asc _) (nrm_asc _) fun x => by rw [nrm_mem, nrm_mem, List.mem_reverse]

/-! the algebra -/
theorem uni_comm (a b : List Int) : uni a b = uni b a := asc_ext (uni_asc _ _) (uni_asc _ _) fun x => by rw [uni_mem, uni_mem]; exact Or.comm
theorem int_comm (a b : List Int) : int a b = int b a := asc_ext (int_asc _ _) (int_asc _ _) fun x => by rw [int_mem, int_mem]; exact And.comm
theorem uni_assoc (a b c : List Int) : uni (uni a b) c = uni a (uni b c) := asc_ext (uni_asc _ _) (uni_asc _ _) fun x => by simp only [uni_mem]; exact or_assoc
theorem int_assoc (a b c : List Int) : int (int a b) c = int a (int b c) := asc_ext (int_asc _ _) (int_asc _ _) fun x => by simp only [int_mem]; exact and_assoc
theorem int_uni (a b c : List Int) : int (uni a b) c = uni (int a c) (int b c) := asc_ext (int_asc _ _) (uni_asc _ _) fun x => by simp only [int_mem, uni_mem]; exact or_and_right
theorem uni_int (a b c : List Int) : uni (int a b) c = int (uni a c) (uni b c) := asc_ext (uni_asc _ _) (int_asc _ _) fun x => by simp only [int_mem, uni_mem]; exact and_or_right
theorem uni_absorb (a b : List Int) : uni a (int a b) = nrm a := asc_ext (uni_asc _ _) (nrm_asc _) fun x => by simp only [int_mem, uni_mem, nrm_mem]; exact ⟨fun h => h.elim id And.left, .inl⟩
theorem int_absorb (a b : List Int) : int a (uni a b) = nrm a := asc_ext (int_asc _ _) (nrm_asc _) fun x => by simp only [int_mem, uni_mem, nrm_mem]; exact ⟨And.left, fun h => ⟨h, .inl h⟩⟩
theorem uni_parts (a b : List Int) : uni (int a b) (mns a b) = nrm a := asc_ext (uni_asc _ _) (nrm_asc _) fun x => by
  simp only [int_mem, uni_mem, nrm_mem, mns_mem]
  by_cases h : x ∈ b <;> simp [h]
theorem int_apart (a b : List Int) : int (mns a b) b = [] := asc_ext (int_asc _ _) asc_nil fun x => by
  simp only [int_mem, mns_mem]
  constructor
  · rintro ⟨⟨_, h⟩, g⟩; exact absurd g h
  · intro h; cases h
theorem filter_asc {l : List Int} (h : asc l) (p : Int → Bool) : asc (l.filter p) := List.Pairwise.filter p h
theorem len_split (p : Int → Bool) : ∀ l : List Int, (l.filter p).length + (l.filter fun x => !p x).length = l.length
  | [] => rfl
  | x :: l => by
    have := len_split p l
    cases h : p x <;> simp [h] <;> omega
theorem len_parts (a b : List Int) : (int a b).length + (mns a b).length = (nrm a).length := by
  have e1 : int a b = (nrm a).filter fun x => decide (x ∈ b) := asc_ext (int_asc _ _) (filter_asc (nrm_asc a) _) fun x => by rw [int_mem, List.mem_filter, nrm_mem, decide_eq_true_iff]
  have e2 : mns a b = (nrm a).filter fun x => !decide (x ∈ b) := asc_ext (mns_asc _ _) (filter_asc (nrm_asc a) _) fun x => by rw [mns_mem, List.mem_filter, nrm_mem]; simp
  rw [e1, e2]; exact len_split _ _
theorem len_uni (a b : List Int) : (uni a b).length + (int a b).length = (nrm a).length + (nrm b).length := by
  have h1 := len_parts (uni a b) a
  have h2 := len_parts b a
  rw [int_comm b a] at h2
  have e1 : int (uni a b) a = nrm a := by rw [int_comm]; exact int_absorb a b
  have e2 : mns (uni a b) a = mns b a := asc_ext (mns_asc _ _) (mns_asc _ _) fun x => by
    simp only [mns_mem, uni_mem]
    by_cases h : x ∈ a <;> simp [h]
  have e3 : nrm (uni a b) = uni a b := nrm_set (uni_asc a b)
  rw [e1, e2, e3] at h1
  omega
/-- each element against the one before -/
theorem asc_step (l : List Int) : asc l ↔ ∀ i, i + 1 < l.length → l.getD i 0 < l.getD (i + 1) 0 := by
  constructor
  · intro h i hi
    have := List.pairwise_iff_getElem.1 h i (i + 1) (by omega) hi (by omega)
    simpa [List.getD, List.getElem?_eq_getElem (show i < l.length by omega), List.getElem?_eq_getElem hi] using this
  · intro h
    unfold asc
    rw [List.pairwise_iff_getElem]
    have step : ∀ d i, i + d + 1 < l.length → l.getD i 0 < l.getD (i + d + 1) 0 := by
      intro d
      induction d with
      | zero => intro i hi; exact h i hi
      | succ d ih =>
        intro i hi
        have h1 := ih i (by omega)
        have h2 := h (i + d + 1) (by omega)
        have : i + (d + 1) + 1 = i + d + 1 + 1 := by omega
        rw [this]; omega
    intro i j hi hj hij
    have := step (j - i - 1) i (by omega)
    rw [show i + (j - i - 1) + 1 = j by omega] at this
    simpa [List.getD, List.getElem?_eq_getElem hi, List.getElem?_eq_getElem hj] using this
theorem drop_gt {l : List Int} {n : Int} {k : Nat} (h : asc l) (hk : k < l.length) (h1 : n < l.getD k 0) : ∀ x ∈ l.drop k, n < x := by
  have hg : l.getD k 0 = l[k] := by simp [List.getD, List.getElem?_eq_getElem hk]
  have hd := List.drop_eq_getElem_cons hk
  have hs : asc (l.take k ++ l.drop k) := by rw [List.take_append_drop]; exact h
  have h2 := (asc_app.1 hs).2.1
  rw [hd] at h2 ⊢
  intro x hx
  rcases List.mem_cons.1 hx with rfl | hx
  · omega
  · have := (asc_cons.1 h2).1 x hx; omega
def vld (l : List Int) : Bool := decide (l.Pairwise (· < ·))
def hasb (l : List Int) (n : Int) : Bool := decide (n ∈ l)
end Go.Proofs.Ytdfnmohgkjonfaa.Idset
