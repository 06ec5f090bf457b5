/- Plain laws of names: validity, keys, their order. No function of the program. -/
import Derived.Test.YtjbkpiimjkekgaaDoorYPlain
namespace Go.Proofs.YtjbkpiimjkekgaaDoor.Name
open Go.Proofs.YtjbkpiimjkekgaaDoor.Glyph
set_option linter.unusedVariables false

/-! lists of numbers in order -/
def num : List Int → List Int → Int
  | [], [] => 0
  | [], _ :: _ => -1
  | _ :: _, [] => 1
  | a :: s, b :: t => if a < b then -1 else if b < a then 1 else num s t
theorem num_self : ∀ s, num s s = 0
  | [] => rfl
  | a :: s => by simp [num, num_self s]
theorem num_cases : ∀ s t, num s t = -1 ∨ num s t = 0 ∨ num s t = 1
  | [], [] => .inr (.inl rfl)
  | [], _ :: _ => .inl rfl
  | _ :: _, [] => .inr (.inr rfl)
  | a :: s, b :: t => by
    simp only [num]
    split
    · exact .inl rfl
    · split
      · exact .inr (.inr rfl)
      · exact num_cases s t
theorem num_zero : ∀ {s t}, num s t = 0 → s = t
  | [], [], _ => rfl
  | [], _ :: _, h => by simp [num] at h
  | _ :: _, [], h => by simp [num] at h
  | a :: s, b :: t, h => by
    simp only [num] at h
    split at h
    · simp at h
    · split at h
      · simp at h
      · rw [num_zero h, show a = b by omega]
theorem num_neg : ∀ s t, num t s = - num s t
  | [], [] => rfl
  | [], _ :: _ => rfl
  | _ :: _, [] => rfl
  | a :: s, b :: t => by
    simp only [num]
    by_cases h : a < b
    · rw [if_pos h, if_neg (by omega), if_pos h]; rfl
    · rw [if_neg h]
      by_cases g : b < a
      · rw [if_pos g, if_neg h, if_pos g]
      · rw [if_neg g, if_neg h, if_neg g, num_neg s t]
theorem num_trans : ∀ {s t u}, num s t ≤ 0 → num t u ≤ 0 → num s u ≤ 0
  | [], [], u, _, h => h
  | [], _ :: _, [], _, h => by simp [num] at h
  | [], _ :: _, _ :: _, _, _ => by simp [num]
  | _ :: _, [], _, h, _ => by simp [num] at h
  | _ :: _, _ :: _, [], _, h => by simp [num] at h
  | a :: s, b :: t, c :: u, h, g => by
    simp only [num] at *
    by_cases h1 : a < b
    · by_cases g1 : b < c
      · rw [if_pos (by omega)]; decide
      · rw [if_neg g1] at g
        by_cases g2 : c < b
        · rw [if_pos g2] at g; omega
        · rw [if_pos (by omega)]; decide
    · rw [if_neg h1] at h
      by_cases h2 : b < a
      · rw [if_pos h2] at h; omega
      · rw [if_neg h2] at h
        by_cases g1 : b < c
        · rw [if_pos (by omega)]; decide
        · rw [if_neg g1] at g
          by_cases g2 : c < b
          · rw [if_pos g2] at g; omega
          · rw [if_neg g2] at g
            rw [if_neg (by omega), if_neg (by omega)]
            exact num_trans h g
/-- what lies between two lists with one beginning has this beginning -/
theorem num_between : ∀ {p s t u : List Int}, p <+: s → p <+: u → num s t ≤ 0 → num t u ≤ 0 → p <+: t
  | [], _, _, _, _, _, _, _ => List.nil_prefix
  | x :: p, s, t, u, hs, hu, h, g => by
    obtain ⟨s', rfl⟩ := hs
    obtain ⟨u', rfl⟩ := hu
    cases t with
    | nil => simp [num] at h
    | cons b t =>
      simp only [List.cons_append, num] at h g
      by_cases h1 : x < b
      · rw [if_neg (by omega), if_pos h1] at g; omega
      · rw [if_neg h1] at h
        by_cases h2 : b < x
        · rw [if_pos h2] at h; omega
        · rw [if_neg h2] at h
          rw [if_neg (by omega), if_neg (by omega)] at g
          obtain rfl : x = b := by omega
          exact List.cons_prefix_cons.2 ⟨rfl, num_between (List.prefix_append p s') (List.prefix_append p u') h g⟩

/-! names -/
def mrk (r : Int) : Bool := decide (r = 32 ∨ r = 39 ∨ r = 40 ∨ r = 41 ∨ r = 45 ∨ r = 46)
def com (l : List Int) : Bool := l.all fun r => decide (scr r = 0)
def twice : List Int → Bool
  | a :: b :: l => decide (a = 32 ∧ b = 32) || twice (b :: l)
  | _ => false
def blk (l : List Int) : Bool := decide (l.getD 0 0 = 32) || decide (l.getD (l.length - 1) 0 = 32) || twice l
noncomputable def chk (S : List Int) : Int :=
  if S = [] then 14 else if 40 < S.length then 3 else match dec S with
  | none => 4
  | some l => if l = [] ∨ blk l = true ∨ com l = true then 14 else 0
def keyL (l : List Int) : List Int := (l.filter fun r => !mrk r).map fol
noncomputable def key (S : List Int) : List Int := if chk S = 0 then keyL ((dec S).getD []) else []
noncomputable def cmp (S T : List Int) : Int :=
  if chk S ≠ 0 ∧ chk T = 0 then -1 else if chk S = 0 ∧ chk T ≠ 0 then 1 else if num (key S) (key T) = 0 then num S T else num (key S) (key T)
noncomputable def beg (S P : List Int) : Bool := decide (chk S = 0 ∧ (P = [] ∨ chk P = 0 ∧ key P <+: key S))
noncomputable def wdt (S : List Int) (n : Int) : Int := if chk S = 0 ∧ 1 ≤ n ∧ n ≤ 64 then (((dec S).getD []).map fun r => wid r n).sum else 0
noncomputable def wde (S : List Int) (n : Int) : Int := if chk S ≠ 0 then chk S else if 1 ≤ n ∧ n ≤ 64 then 0 else 2

theorem chk_ok {S : List Int} : chk S = 0 ↔ S ≠ [] ∧ S.length ≤ 40 ∧ ∃ l, dec S = some l ∧ l ≠ [] ∧ blk l = false ∧ com l = false := by
  unfold chk
  constructor
  · intro h
    split at h
    · simp at h
    · rename_i h1
      split at h
      · simp at h
      · rename_i h2
        split at h
        · simp at h
        · rename_i l hl
          split at h
          · simp at h
          · rename_i h3
            simp only [not_or] at h3
            exact ⟨h1, by omega, l, hl, h3.1, by simpa using h3.2.1, by simpa using h3.2.2⟩
  · rintro ⟨h1, h2, l, hl, h3, h4, h5⟩
    rw [if_neg h1, if_neg (by omega), hl]
    simp [h3, h4, h5]
theorem chk_cases (S : List Int) : chk S = 14 ∨ chk S = 3 ∨ chk S = 4 ∨ chk S = 0 := by
  unfold chk
  split
  · simp
  · split
    · simp
    · split
      · simp
      · split <;> simp

theorem cmp_cases (S T : List Int) : cmp S T = -1 ∨ cmp S T = 0 ∨ cmp S T = 1 := by
  unfold cmp
  split
  · simp
  · split
    · simp
    · split
      · exact num_cases S T
      · exact num_cases _ _
theorem cmp_zero {S T : List Int} : cmp S T = 0 ↔ S = T := by
  constructor
  · intro h
    unfold cmp at h
    split at h
    · simp at h
    · split at h
      · simp at h
      · split at h
        · exact num_zero h
        · rename_i g; exact absurd h g
  · rintro rfl
    unfold cmp
    rw [if_neg (fun h => h.1 h.2), if_neg (fun h => h.2 h.1), if_pos (num_self _), num_self]
theorem cmp_same {S T : List Int} (h : chk S = 0 ↔ chk T = 0) : cmp S T = if num (key S) (key T) = 0 then num S T else num (key S) (key T) := by
  unfold cmp
  rw [if_neg (fun g => g.1 (h.2 g.2)), if_neg (fun g => g.2 (h.1 g.1))]
theorem cmp_neg (S T : List Int) : cmp T S = - cmp S T := by
  by_cases hs : chk S = 0 ↔ chk T = 0
  · rw [cmp_same hs, cmp_same hs.symm, num_neg (key S) (key T)]
    by_cases h : num (key S) (key T) = 0
    · rw [if_pos h, if_pos (by rw [h]; rfl), num_neg S T]
    · rw [if_neg h, if_neg (by omega)]
  · unfold cmp
    by_cases h1 : chk S = 0
    · have h2 : chk T ≠ 0 := fun g => hs ⟨fun _ => g, fun _ => h1⟩
      rw [if_pos ⟨h2, h1⟩, if_neg (fun g => g.1 h1), if_pos ⟨h1, h2⟩]
    · have h2 : chk T = 0 := by
        apply Classical.byContradiction
        intro g
        exact hs ⟨fun a => absurd a h1, fun a => absurd a g⟩
      rw [if_neg (fun g => g.1 h2), if_pos ⟨h2, h1⟩, if_pos ⟨h1, h2⟩]; rfl
theorem key_no {S : List Int} (h : chk S ≠ 0) : key S = [] := by unfold key; rw [if_neg h]
/-- two names of one kind: by the keys, then byte by byte -/
theorem cmp_le {S T : List Int} : cmp S T ≤ 0 ↔ (chk S ≠ 0 ∧ chk T = 0) ∨ ((chk S = 0 ↔ chk T = 0) ∧ num (key S) (key T) ≤ 0 ∧ (num (key S) (key T) = 0 → num S T ≤ 0)) := by
  unfold cmp
  by_cases h1 : chk S = 0 <;> by_cases h2 : chk T = 0
  · rw [if_neg (by simp [h1]), if_neg (by simp [h2])]
    by_cases h : num (key S) (key T) = 0
    · rw [if_pos h]; simp [h1, h2, h]
    · rw [if_neg h]; simp [h1, h2, h]
  · rw [if_neg (by simp [h1]), if_pos ⟨h1, h2⟩]; simp [h1, h2]
  · rw [if_pos ⟨h1, h2⟩]; simp [h1, h2]
  · rw [if_neg (by simp [h2]), if_neg (by simp [h1])]
    by_cases h : num (key S) (key T) = 0
    · rw [if_pos h]; simp [h1, h2, h]
    · rw [if_neg h]; simp [h1, h2, h]
theorem cmp_trans {S T U : List Int} (h : cmp S T ≤ 0) (g : cmp T U ≤ 0) : cmp S U ≤ 0 := by
  rw [cmp_le] at *
  rcases h with ⟨h1, h2⟩ | ⟨h1, h2, h3⟩
  · rcases g with ⟨g1, g2⟩ | ⟨g1, g2, g3⟩
    · exact absurd h2 g1
    · exact .inl ⟨h1, g1.1 h2⟩
  · rcases g with ⟨g1, g2⟩ | ⟨g1, g2, g3⟩
    · exact .inl ⟨fun e => g1 (h1.1 e), g2⟩
    · refine .inr ⟨h1.trans g1, num_trans h2 g2, fun e => ?_⟩
      have a1 := num_zero e
      have q : num (key T) (key S) ≤ 0 := by rw [a1]; exact g2
      rw [num_neg (key S) (key T)] at q
      have e1 : num (key S) (key T) = 0 := by omega
      have e2 : num (key T) (key U) = 0 := by rw [← num_zero e1]; exact e
      exact num_trans (h3 e1) (g3 e2)

theorem beg_ok {S P : List Int} : beg S P = true ↔ chk S = 0 ∧ (P = [] ∨ chk P = 0 ∧ key P <+: key S) := by unfold beg; exact decide_eq_true_iff
theorem beg_self (S : List Int) : beg S S = decide (chk S = 0) := by
  unfold beg
  by_cases h : chk S = 0
  · rw [decide_eq_true h, decide_eq_true]; exact ⟨h, .inr ⟨h, List.prefix_rfl⟩⟩
  · rw [decide_eq_false h, decide_eq_false]; exact fun g => h g.1
theorem beg_nil (S : List Int) : beg S [] = decide (chk S = 0) := by
  unfold beg
  by_cases h : chk S = 0
  · rw [decide_eq_true h, decide_eq_true]; exact ⟨h, .inl rfl⟩
  · rw [decide_eq_false h, decide_eq_false]; exact fun g => h g.1
theorem beg_trans {S T U : List Int} (h : beg S T = true) (g : beg T U = true) : beg S U = true := by
  rw [beg_ok] at *
  obtain ⟨h1, h2⟩ := h
  obtain ⟨g1, g2⟩ := g
  refine ⟨h1, ?_⟩
  rcases g2 with g2 | ⟨g2, g3⟩
  · exact .inl g2
  · right
    refine ⟨g2, ?_⟩
    rcases h2 with h2 | ⟨h2, h3⟩
    · subst h2
      rw [chk_ok] at g1
      exact absurd rfl g1.1
    · exact g3.trans h3
theorem beg_between {S T U P : List Int} (hT : chk T = 0) (h : cmp S T ≤ 0) (g : cmp T U ≤ 0) (hs : beg S P = true) (hu : beg U P = true) : beg T P = true := by
  rw [beg_ok] at *
  rw [cmp_le] at h g
  refine ⟨hT, ?_⟩
  rcases hs.2 with h0 | ⟨p1, p2⟩
  · exact .inl h0
  · rcases hu.2 with h0 | ⟨_, p3⟩
    · exact .inl h0
    · right
      refine ⟨p1, ?_⟩
      have h2 : num (key S) (key T) ≤ 0 := by
        rcases h with ⟨a, _⟩ | ⟨_, a, _⟩
        · exact absurd hs.1 a
        · exact a
      have g2 : num (key T) (key U) ≤ 0 := by
        rcases g with ⟨a, _⟩ | ⟨_, a, _⟩
        · exact absurd hT a
        · exact a
      exact num_between p2 p3 h2 g2

/-! keys -/
theorem mrk_scr {r : Int} (h : mrk r = true) : scr r = 0 := by
  have := of_decide_eq_true h
  exact scr_com (by unfold Com; omega)
theorem fol_mrk {r : Int} (h : mrk r = false) : mrk (fol r) = false := by
  by_cases h0 : scr r = 0
  · have hc : Com r := by
      have := scr_cases r
      rcases this with a | a | a | a | a | a | a
      · exact a.2
      all_goals omega
    have hf : fol r = r := by
      apply fol_id <;> (unfold Com at hc; (try unfold F32); (try unfold F1); omega)
    rw [hf]; exact h
  · cases hm : mrk (fol r) with
    | false => rfl
    | true => rw [← fol_scr] at h0; exact absurd (mrk_scr hm) h0
theorem keyL_mem {l : List Int} {x : Int} (h : x ∈ keyL l) : fol x = x ∧ mrk x = false := by
  unfold keyL at h
  obtain ⟨r, hr, rfl⟩ := List.mem_map.1 h
  have := (List.mem_filter.1 hr).2
  exact ⟨fol_fol r, fol_mrk (by simpa using this)⟩
theorem keyL_ne {l : List Int} (h : com l = false) : keyL l ≠ [] := by
  unfold com at h
  rw [List.all_eq_false] at h
  obtain ⟨r, hr, h0⟩ := h
  intro e
  unfold keyL at e
  rw [List.map_eq_nil_iff, List.filter_eq_nil_iff] at e
  have := e r hr
  have hm : mrk r = true := by cases hh : mrk r <;> simp_all
  exact h0 (decide_eq_true (mrk_scr hm))
theorem keyL_len (l : List Int) : (keyL l).length ≤ l.length := by unfold keyL; rw [List.length_map]; exact List.length_filter_le _ _
theorem key_some {S l : List Int} (h : chk S = 0) (g : dec S = some l) : key S = keyL l := by unfold key; rw [if_pos h, g]; rfl
end Go.Proofs.YtjbkpiimjkekgaaDoor.Name
