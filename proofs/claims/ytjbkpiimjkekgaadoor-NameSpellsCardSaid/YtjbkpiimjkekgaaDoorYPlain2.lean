/- The plain numbers of layer 6 (glyph): directions, runs, the order from left to right. No program. -/
import Derived.Test.YtjbkpiimjkekgaaDoorYPlain
namespace Go.Proofs.YtjbkpiimjkekgaaDoor.Glyph
set_option linter.unusedVariables false

theorem dw_len {α} (p : α → Bool) : ∀ (l : List α), (l.dropWhile p).length ≤ l.length
  | [] => Nat.le_refl _
  | x :: l => by
    cases h : p x
    · rw [List.dropWhile_cons_of_neg (by rw [h]; decide)]; exact Nat.le_refl _
    · rw [List.dropWhile_cons_of_pos h, List.length_cons]; have := dw_len p l; omega
theorem dw_nil {α} {p : α → Bool} : ∀ {l : List α}, l.dropWhile p = [] ↔ ∀ x ∈ l, p x = true
  | [] => by simp
  | x :: l => by
    cases h : p x
    · rw [List.dropWhile_cons_of_neg (by rw [h]; decide)]
      constructor
      · intro e; cases e
      · intro g; have := g x (by simp); rw [h] at this; cases this
    · rw [List.dropWhile_cons_of_pos h, dw_nil]
      simp [h]
/-- the direction of a strong code point, 0 of another -/
def st (r : Int) : Int := if scr r = 0 then 0 else if scr r = 4 then -1 else 1
theorem st_cases (r : Int) : (st r = 0 ∧ scr r = 0) ∨ (st r = -1 ∧ scr r = 4) ∨ (st r = 1 ∧ scr r ≠ 0 ∧ scr r ≠ 4) := by
  unfold st
  split
  · rename_i h; exact .inl ⟨rfl, h⟩
  · split
    · rename_i h g; exact .inr (.inl ⟨rfl, g⟩)
    · rename_i h g; exact .inr (.inr ⟨rfl, h, g⟩)
/-- the direction of the first strong one -/
def fst' (b : Int) : List Int → Int
  | [] => b
  | r :: l => if st r ≠ 0 then st r else fst' b l
/-- the direction of the last strong one -/
def lst' (b : Int) : List Int → Int
  | [] => b
  | r :: l => lst' (if st r ≠ 0 then st r else b) l
theorem lst_snoc (b : Int) (l : List Int) (r : Int) : lst' b (l ++ [r]) = if st r ≠ 0 then st r else lst' b l := by
  induction l generalizing b with
  | nil => rfl
  | cons x l ih => rw [List.cons_append, lst', lst', ih]
theorem fst_app (b : Int) : ∀ (l m : List Int), fst' b (l ++ m) = fst' (fst' b m) l
  | [], m => rfl
  | x :: l, m => by rw [List.cons_append, fst', fst', fst_app b l m]
abbrev Dirn (d : Int) : Prop := d = 1 ∨ d = -1
theorem fst_dir {b : Int} (hb : Dirn b) : ∀ l, Dirn (fst' b l)
  | [] => hb
  | r :: l => by
    rw [fst']
    have := st_cases r
    have := fst_dir hb l
    unfold Dirn at *
    split <;> omega
theorem lst_dir {b : Int} (hb : Dirn b) : ∀ l, Dirn (lst' b l) := by
  intro l
  induction l generalizing b with
  | nil => exact hb
  | cons r l ih =>
    rw [lst']
    apply ih
    have := st_cases r
    unfold Dirn at *
    split <;> omega
/-- the base direction -/
def bas (l : List Int) : Int := fst' 1 l
theorem bas_dir (l : List Int) : Dirn (bas l) := fst_dir (.inl rfl) l
/-- the direction of the one at i -/
def dr (l : List Int) (i : Nat) : Int :=
  if st (l.getD i 0) ≠ 0 then st (l.getD i 0)
  else if lst' (bas l) (l.take i) = fst' (bas l) (l.drop (i + 1)) then lst' (bas l) (l.take i) else bas l
theorem dr_dir (l : List Int) (i : Nat) : Dirn (dr l i) := by
  unfold dr
  have h1 := st_cases (l.getD i 0)
  have h2 := lst_dir (bas_dir l) (l.take i)
  have h3 := bas_dir l
  unfold Dirn at *
  split
  · omega
  · split
    · exact h2
    · exact h3

/-- digits keep their order in a run that is turned -/
def tur : List Int → List Int
  | [] => []
  | r :: l => if dig r then tur (l.dropWhile dig) ++ (r :: l.takeWhile dig) else tur l ++ [r]
termination_by l => l.length
decreasing_by
  · simp only [List.length_cons]; have := dw_len dig l; omega
  · simp
theorem tur_nil : tur [] = [] := by rw [tur]
theorem tur_dig {r : Int} {l : List Int} (h : dig r = true) : tur (r :: l) = tur (l.dropWhile dig) ++ (r :: l.takeWhile dig) := by rw [tur, if_pos h]
theorem tur_no {r : Int} {l : List Int} (h : dig r = false) : tur (r :: l) = tur l ++ [r] := by rw [tur, if_neg (by rw [h]; decide)]
theorem tur_perm : ∀ (n : Nat) (l : List Int), l.length ≤ n → (tur l).Perm l
  | 0, l, h => by
    have : l = [] := List.length_eq_zero_iff.1 (by omega)
    subst this; rw [tur_nil]
  | n + 1, [], _ => by rw [tur_nil]
  | n + 1, r :: l, h => by
    rw [List.length_cons] at h
    cases hd : dig r
    · rw [tur_no hd]
      exact (List.perm_append_comm).trans (by simpa using (tur_perm n l (by omega)).cons r)
    · rw [tur_dig hd]
      have hl := dw_len dig l
      have h1 := tur_perm n (l.dropWhile dig) (by omega)
      refine (h1.append_right _).trans ?_
      refine List.perm_append_comm.trans ?_
      rw [List.cons_append, List.takeWhile_append_dropWhile]
theorem tur_rev : ∀ {l : List Int}, (∀ r ∈ l, dig r = false) → tur l = l.reverse
  | [], _ => by rw [tur_nil]; rfl
  | r :: l, h => by
    rw [tur_no (h r (by simp)), List.reverse_cons, tur_rev fun x hx => h x (List.mem_cons_of_mem _ hx)]
/-- from the end: a last one that is no digit -/
theorem tur_snoc_no {r : Int} (h : dig r = false) : ∀ (n : Nat) (l : List Int), l.length ≤ n → tur (l ++ [r]) = r :: tur l
  | 0, l, hn => by
    have : l = [] := List.length_eq_zero_iff.1 (by omega)
    subst this; rw [List.nil_append, tur_no h, tur_nil]; rfl
  | n + 1, [], _ => by rw [List.nil_append, tur_no h, tur_nil]; rfl
  | n + 1, x :: l, hn => by
    rw [List.length_cons] at hn
    rw [List.cons_append]
    cases hd : dig x
    · rw [tur_no hd, tur_no hd, tur_snoc_no h n l (by omega)]; rfl
    · have hl := dw_len dig l
      rw [tur_dig hd, tur_dig hd]
      by_cases ha : l.all dig = true
      · have hall : ∀ y ∈ l, dig y = true := fun y hy => List.all_eq_true.1 ha y hy
        have e1 : (l ++ [r]).dropWhile dig = [r] := by
          rw [List.dropWhile_append_of_pos hall, List.dropWhile_cons_of_neg (by rw [h]; decide)]
        have e2 : (l ++ [r]).takeWhile dig = l := by
          rw [List.takeWhile_append_of_pos hall, List.takeWhile_cons_of_neg (by rw [h]; decide), List.append_nil]
        have e3 : l.dropWhile dig = [] := dw_nil.2 hall
        have e4 : l.takeWhile dig = l := by have := List.takeWhile_append_dropWhile (p := dig) (l := l); rw [e3, List.append_nil] at this; exact this
        rw [e1, e2, e3, e4, tur_no h, tur_nil]; rfl
      · have hne : l.dropWhile dig ≠ [] := fun e => ha (List.all_eq_true.2 (dw_nil.1 e))
        have e1 : (l ++ [r]).dropWhile dig = l.dropWhile dig ++ [r] := by
          rw [List.dropWhile_append, if_neg (by simpa using hne)]
        have e2 : (l ++ [r]).takeWhile dig = l.takeWhile dig := by
          have a1 := List.takeWhile_append_dropWhile (p := dig) (l := l ++ [r])
          have a2 := List.takeWhile_append_dropWhile (p := dig) (l := l)
          rw [e1] at a1
          have : ((l ++ [r]).takeWhile dig ++ l.dropWhile dig) ++ [r] = (l.takeWhile dig ++ l.dropWhile dig) ++ [r] := by rw [List.append_assoc, a1, a2]
          exact List.append_cancel_right (List.append_cancel_right this)
        rw [e1, e2, tur_snoc_no h n _ (by omega)]; rfl
/-- from the end: digits alone behind one that is none, or all -/
theorem tur_digs {m : List Int} (hm : m ≠ []) (hd : ∀ x ∈ m, dig x = true) : tur m = m := by
  cases m with
  | nil => exact absurd rfl hm
  | cons x m =>
    have h := fun y hy => hd y (List.mem_cons_of_mem _ hy)
    have e3 : m.dropWhile dig = [] := dw_nil.2 h
    have e4 : m.takeWhile dig = m := by have := List.takeWhile_append_dropWhile (p := dig) (l := m); rw [e3, List.append_nil] at this; exact this
    rw [tur_dig (hd x (by simp)), e3, e4, tur_nil]; rfl
theorem tur_snoc_digs {r : Int} {m : List Int} (h : dig r = false) (hm : m ≠ []) (hd : ∀ x ∈ m, dig x = true) : ∀ (n : Nat) (l : List Int), l.length ≤ n → tur ((l ++ [r]) ++ m) = m ++ tur (l ++ [r])
  | 0, l, hn => by
    have : l = [] := List.length_eq_zero_iff.1 (by omega)
    subst this
    rw [List.nil_append, List.singleton_append, tur_no h, tur_no h, tur_digs hm hd, tur_nil]; rfl
  | n + 1, [], _ => by rw [List.nil_append, List.singleton_append, tur_no h, tur_no h, tur_digs hm hd, tur_nil]; rfl
  | n + 1, x :: l, hn => by
    rw [List.length_cons] at hn
    rw [List.cons_append, List.cons_append]
    cases hx : dig x
    · rw [tur_no hx, tur_no hx, tur_snoc_digs h hm hd n l (by omega), List.append_assoc]
    · have hl := dw_len dig l
      have hne : (l ++ [r]).dropWhile dig ≠ [] := by
        intro e
        have := dw_nil.1 e r (by simp)
        rw [h] at this; cases this
      have e1 : ((l ++ [r]) ++ m).dropWhile dig = (l ++ [r]).dropWhile dig ++ m := by rw [List.dropWhile_append, if_neg (by simpa using hne)]
      have e2 : ((l ++ [r]) ++ m).takeWhile dig = (l ++ [r]).takeWhile dig := by
        have a1 := List.takeWhile_append_dropWhile (p := dig) (l := (l ++ [r]) ++ m)
        have a2 := List.takeWhile_append_dropWhile (p := dig) (l := l ++ [r])
        rw [e1] at a1
        have : (((l ++ [r]) ++ m).takeWhile dig ++ (l ++ [r]).dropWhile dig) ++ m = ((l ++ [r]).takeWhile dig ++ (l ++ [r]).dropWhile dig) ++ m := by rw [List.append_assoc, a1, a2]
        exact List.append_cancel_right (List.append_cancel_right this)
      have e5 : (l ++ [r]).dropWhile dig = l.dropWhile dig ++ [r] := by
        by_cases ha : l.dropWhile dig = []
        · rw [List.dropWhile_append, if_pos (by simpa using ha), ha, List.dropWhile_cons_of_neg (by rw [h]; decide)]; rfl
        · rw [List.dropWhile_append, if_neg (by simpa using ha)]
      rw [tur_dig hx, tur_dig hx, e1, e2, e5, tur_snoc_digs h hm hd n _ (by omega), List.append_assoc]

/-- the pairs of direction and code point -/
def prs (l : List Int) : List (Int × Int) := (List.range l.length).map fun i => (dr l i, l.getD i 0)
def cds (p : List (Int × Int)) : List Int := p.map (·.2)
theorem prs_cds (l : List Int) : cds (prs l) = l := by
  unfold cds prs
  rw [List.map_map]
  apply List.ext_getElem
  · simp
  · intro i h1 h2
    simp [List.getD, List.getElem?_eq_getElem h2]
theorem prs_len (l : List Int) : (prs l).length = l.length := by unfold prs; simp
/-- a run as it stands -/
def ron (d : Int) (l : List Int) : List Int := if d < 0 then tur l else l
/-- put a run to what is there -/
def put (b : Int) (out run : List Int) : List Int := if b < 0 then run ++ out else out ++ run
/-- the runs, from the first one -/
def go (b : Int) : List (Int × Int) → List Int → List Int
  | [], out => out
  | p :: t, out => go b (t.dropWhile fun q => q.1 == p.1) (put b out (ron p.1 (p.2 :: cds (t.takeWhile fun q => q.1 == p.1))))
termination_by p => p.length
decreasing_by
  simp only [List.length_cons]; have := dw_len (fun q => q.1 == p.1) t; omega
theorem go_nil (b : Int) (out : List Int) : go b [] out = out := by rw [go]
theorem go_cons (b : Int) (p : Int × Int) (t : List (Int × Int)) (out : List Int) :
    go b (p :: t) out = go b (t.dropWhile fun q => q.1 == p.1) (put b out (ron p.1 (p.2 :: cds (t.takeWhile fun q => q.1 == p.1)))) := by rw [go]
/-- the order from left to right -/
def ord (l : List Int) : List Int := go (bas l) (prs l) []

theorem ron_perm (d : Int) (l : List Int) : (ron d l).Perm l := by
  unfold ron
  split
  · exact tur_perm _ l (Nat.le_refl _)
  · exact .refl _
theorem put_perm (b : Int) (out run : List Int) : (put b out run).Perm (out ++ run) := by
  unfold put
  split
  · exact List.perm_append_comm
  · exact .refl _
theorem go_perm (b : Int) : ∀ (n : Nat) (p : List (Int × Int)) (out : List Int), p.length ≤ n → (go b p out).Perm (out ++ cds p)
  | 0, p, out, h => by
    have : p = [] := List.length_eq_zero_iff.1 (by omega)
    subst this; rw [go_nil]; simp [cds]
  | n + 1, [], out, _ => by rw [go_nil]; simp [cds]
  | n + 1, p :: t, out, h => by
    rw [List.length_cons] at h
    rw [go_cons]
    have hl := dw_len (fun q => q.1 == p.1) t
    refine (go_perm b n _ _ (by omega)).trans ?_
    refine (((put_perm _ _ _).trans ((ron_perm _ _).append_left out)).append_right _).trans ?_
    rw [List.append_assoc]
    refine List.Perm.append_left out ?_
    rw [List.cons_append]
    unfold cds
    rw [← List.map_append, List.takeWhile_append_dropWhile]
    exact .refl _
theorem ord_perm (l : List Int) : (ord l).Perm l := by
  have := go_perm (bas l) _ (prs l) [] (Nat.le_refl _)
  rw [prs_cds] at this
  exact this
theorem ord_len (l : List Int) : (ord l).length = l.length := (ord_perm l).length_eq
/-- one direction alone -/
theorem go_one {b d : Int} {p : List (Int × Int)} (h : ∀ q ∈ p, q.1 = d) (hp : p ≠ []) : go b p [] = ron d (cds p) := by
  cases p with
  | nil => exact absurd rfl hp
  | cons q t =>
    have h0 := h q (by simp)
    have h1 : ∀ x ∈ t, (x.1 == q.1) = true := fun x hx => by rw [h x (List.mem_cons_of_mem _ hx), h0]; exact beq_self_eq_true _
    have e3 : (t.dropWhile fun x => x.1 == q.1) = [] := dw_nil.2 h1
    have e4 : (t.takeWhile fun x => x.1 == q.1) = t := by have := List.takeWhile_append_dropWhile (p := fun x : Int × Int => x.1 == q.1) (l := t); rw [e3, List.append_nil] at this; exact this
    rw [go_cons, e3, e4, go_nil, h0]
    unfold put
    split
    · rw [List.append_nil]; rfl
    · rfl
theorem lst_one {d : Int} : ∀ {l : List Int} {b : Int}, b = d → (∀ r ∈ l, st r = 0 ∨ st r = d) → lst' b l = d
  | [], _, hb, _ => hb
  | r :: l, b, hb, h => by
    rw [lst']
    have := h r (by simp)
    refine lst_one ?_ (fun x hx => h x (List.mem_cons_of_mem _ hx))
    split <;> omega
theorem fst_one {d : Int} : ∀ {l : List Int} {b : Int}, b = d → (∀ r ∈ l, st r = 0 ∨ st r = d) → fst' b l = d
  | [], _, hb, _ => hb
  | r :: l, b, hb, h => by
    rw [fst']
    have := h r (by simp)
    have := fst_one hb (fun x hx => h x (List.mem_cons_of_mem _ hx))
    split <;> omega
theorem dr_one {d : Int} {l : List Int} (hb : bas l = d) (h : ∀ r ∈ l, st r = 0 ∨ st r = d) {i : Nat} (hi : i < l.length) : dr l i = d := by
  have hm : l.getD i 0 ∈ l := by
    have : l.getD i 0 = l[i] := by simp [List.getD, List.getElem?_eq_getElem hi]
    rw [this]; exact List.getElem_mem _
  have h1 := h _ hm
  have h2 := lst_one (l := l.take i) hb (fun r hr => h r (List.mem_of_mem_take hr))
  have h3 := fst_one (l := l.drop (i + 1)) hb (fun r hr => h r (List.mem_of_mem_drop hr))
  unfold dr
  rw [h2, h3, hb, if_pos rfl]
  split <;> omega
theorem ord_one {d : Int} {l : List Int} (hb : bas l = d) (h : ∀ r ∈ l, st r = 0 ∨ st r = d) (hl : l ≠ []) : ord l = ron d l := by
  unfold ord
  rw [go_one (d := d), prs_cds]
  · intro q hq
    obtain ⟨i, hi, rfl⟩ := List.mem_map.1 hq
    exact dr_one hb h (List.mem_range.1 hi)
  · intro e
    have := congrArg List.length e
    rw [prs_len] at this
    exact hl (List.length_eq_zero_iff.1 (by simpa using this))
theorem ord_nil : ord [] = [] := by unfold ord; rw [show prs [] = [] by rfl, go_nil]
/-- without Hebrew -/
theorem ord_id {l : List Int} (h : ∀ r ∈ l, ¬ (1488 ≤ r ∧ r ≤ 1514)) : ord l = l := by
  have hs : ∀ r ∈ l, st r = 0 ∨ st r = 1 := fun r hr => by
    have h1 := st_cases r
    have h2 := scr_cases r
    have h3 := h r hr
    unfold Com Lat at h2
    omega
  by_cases hl : l = []
  · subst hl; exact ord_nil
  · rw [ord_one (d := 1) (fst_one rfl hs) hs hl]; rfl
/-- Hebrew alone -/
theorem ord_rev {l : List Int} (h : ∀ r ∈ l, 1488 ≤ r ∧ r ≤ 1514) : ord l = l.reverse := by
  have hs : ∀ r ∈ l, st r = -1 := fun r hr => by
    have h1 := st_cases r
    rw [scr_he (h r hr)] at h1
    omega
  by_cases hl : l = []
  · subst hl; exact ord_nil
  · have hb : bas l = -1 := by
      cases l with
      | nil => exact absurd rfl hl
      | cons r t =>
        unfold bas
        rw [fst', if_pos (by rw [hs r (by simp)]; decide)]
        exact hs r (by simp)
    rw [ord_one (d := -1) hb (fun r hr => .inr (hs r hr)) hl]
    show tur l = _
    refine tur_rev fun r hr => ?_
    have := h r hr
    unfold dig
    exact decide_eq_false (by omega)
/-- how often -/
def cnt (l : List Int) (n : Int) : Nat := l.count n
theorem ord_cnt (l : List Int) (n : Int) : cnt (ord l) n = cnt l n := (ord_perm l).count_eq n
theorem cnt_snoc (l : List Int) (r n : Int) : cnt (l ++ [r]) n = cnt l n + if r = n then 1 else 0 := by
  unfold cnt
  rw [List.count_append, List.count_singleton]
  simp
theorem cnt_le (l : List Int) (n : Int) : cnt l n ≤ l.length := List.count_le_length
end Go.Proofs.YtjbkpiimjkekgaaDoor.Glyph
