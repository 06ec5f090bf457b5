/- Plain ranges: merging sorted ranges; the ranges that share integers with one; what is common; what is left over. No program. -/
import Derived.Test.YtdfnmohgkjonfaaSPlain2
namespace Go.Proofs.Ytdfnmohgkjonfaa.Span
set_option linter.unusedVariables false

/-! merging -/
def ne (p : Rg) : Bool := !decide (p.2 ≤ p.1)
theorem ne_iff (p : Rg) : ne p = true ↔ p.1 < p.2 := by unfold ne; simp
def mrg (out : List Rg) (r : Rg) : List Rg := if 0 < out.length ∧ r.1 ≤ (lst out).2 then out.set (out.length - 1) ((lst out).1, max (lst out).2 r.2) else out ++ [r]
theorem mrg_spec {out : List Rg} {r : Rg} (hv : vd out) (hlo : ∀ p ∈ out, p.1 ≤ r.1) (hr : r.1 < r.2) :
    vd (mrg out r) ∧ (∀ n, inl n (mrg out r) ↔ inl n out ∨ (r.1 ≤ n ∧ n < r.2)) ∧ ∀ p ∈ mrg out r, p.1 ≤ r.1 := by
  unfold mrg
  split
  · rename_i hl
    obtain ⟨o, p, rfl⟩ := snoc_of hl.1
    rw [lst_app] at hl ⊢
    rw [set_last]
    obtain ⟨a1, a2, a3⟩ := vd_app.1 hv
    have hp := (vd_cons.1 a2).1
    have hpl := hlo p (by simp)
    have hl2 := hl.2
    obtain ⟨m, hm⟩ : ∃ m, m = max p.2 r.2 := ⟨_, rfl⟩
    rw [← hm]
    have hmm : (m = p.2 ∧ r.2 ≤ p.2) ∨ (m = r.2 ∧ p.2 ≤ r.2) := by
      rcases Int.le_total p.2 r.2 with g | g
      · right; exact ⟨by rw [hm, Int.max_eq_right g], g⟩
      · left; exact ⟨by rw [hm, Int.max_eq_left g], g⟩
    clear hm
    refine ⟨vd_app.2 ⟨a1, vd_one (by show p.1 < m; omega), fun q hq s hs => ?_⟩, fun n => ?_, fun q hq => ?_⟩
    · obtain rfl := List.mem_singleton.1 hs
      exact a3 q hq p (by simp)
    · rw [inl_app, inl_app, inl_one, inl_one]
      show (inl n o ∨ (p.1 ≤ n ∧ n < m)) ↔ _
      constructor
      · rintro (g | g)
        · exact .inl (.inl g)
        · by_cases h : n < p.2
          · exact .inl (.inr ⟨g.1, h⟩)
          · exact .inr ⟨by omega, by omega⟩
      · rintro ((g | g) | g)
        · exact .inl g
        · exact .inr ⟨g.1, by omega⟩
        · exact .inr ⟨by omega, by omega⟩
    · rcases List.mem_append.1 hq with hq | hq
      · exact hlo q (by simp [hq])
      · obtain rfl := List.mem_singleton.1 hq
        exact hpl
  · rename_i hl
    refine ⟨vd_app.2 ⟨hv, vd_one hr, fun q hq s hs => ?_⟩, fun n => by rw [inl_app, inl_one], fun q hq => ?_⟩
    · obtain rfl := List.mem_singleton.1 hs
      have hlen : 0 < out.length := List.length_pos_of_mem hq
      obtain ⟨o, p, rfl⟩ := snoc_of hlen
      rw [lst_app] at hl
      have hps : p.2 < s.1 := by
        rcases Int.lt_or_le p.2 s.1 with g | g
        · exact g
        · exact absurd ⟨hlen, g⟩ hl
      rcases List.mem_append.1 hq with hq | hq
      · have g1 := (vd_app.1 hv).2.2 q hq p (by simp)
        have g2 := hv.1 p (by simp)
        omega
      · obtain rfl := List.mem_singleton.1 hq
        exact hps
    · rcases List.mem_append.1 hq with hq | hq
      · exact hlo q hq
      · obtain rfl := List.mem_singleton.1 hq
        exact Int.le_refl _
theorem mrg_len (out : List Rg) (r : Rg) : (mrg out r).length ≤ out.length + 1 := by unfold mrg; split <;> simp
def mrgs (S : List Rg) : List Rg := S.foldl mrg []
theorem mrgs_snoc (S : List Rg) (r : Rg) : mrgs (S ++ [r]) = mrg (mrgs S) r := by unfold mrgs; rw [List.foldl_append]; rfl
theorem mrgs_go : ∀ (S out : List Rg), vd out → (∀ p ∈ out, ∀ r ∈ S, p.1 ≤ r.1) → (∀ r ∈ S, r.1 < r.2) → S.Pairwise (fun p q => p.1 ≤ q.1) →
    vd (S.foldl mrg out) ∧ ∀ n, inl n (S.foldl mrg out) ↔ inl n out ∨ inl n S
  | [], out, hv, _, _, _ => ⟨hv, fun n => ⟨.inl, fun h => h.elim id fun g => absurd g (inl_nil n)⟩⟩
  | r :: S, out, hv, hlo, hne, hs => by
    obtain ⟨s1, s2⟩ := List.pairwise_cons.1 hs
    obtain ⟨h1, h2, h3⟩ := mrg_spec hv (fun p hp => hlo p hp r (by simp)) (hne r (by simp))
    obtain ⟨g1, g2⟩ := mrgs_go S (mrg out r) h1 (fun p hp q hq => by have := h3 p hp; have := s1 q hq; omega) (fun q hq => hne q (by simp [hq])) s2
    refine ⟨g1, fun n => ?_⟩
    rw [List.foldl_cons, g2 n, h2 n, inl_cons]
    constructor
    · rintro ((g | g) | g)
      · exact .inl g
      · exact .inr (.inl g)
      · exact .inr (.inr g)
    · rintro (g | g | g)
      · exact .inl (.inl g)
      · exact .inl (.inr g)
      · exact .inr g
theorem mrgs_len : ∀ (S : List Rg), (mrgs S).length ≤ S.length := by
  intro S
  have key : ∀ (S out : List Rg), (S.foldl mrg out).length ≤ out.length + S.length := by
    intro S
    induction S with
    | nil => intro out; simp
    | cons r S ih =>
      intro out
      have h1 := ih (mrg out r)
      have h2 := mrg_len out r
      rw [List.foldl_cons, List.length_cons]; omega
  have := key S []
  simpa [mrgs] using this
theorem inl_filter_ne (l : List Rg) (n : Int) : inl n (l.filter ne) ↔ inl n l := by
  unfold inl
  constructor
  · rintro ⟨p, hp, h⟩; exact ⟨p, (List.mem_filter.1 hp).1, h⟩
  · rintro ⟨p, hp, h⟩; exact ⟨p, List.mem_filter.2 ⟨hp, (ne_iff p).2 (by omega)⟩, h⟩
theorem inl_perm {l m : List Rg} (h : l.Perm m) (n : Int) : inl n l ↔ inl n m := by
  unfold inl
  constructor
  · rintro ⟨p, hp, g⟩; exact ⟨p, h.mem_iff.1 hp, g⟩
  · rintro ⟨p, hp, g⟩; exact ⟨p, h.mem_iff.2 hp, g⟩
/-- the union is what merging makes of the sorted ranges that are not empty -/
theorem mrgs_uni {a b S : List Rg} (hp : S.Perm ((a ++ b).filter ne)) (hs : S.Pairwise fun p q => p.1 ≤ q.1) : mrgs S = uni a b := by
  obtain ⟨g1, g2⟩ := mrgs_go S [] vd_nil (fun p hp => by cases hp) (fun r hr => (ne_iff r).1 (List.mem_filter.1 (hp.mem_iff.1 hr)).2) hs
  refine vd_ext g1 (uni_vd a b) fun n => ?_
  change inl n (S.foldl mrg []) ↔ _
  rw [g2 n, inl_perm hp, inl_filter_ne, inl_app, ← inb_iff (uni a b), uni_in, Bool.or_eq_true, inb_iff, inb_iff]
  exact ⟨fun h => h.elim (fun g => absurd g (inl_nil n)) id, .inr⟩

/-! sharing -/
def shr (r s : Rg) : Bool := decide (r.1 < s.2) && decide (s.1 < r.2)
theorem shr_iff (r s : Rg) : shr r s = true ↔ r.1 < s.2 ∧ s.1 < r.2 := by unfold shr; simp
theorem vd_lt {R : List Rg} (hv : vd R) {i j : Nat} (hij : i < j) (hj : j < R.length) : (R.getD i (0, 0)).2 < (R.getD j (0, 0)).1 := by
  have := List.pairwise_iff_getElem.1 hv.2 i j (by omega) hj hij
  simpa [List.getD, List.getElem?_eq_getElem (show i < R.length by omega), List.getElem?_eq_getElem hj] using this
theorem vd_ne {R : List Rg} (hv : vd R) {i : Nat} (hi : i < R.length) : (R.getD i (0, 0)).1 < (R.getD i (0, 0)).2 := by
  have := hv.1 R[i] (List.getElem_mem _)
  simpa [List.getD, List.getElem?_eq_getElem hi] using this
theorem vd_drop {R : List Rg} (hv : vd R) (j : Nat) : vd (R.drop j) := ⟨fun p hp => hv.1 p (List.mem_of_mem_drop hp), List.Pairwise.sublist (List.drop_sublist _ _) hv.2⟩
theorem mem_getD {l : List Rg} {p : Rg} (h : p ∈ l) : ∃ i, i < l.length ∧ l.getD i (0, 0) = p := by
  obtain ⟨i, hi, rfl⟩ := List.getElem_of_mem h
  exact ⟨i, hi, by simp [List.getD, List.getElem?_eq_getElem hi]⟩
theorem getD_mem {l : List Rg} {i : Nat} (h : i < l.length) : l.getD i (0, 0) ∈ l := by
  have : l.getD i (0, 0) = l[i] := by simp [List.getD, List.getElem?_eq_getElem h]
  rw [this]; exact List.getElem_mem _
theorem filter_all {α : Type} {p : α → Bool} {l : List α} (h : ∀ x ∈ l, p x = true) : l.filter p = l := List.filter_eq_self.2 h
theorem filter_none {α : Type} {p : α → Bool} {l : List α} (h : ∀ x ∈ l, p x = false) : l.filter p = [] := List.filter_eq_nil_iff.2 fun x hx => by rw [h x hx]; decide
/-- the ranges that share integers with r stand side by side -/
theorem shared_are {R D : List Rg} {r : Rg} {j k : Nat} (hv : vd R) (hr : r.1 < r.2) (hD : D = R.drop j) (hk : k ≤ D.length) (h1 : ∀ p ∈ R.take j, p.2 ≤ r.1)
    (h2 : 0 < D.length → r.1 < (D.getD 0 (0, 0)).2) (h3 : ∀ i, i < k → (D.getD i (0, 0)).1 < r.2) (h4 : k < D.length → r.2 ≤ (D.getD k (0, 0)).1) : R.filter (shr r) = D.take k := by
  have hvD : vd D := by rw [hD]; exact vd_drop hv j
  have hall : R = R.take j ++ (D.take k ++ D.drop k) := by rw [List.take_append_drop, hD, List.take_append_drop]
  have e1 : (R.take j).filter (shr r) = [] := filter_none fun p hp => by
    have := h1 p hp
    unfold shr; rw [decide_eq_false (by omega)]; rfl
  have e2 : (D.take k).filter (shr r) = D.take k := filter_all fun p hp => by
    obtain ⟨i, hi, rfl⟩ := mem_getD hp
    rw [List.length_take] at hi
    have e : (D.take k).getD i (0, 0) = D.getD i (0, 0) := by simp [List.getD, List.getElem?_take_of_lt (show i < k by omega)]
    rw [e, shr_iff]
    refine ⟨?_, h3 i (by omega)⟩
    have a := h2 (by omega)
    by_cases h0 : i = 0
    · rw [h0]; exact a
    · have b := vd_lt hvD (show 0 < i by omega) (show i < D.length by omega)
      have c := vd_ne hvD (show i < D.length by omega)
      omega
  have e3 : (D.drop k).filter (shr r) = [] := filter_none fun p hp => by
    obtain ⟨i, hi, rfl⟩ := mem_getD hp
    rw [List.length_drop] at hi
    have e : (D.drop k).getD i (0, 0) = D.getD (k + i) (0, 0) := by simp [List.getD]
    rw [e]
    have a := h4 (by omega)
    have b : r.2 ≤ (D.getD (k + i) (0, 0)).1 := by
      by_cases h0 : i = 0
      · rw [h0]; exact a
      · have b := vd_lt hvD (show k < k + i by omega) (show k + i < D.length by omega)
        have c := vd_ne hvD (show k < D.length by omega)
        omega
    unfold shr; rw [decide_eq_false (p := _ < r.2) (by omega), Bool.and_false]
  calc R.filter (shr r) = (R.take j ++ (D.take k ++ D.drop k)).filter (shr r) := by rw [← hall]
    _ = D.take k := by rw [List.filter_append, List.filter_append, e1, e2, e3]; simp

/-! what is common -/
def cutr (r s : Rg) : Rg := (max r.1 s.1, min r.2 s.2)
theorem cutr_in (r s : Rg) (n : Int) : ((cutr r s).1 ≤ n ∧ n < (cutr r s).2) ↔ (r.1 ≤ n ∧ n < r.2) ∧ (s.1 ≤ n ∧ n < s.2) := by
  unfold cutr
  show (max r.1 s.1 ≤ n ∧ n < min r.2 s.2) ↔ _
  rw [Int.max_le, Int.lt_min]
  constructor
  · rintro ⟨⟨a, b⟩, c, d⟩; exact ⟨⟨a, c⟩, b, d⟩
  · rintro ⟨⟨a, c⟩, b, d⟩; exact ⟨⟨a, b⟩, c, d⟩
def isx (S R : List Rg) : List Rg := S.flatMap fun r => (R.filter (shr r)).map (cutr r)
theorem isx_cons (r : Rg) (S R : List Rg) : isx (r :: S) R = (R.filter (shr r)).map (cutr r) ++ isx S R := rfl
theorem isx_snoc (S R : List Rg) (r : Rg) : isx (S ++ [r]) R = isx S R ++ (R.filter (shr r)).map (cutr r) := by unfold isx; rw [List.flatMap_append]; simp
theorem cuts_vd {r : Rg} (hr : r.1 < r.2) : ∀ {F : List Rg}, vd F → (∀ s ∈ F, shr r s = true) → vd (F.map (cutr r))
  | [], _, _ => vd_nil
  | s :: F, hv, hs => by
    obtain ⟨h1, h2, h3⟩ := vd_cons.1 hv
    have g := (shr_iff r s).1 (hs s (by simp))
    refine vd_cons.2 ⟨?_, fun q hq => ?_, cuts_vd hr h3 fun t ht => hs t (by simp [ht])⟩
    · show max r.1 s.1 < min r.2 s.2
      rw [Int.lt_min, Int.max_lt, Int.max_lt]
      omega
    · obtain ⟨t, ht, rfl⟩ := List.mem_map.1 hq
      have := h2 t ht
      show min r.2 s.2 < max r.1 t.1
      have a := Int.min_le_right r.2 s.2
      have b := Int.le_max_right r.1 t.1
      omega
theorem vd_filter {R : List Rg} (h : vd R) (p : Rg → Bool) : vd (R.filter p) := ⟨fun q hq => h.1 q (List.mem_filter.1 hq).1, List.Pairwise.sublist List.filter_sublist h.2⟩
theorem isx_spec (R : List Rg) (hR : vd R) : ∀ S, vd S → vd (isx S R) ∧ (∀ p ∈ isx S R, ∃ r ∈ S, r.1 ≤ p.1) ∧ ∀ n, inl n (isx S R) ↔ inl n S ∧ inl n R
  | [], _ => ⟨vd_nil, (fun p hp => by cases hp), fun n => ⟨fun g => absurd g (inl_nil n), fun g => absurd g.1 (inl_nil n)⟩⟩
  | r :: S, hS => by
    obtain ⟨h1, h2, h3⟩ := vd_cons.1 hS
    obtain ⟨i1, i2, i3⟩ := isx_spec R hR S h3
    rw [isx_cons]
    have c1 : vd ((R.filter (shr r)).map (cutr r)) := cuts_vd h1 (vd_filter hR _) fun s hs => (List.mem_filter.1 hs).2
    refine ⟨vd_app.2 ⟨c1, i1, fun p hp q hq => ?_⟩, fun p hp => ?_, fun n => ?_⟩
    · obtain ⟨s, hs, rfl⟩ := List.mem_map.1 hp
      obtain ⟨r', hr', hle⟩ := i2 q hq
      have a := h2 r' hr'
      have b : (cutr r s).2 ≤ r.2 := Int.min_le_left _ _
      omega
    · rcases List.mem_append.1 hp with hp | hp
      · obtain ⟨s, hs, rfl⟩ := List.mem_map.1 hp
        exact ⟨r, by simp, Int.le_max_left _ _⟩
      · obtain ⟨r', hr', hle⟩ := i2 p hp
        exact ⟨r', by simp [hr'], hle⟩
    · rw [inl_app, i3 n, inl_cons]
      constructor
      · rintro (⟨q, hq, g⟩ | g)
        · obtain ⟨s, hs, rfl⟩ := List.mem_map.1 hq
          obtain ⟨a, b⟩ := (cutr_in r s n).1 g
          exact ⟨.inl a, s, (List.mem_filter.1 hs).1, b⟩
        · exact ⟨.inr g.1, g.2⟩
      · rintro ⟨g | g, s, hs, b⟩
        · exact .inl ⟨cutr r s, List.mem_map.2 ⟨s, List.mem_filter.2 ⟨hs, (shr_iff r s).2 (by omega)⟩, rfl⟩, (cutr_in r s n).2 ⟨g, b⟩⟩
        · exact .inr ⟨g, s, hs, b⟩
theorem isx_int {a b S R : List Rg} (hS : S = nor a) (hR : R = nor b) : isx S R = int a b := by
  obtain ⟨h1, _, h3⟩ := isx_spec R (by rw [hR]; exact nor_vd b) S (by rw [hS]; exact nor_vd a)
  refine vd_ext h1 (int_vd a b) fun n => ?_
  rw [h3 n, hS, hR, ← inb_iff, ← inb_iff, ← inb_iff, nor_in, nor_in, int_in, Bool.and_eq_true]
theorem vd_tk {R : List Rg} (hv : vd R) (k : Nat) : vd (R.take k) := ⟨fun p hp => hv.1 p (List.mem_of_mem_take hp), List.Pairwise.sublist (List.take_sublist _ _) hv.2⟩
theorem isx_len {S R : List Rg} (hS : vd S) (hR : vd R) : (isx S R).length ≤ 2 * S.length + 2 * R.length := by
  rw [isx_int (a := S) (b := R) (nor_set hS).symm (nor_set hR).symm]
  exact int_len _ _

/-! what is left over -/
def gap (lo hi : Int) : List Rg → List Rg
  | [] => if lo < hi then [(lo, hi)] else []
  | s :: F => (if lo < s.1 then [(lo, s.1)] else []) ++ gap s.2 hi F
theorem gap_yes {lo hi : Int} {s : Rg} {F : List Rg} (h : lo < s.1) : gap lo hi (s :: F) = (lo, s.1) :: gap s.2 hi F := by
  show (if lo < s.1 then _ else _) ++ _ = _
  rw [if_pos h]; rfl
theorem gap_no {lo hi : Int} {s : Rg} {F : List Rg} (h : ¬ lo < s.1) : gap lo hi (s :: F) = gap s.2 hi F := by
  show (if lo < s.1 then _ else _) ++ _ = _
  rw [if_neg h]; rfl
theorem gap_spec (hi : Int) : ∀ (F : List Rg) (lo : Int), vd F → (∀ s ∈ F, lo < s.2 ∧ s.1 < hi) →
    vd (gap lo hi F) ∧ (∀ p ∈ gap lo hi F, lo ≤ p.1 ∧ p.2 ≤ hi) ∧ ∀ n, inl n (gap lo hi F) ↔ (lo ≤ n ∧ n < hi) ∧ ¬ inl n F
  | [], lo, _, _ => by
    unfold gap
    split
    · rename_i h
      refine ⟨vd_one h, fun p hp => ?_, fun n => ?_⟩
      · obtain rfl := List.mem_singleton.1 hp
        exact ⟨Int.le_refl _, Int.le_refl _⟩
      · rw [inl_one]
        exact ⟨fun g => ⟨g, inl_nil n⟩, And.left⟩
    · rename_i h
      refine ⟨vd_nil, (fun p hp => by cases hp), fun n => ⟨fun g => absurd g (inl_nil n), fun g => ?_⟩⟩
      omega
  | s :: F, lo, hv, hs => by
    obtain ⟨h1, h2, h3⟩ := vd_cons.1 hv
    have hs0 := hs s (by simp)
    obtain ⟨i1, i2, i3⟩ := gap_spec hi F s.2 h3 fun t ht => by
      have a := h2 t ht
      have b := h3.1 t ht
      exact ⟨by omega, (hs t (by simp [ht])).2⟩
    have low : ∀ n, inl n F → s.2 < n := by
      rintro n ⟨t, ht, g, _⟩
      have := h2 t ht; omega
    by_cases h : lo < s.1
    · rw [gap_yes h]
      refine ⟨vd_cons.2 ⟨h, fun q hq => ?_, i1⟩, fun p hp => ?_, fun n => ?_⟩
      · have := (i2 q hq).1
        show s.1 < q.1
        omega
      · rcases List.mem_cons.1 hp with rfl | hp
        · exact ⟨Int.le_refl _, by show s.1 ≤ hi; omega⟩
        · have := i2 p hp
          exact ⟨by omega, this.2⟩
      · rw [inl_cons, i3 n, inl_cons]
        show ((lo ≤ n ∧ n < s.1) ∨ _) ↔ _
        constructor
        · rintro (g | ⟨g1, g2⟩)
          · refine ⟨⟨g.1, by omega⟩, ?_⟩
            rintro (e | e)
            · omega
            · have := low n e; omega
          · refine ⟨⟨by omega, g1.2⟩, ?_⟩
            rintro (e | e)
            · omega
            · exact g2 e
        · rintro ⟨g1, g2⟩
          by_cases e : n < s.1
          · exact .inl ⟨g1.1, e⟩
          · refine .inr ⟨⟨?_, g1.2⟩, fun g => g2 (.inr g)⟩
            rcases Int.lt_or_le n s.2 with k | k
            · exact absurd (.inl ⟨by omega, k⟩) g2
            · exact k
    · rw [gap_no h]
      refine ⟨i1, fun p hp => ?_, fun n => ?_⟩
      · have := i2 p hp
        exact ⟨by omega, this.2⟩
      · rw [i3 n, inl_cons]
        constructor
        · rintro ⟨g1, g2⟩
          refine ⟨⟨by omega, g1.2⟩, ?_⟩
          rintro (e | e)
          · omega
          · exact g2 e
        · rintro ⟨g1, g2⟩
          refine ⟨⟨?_, g1.2⟩, fun g => g2 (.inr g)⟩
          rcases Int.lt_or_le n s.2 with k | k
          · exact absurd (.inl ⟨by omega, k⟩) g2
          · exact k
def sbx (S R : List Rg) : List Rg := S.flatMap fun r => gap r.1 r.2 (R.filter (shr r))
theorem sbx_cons (r : Rg) (S R : List Rg) : sbx (r :: S) R = gap r.1 r.2 (R.filter (shr r)) ++ sbx S R := rfl
theorem sbx_snoc (S R : List Rg) (r : Rg) : sbx (S ++ [r]) R = sbx S R ++ gap r.1 r.2 (R.filter (shr r)) := by unfold sbx; rw [List.flatMap_append]; simp
theorem shr_inl {R : List Rg} {r : Rg} {n : Int} (h : r.1 ≤ n ∧ n < r.2) : inl n (R.filter (shr r)) ↔ inl n R := by
  constructor
  · rintro ⟨s, hs, g⟩; exact ⟨s, (List.mem_filter.1 hs).1, g⟩
  · rintro ⟨s, hs, g⟩; exact ⟨s, List.mem_filter.2 ⟨hs, (shr_iff r s).2 (by omega)⟩, g⟩
theorem sbx_spec (R : List Rg) (hR : vd R) : ∀ S, vd S → vd (sbx S R) ∧ (∀ p ∈ sbx S R, ∃ r ∈ S, r.1 ≤ p.1) ∧ ∀ n, inl n (sbx S R) ↔ inl n S ∧ ¬ inl n R
  | [], _ => ⟨vd_nil, (fun p hp => by cases hp), fun n => ⟨fun g => absurd g (inl_nil n), fun g => absurd g.1 (inl_nil n)⟩⟩
  | r :: S, hS => by
    obtain ⟨h1, h2, h3⟩ := vd_cons.1 hS
    obtain ⟨i1, i2, i3⟩ := sbx_spec R hR S h3
    obtain ⟨c1, c2, c3⟩ := gap_spec r.2 (R.filter (shr r)) r.1 (vd_filter hR _) fun s hs => (shr_iff r s).1 (List.mem_filter.1 hs).2
    rw [sbx_cons]
    refine ⟨vd_app.2 ⟨c1, i1, fun p hp q hq => ?_⟩, fun p hp => ?_, fun n => ?_⟩
    · obtain ⟨r', hr', hle⟩ := i2 q hq
      have a := h2 r' hr'
      have b := (c2 p hp).2
      omega
    · rcases List.mem_append.1 hp with hp | hp
      · exact ⟨r, by simp, (c2 p hp).1⟩
      · obtain ⟨r', hr', hle⟩ := i2 p hp
        exact ⟨r', by simp [hr'], hle⟩
    · rw [inl_app, i3 n, c3 n, inl_cons]
      constructor
      · rintro (⟨g1, g2⟩ | g)
        · exact ⟨.inl g1, fun e => g2 ((shr_inl g1).2 e)⟩
        · exact ⟨.inr g.1, g.2⟩
      · rintro ⟨g | g, e⟩
        · exact .inl ⟨g, fun k => e ((shr_inl g).1 k)⟩
        · exact .inr ⟨g, e⟩
theorem sbx_mns {a b S R : List Rg} (hS : S = nor a) (hR : R = nor b) : sbx S R = mns a b := by
  obtain ⟨h1, _, h3⟩ := sbx_spec R (by rw [hR]; exact nor_vd b) S (by rw [hS]; exact nor_vd a)
  refine vd_ext h1 (mns_vd a b) fun n => ?_
  rw [h3 n, hS, hR, ← inb_iff, ← inb_iff, ← inb_iff, nor_in, nor_in, mns_in, Bool.and_eq_true]
  cases inb b n <;> simp
theorem sbx_len {S R : List Rg} (hS : vd S) (hR : vd R) : (sbx S R).length ≤ 2 * S.length + 2 * R.length := by
  rw [sbx_mns (a := S) (b := R) (nor_set hS).symm (nor_set hR).symm]
  exact mns_len _ _
end Go.Proofs.Ytdfnmohgkjonfaa.Span
