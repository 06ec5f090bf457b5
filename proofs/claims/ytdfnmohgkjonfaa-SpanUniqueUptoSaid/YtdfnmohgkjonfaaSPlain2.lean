/- Plain ranges: union, intersection, difference, normal form; their laws; totals; moves. No program. -/
import Derived.Test.YtdfnmohgkjonfaaSPlain
namespace Go.Proofs.Ytdfnmohgkjonfaa.Span
open Go.Proofs.Ytdfnmohgkjonfaa.Idset (asc ins add nrm)
set_option linter.unusedVariables false

def uni (a b : List Rg) : List Rg := mk 0 a b
def int (a b : List Rg) : List Rg := mk 1 a b
def mns (a b : List Rg) : List Rg := mk 2 a b
def nor (a : List Rg) : List Rg := mk 0 a []
theorem inb_nil (n : Int) : inb [] n = false := rfl
theorem uni_in (a b : List Rg) (n : Int) : inb (uni a b) n = (inb a n || inb b n) := mk_in 0 a b n
theorem int_in (a b : List Rg) (n : Int) : inb (int a b) n = (inb a n && inb b n) := mk_in 1 a b n
theorem mns_in (a b : List Rg) (n : Int) : inb (mns a b) n = (inb a n && !inb b n) := mk_in 2 a b n
theorem nor_in (a : List Rg) (n : Int) : inb (nor a) n = inb a n := by
  have := mk_in 0 a [] n
  rw [inb_nil] at this
  exact this.trans (by simp [wnt])
theorem uni_vd (a b : List Rg) : vd (uni a b) := mk_vd _ _ _
theorem int_vd (a b : List Rg) : vd (int a b) := mk_vd _ _ _
theorem mns_vd (a b : List Rg) : vd (mns a b) := mk_vd _ _ _
theorem nor_vd (a : List Rg) : vd (nor a) := mk_vd _ _ _
theorem uni_len (a b : List Rg) : (uni a b).length ≤ 2 * a.length + 2 * b.length := mk_len _ _ _
theorem int_len (a b : List Rg) : (int a b).length ≤ 2 * a.length + 2 * b.length := mk_len _ _ _
theorem mns_len (a b : List Rg) : (mns a b).length ≤ 2 * a.length + 2 * b.length := mk_len _ _ _
theorem nor_len (a : List Rg) : (nor a).length ≤ 2 * a.length := by have := mk_len 0 a []; simpa [nor] using this
theorem nor_set {l : List Rg} (h : vd l) : nor l = l := inb_ext (nor_vd l) h (nor_in l)
theorem nor_eq {a b : List Rg} : nor a = nor b ↔ ∀ n, inb a n = inb b n :=
  ⟨fun h n => by rw [← nor_in a, h, nor_in], fun h => inb_ext (nor_vd a) (nor_vd b) fun n => by rw [nor_in, nor_in, h n]⟩
theorem uni_empty (a : List Rg) : uni a [] = nor a := rfl
theorem empty_iff {l : List Rg} (h : vd l) : l = [] ↔ ∀ n, inb l n = false :=
  ⟨fun e n => by rw [e]; rfl, fun g => inb_ext h vd_nil fun n => by rw [g n]; rfl⟩
theorem mns_empty (a b : List Rg) : mns a b = [] ↔ ∀ n, inb a n = true → inb b n = true := by
  rw [empty_iff (mns_vd a b)]
  constructor
  · intro h n hn
    have := h n
    rw [mns_in, hn] at this
    simpa using this
  · intro h n
    rw [mns_in]
    cases hn : inb a n
    · rfl
    · rw [h n hn]; rfl
theorem same_iff (a b : List Rg) : (mns a b = [] ∧ mns b a = []) ↔ nor a = nor b := by
  rw [mns_empty, mns_empty, nor_eq]
  constructor
  · rintro ⟨h1, h2⟩ n
    cases ha : inb a n <;> cases hb : inb b n
    · rfl
    · rw [h2 n hb] at ha; cases ha
    · rw [h1 n ha] at hb; cases hb
    · rfl
  · intro h
    exact ⟨fun n hn => by rw [← h n]; exact hn, fun n hn => by rw [h n]; exact hn⟩
theorem law1 (a b c : List Rg) : int a (uni b c) = uni (int a b) (int a c) := inb_ext (int_vd _ _) (uni_vd _ _) fun n => by
  simp only [int_in, uni_in]
  cases inb a n <;> cases inb b n <;> cases inb c n <;> rfl
theorem law2 (a b c : List Rg) : mns a (uni b c) = mns (mns a b) c := inb_ext (mns_vd _ _) (mns_vd _ _) fun n => by
  simp only [mns_in, uni_in]
  cases inb a n <;> cases inb b n <;> cases inb c n <;> rfl
theorem law3 (a b : List Rg) : int a b = mns a (mns a b) := inb_ext (int_vd _ _) (mns_vd _ _) fun n => by
  simp only [mns_in, int_in]
  cases inb a n <;> cases inb b n <;> rfl

/-! bounds of what is made are bounds of what came in -/
theorem stp_bl {out : List Rg} {x y : Int} {Q : Int → Prop} (h : ∀ z ∈ bl out, Q z) (hx : Q x) (hy : Q y) : ∀ z ∈ bl (stp out x y), Q z := by
  unfold stp
  split
  · rename_i hl
    obtain ⟨o, p, rfl⟩ := snoc_of hl.1
    rw [lst_app, set_last]
    intro z hz
    rw [bl_snoc, List.mem_append] at hz
    rcases hz with hz | hz
    · exact h z (by rw [bl_snoc]; simp [hz])
    · simp only [List.mem_cons, List.not_mem_nil, or_false] at hz
      rcases hz with rfl | rfl
      · exact h _ (by rw [bl_snoc]; simp)
      · exact hy
  · intro z hz
    rw [bl_snoc, List.mem_append] at hz
    rcases hz with hz | hz
    · exact h z hz
    · simp only [List.mem_cons, List.not_mem_nil, or_false] at hz
      rcases hz with rfl | rfl
      · exact hx
      · exact hy
theorem bldk_bl {P : Int → Bool} {at_ : List Int} {Q : Int → Prop} (h : ∀ z ∈ at_, Q z) : ∀ k, k < at_.length → ∀ z ∈ bl (bldk P at_ k), Q z
  | 0, _ => fun z hz => by cases hz
  | k + 1, hk => by
    have ih := bldk_bl h k (by omega) (P := P)
    have m : ∀ i, i < at_.length → Q (at_.getD i 0) := fun i hi => by
      have : at_.getD i 0 = at_[i] := by simp [List.getD, List.getElem?_eq_getElem hi]
      rw [this]; exact h _ (List.getElem_mem _)
    unfold bldk
    split
    · exact stp_bl ih (m k (by omega)) (m (k + 1) hk)
    · exact ih
theorem mk_bl {op : Int} {a b : List Rg} {Q : Int → Prop} (ha : ∀ z ∈ bl a, Q z) (hb : ∀ z ∈ bl b, Q z) : ∀ z ∈ bl (mk op a b), Q z := by
  have hq : ∀ z ∈ bds a b, Q z := fun z hz => ((bds_mem z a b).1 hz).elim (ha z) (hb z)
  unfold mk bld
  by_cases h0 : 0 < (bds a b).length
  · exact bldk_bl hq _ (by omega)
  · rw [show (bds a b).length - 1 = 0 by omega]
    intro z hz; cases hz

/-! totals -/
def tot : List Rg → Int
  | [] => 0
  | p :: l => p.2 - p.1 + tot l
theorem tot_app (l m : List Rg) : tot (l ++ m) = tot l + tot m := by
  induction l with
  | nil => simp [tot]
  | cons p l ih => rw [List.cons_append, tot, tot, ih]; omega
theorem tot_nonneg {l : List Rg} (h : ∀ p ∈ l, p.1 < p.2) : 0 ≤ tot l := by
  induction l with
  | nil => simp [tot]
  | cons p l ih =>
    have := ih fun q hq => h q (by simp [hq])
    have := h p (by simp)
    rw [tot]; omega
theorem tot_le : ∀ (l : List Rg) (p : Rg) (M : Int), vd (p :: l) → (∀ q ∈ p :: l, q.2 ≤ M) → tot (p :: l) ≤ M - p.1
  | [], p, M, _, h => by have := h p (by simp); simp only [tot]; omega
  | q :: l, p, M, hv, h => by
    obtain ⟨h1, h2, h3⟩ := vd_cons.1 hv
    have := tot_le l q M h3 fun r hr => h r (by simp [hr])
    have := h2 q (by simp)
    rw [tot]; omega
theorem tot_b {l : List Rg} {lo hi : Int} (hv : vd l) (h : ∀ z ∈ bl l, lo ≤ z ∧ z ≤ hi) (hlh : lo ≤ hi) : 0 ≤ tot l ∧ tot l ≤ hi - lo := by
  refine ⟨tot_nonneg hv.1, ?_⟩
  match l, hv, h with
  | [], _, _ => simp only [tot]; omega
  | p :: l, hv, h =>
    have h1 := tot_le l p hi hv fun q hq => (h q.2 (mem_bl hq).2).2
    have h2 := (h p.1 (mem_bl (l := p :: l) (by simp)).1).1
    omega
theorem tot_stp (out : List Rg) (x y : Int) : tot (stp out x y) = tot out + (y - x) := by
  unfold stp
  split
  · rename_i hl
    obtain ⟨o, p, rfl⟩ := snoc_of hl.1
    rw [lst_app] at hl ⊢
    rw [set_last, tot_app, tot_app]
    simp only [tot]
    have := hl.2
    omega
  · rw [tot_app]; simp only [tot]; omega
def sm (P : Int → Bool) (at_ : List Int) : Nat → Int
  | 0 => 0
  | k + 1 => sm P at_ k + if P (at_.getD k 0) = true then at_.getD (k + 1) 0 - at_.getD k 0 else 0
theorem tot_bldk (P : Int → Bool) (at_ : List Int) : ∀ k, tot (bldk P at_ k) = sm P at_ k
  | 0 => rfl
  | k + 1 => by
    unfold bldk sm
    split
    · rw [tot_stp, tot_bldk]
    · rw [tot_bldk]; omega
theorem tot_mk (op : Int) (a b : List Rg) : tot (mk op a b) = sm (fun n => wnt op (inb a n) (inb b n)) (bds a b) ((bds a b).length - 1) := tot_bldk _ _ _
theorem tot_nor {a : List Rg} {at_ : List Int} (h : asc at_) (ha : ∀ x ∈ bl a, x ∈ at_) : tot (nor a) = sm (inb a) at_ (at_.length - 1) := by
  have hf : Fits (fun n => wnt 0 (inb a n) (inb [] n)) at_ := fits h ha (fun x hx => by cases hx)
  have e : nor a = bld (fun n => wnt 0 (inb a n) (inb [] n)) at_ := by
    obtain ⟨s1, s2⟩ := bld_spec hf
    refine vd_ext (nor_vd a) s1 fun n => ?_
    rw [s2 n, ← inb_iff, nor_in, inb_nil]
    simp [wnt]
  rw [e]
  unfold bld
  rw [tot_bldk]
  congr 1
  funext n
  rw [inb_nil]; simp [wnt]
theorem sm_add (a b : Int → Bool) (at_ : List Int) : ∀ k, sm (fun n => wnt 0 (a n) (b n)) at_ k + sm (fun n => wnt 1 (a n) (b n)) at_ k = sm a at_ k + sm b at_ k
  | 0 => rfl
  | k + 1 => by
    have ih := sm_add a b at_ k
    simp only [sm]
    generalize sm (fun n => wnt 0 (a n) (b n)) at_ k = u1 at *
    generalize sm (fun n => wnt 1 (a n) (b n)) at_ k = u2 at *
    rcases Bool.eq_false_or_eq_true (a (at_.getD k 0)) with ha | ha <;> rcases Bool.eq_false_or_eq_true (b (at_.getD k 0)) with hb | hb <;> simp only [wnt, ha, hb] <;> simp <;> omega
theorem sm_sub (a b : Int → Bool) (at_ : List Int) : ∀ k, sm (fun n => wnt 2 (a n) (b n)) at_ k + sm (fun n => wnt 1 (a n) (b n)) at_ k = sm a at_ k
  | 0 => rfl
  | k + 1 => by
    have ih := sm_sub a b at_ k
    simp only [sm]
    generalize sm (fun n => wnt 2 (a n) (b n)) at_ k = u1 at *
    generalize sm (fun n => wnt 1 (a n) (b n)) at_ k = u2 at *
    rcases Bool.eq_false_or_eq_true (a (at_.getD k 0)) with ha | ha <;> rcases Bool.eq_false_or_eq_true (b (at_.getD k 0)) with hb | hb <;> simp only [wnt, ha, hb] <;> simp <;> omega
theorem tot_uni (a b : List Rg) : tot (uni a b) + tot (int a b) = tot (nor a) + tot (nor b) := by
  rw [tot_nor (bds_asc a b) (fun x hx => (bds_mem x a b).2 (.inl hx)), tot_nor (a := b) (bds_asc a b) (fun x hx => (bds_mem x a b).2 (.inr hx))]
  unfold uni int
  rw [tot_mk, tot_mk]
  exact sm_add _ _ _ _
theorem tot_mns (a b : List Rg) : tot (mns a b) + tot (int a b) = tot (nor a) := by
  rw [tot_nor (bds_asc a b) (fun x hx => (bds_mem x a b).2 (.inl hx))]
  unfold mns int
  rw [tot_mk, tot_mk]
  exact sm_sub _ _ _ _
/-- Total's answer -/
def ttl (l : List Rg) : Int := if tot (nor l) ≤ 9223372036854775807 then tot (nor l) else 0

/-! moves -/
def mv (d : Int) (l : List Rg) : List Rg := l.map fun p => (p.1 + d, p.2 + d)
theorem mv_len (d : Int) (l : List Rg) : (mv d l).length = l.length := List.length_map _
theorem mv_in (d : Int) (l : List Rg) (n : Int) : inb (mv d l) n = inb l (n - d) := by
  unfold inb mv
  rw [List.any_map]
  congr 1
  funext p
  simp only [Function.comp]
  congr 1
  · exact decide_eq_decide.2 (by omega)
  · exact decide_eq_decide.2 (by omega)
theorem mv_vd {d : Int} {l : List Rg} (h : vd l) : vd (mv d l) := by
  induction l with
  | nil => exact vd_nil
  | cons p l ih =>
    obtain ⟨h1, h2, h3⟩ := vd_cons.1 h
    refine vd_cons.2 ⟨by show p.1 + d < p.2 + d; omega, fun q hq => ?_, ih h3⟩
    obtain ⟨r, hr, rfl⟩ := List.mem_map.1 hq
    have := h2 r hr
    show p.2 + d < r.1 + d
    omega
theorem mv_mk (op d : Int) (a b : List Rg) : mk op (mv d a) (mv d b) = mv d (mk op a b) := inb_ext (mk_vd _ _ _) (mv_vd (mk_vd _ _ _)) fun n => by rw [mk_in, mv_in, mv_in, mv_in, mk_in]
theorem mv_tot (d : Int) (l : List Rg) : tot (mv d l) = tot l := by
  induction l with
  | nil => rfl
  | cons p l ih =>
    show (p.2 + d) - (p.1 + d) + tot (mv d l) = _
    rw [ih, tot]; omega
theorem mv_ttl (d : Int) (l : List Rg) : ttl (mv d l) = ttl l := by
  have : nor (mv d l) = mv d (nor l) := mv_mk 0 d l []
  unfold ttl
  rw [this, mv_tot]
end Go.Proofs.Ytdfnmohgkjonfaa.Span
