/- seeker and its step: does the rest of a sorted list begin with this number? -/
import Derived.Test.YtofjfnpfcibbeaaISetOf
namespace Go.Proofs.Ytofjfnpfcibbeaa.Idset
open Go.RowKit
open Go.Proofs.Ytofjfnpfcibbeaa.Wire
set_option linter.unusedVariables false

/-- nothing has changed but one block -/
structure But (r : Nat) (w w' : World) : Prop where
  os : w'.os = w.os
  tape : w'.tape = w.tape
  output : w'.output = w.output
  size : w'.heap.size = w.heap.size
  block : ∀ k, k ≠ r → w'.heap[k]? = w.heap[k]?
theorem But.refl (r : Nat) (w : World) : But r w w := ⟨rfl, rfl, rfl, rfl, fun _ _ => rfl⟩
theorem But.trans {r : Nat} {w w1 w2 : World} (h : But r w w1) (g : But r w1 w2) : But r w w2 :=
  ⟨g.os.trans h.os, g.tape.trans h.tape, g.output.trans h.output, g.size.trans h.size, fun k hk => (g.block k hk).trans (h.block k hk)⟩
theorem But.set {r : Nat} {w w1 : World} (h : But r w w1) (v : Value) : But r w (w1.setCell ⟨r, 0, none⟩ v) :=
  h.trans ⟨rfl, rfl, rfl, by simp [World.setCell], fun k hk => Below.heap_setCell _ _ _ _ hk⟩
theorem But.drew {r : Nat} {w w1 : World} (h : But r w w1) : But r w w1.drew := ⟨h.os, h.tape, h.output, h.size, h.block⟩
theorem But.below {r B : Nat} {w w1 : World} (h : But r w w1) (hr : B ≤ r) : Below B w w1 :=
  ⟨h.os, h.tape, h.output, by rw [h.size]; exact Nat.le_refl _, fun k hk => h.block k (by omega)⟩
theorem But.bl {r : Nat} {w w1 w2 : World} (h : Bl w w1) (g : But r w1 w2) (hr : w.heap.size ≤ r) : Bl w w2 := Below.trans h (g.below hr)
theorem Sh.but {w w' : World} {B n r T n' c' : Nat} {A A' : Option Addr} {xs : List Int} {fr : Nat × Nat} (h : Sh w B .i64 A n xs) (hr : w.heap[r]? = some (.cells #[.slice A' n' c'] T fr)) (hb : But r w w') : Sh w' B .i64 A n xs := by
  refine ⟨h.1, fun hn => ?_⟩
  obtain ⟨b, o, e, hlt, hc⟩ := h.2 hn
  have hne : b ≠ r := by
    rintro rfl
    have := hc 0 hn
    rw [cell_of_row _ _ _ _ _ _ hr] at this
    rcases Nat.eq_zero_or_pos (o + 0) with e0 | e0
    · rw [e0] at this; simp at this
    · rw [Array.getElem?_eq_none (by simp; omega)] at this; cases this
  refine ⟨b, o, e, hlt, fun i hi => ?_⟩
  rw [World.cell?_of_block (w := w) (hb.block b hne)]
  exact hc i hi
theorem Ow.but {w w' : World} {B n c r T n' c' : Nat} {e : TypeId} {A A' : Option Addr} {xs : List Int} {fr : Nat × Nat} (h : Ow w B e .i64 A n c xs) (hr : w.heap[r]? = some (.cells #[.slice A' n' c'] T fr)) (hT : e ≠ T) (hb : But r w w') : Ow w' B e .i64 A n c xs := by
  refine ⟨h.1, ?_⟩
  rcases h.2 with h0 | ⟨g, cap, cur, hv, hg, hh, rest⟩
  · exact .inl h0
  · refine .inr ⟨g, cap, cur, hv, hg, ?_, rest⟩
    rw [hb.block g ?_, hh]
    rintro rfl
    rw [hh] at hr
    injection hr with hr
    injection hr with _ h2 _
    exact hT h2

def sizeAt (w : World) (r : Nat) : Nat := match w.cell? ⟨r, 0, none⟩ with
  | some (.slice _ n _) => n
  | _ => 0
theorem sizeAt_of {w : World} {r n c : Nat} {A : Option Addr} (h : w.cell? ⟨r, 0, none⟩ = some (.slice A n c)) : sizeAt w r = n := by unfold sizeAt; rw [h]

/-- what a step leaves -/
def Step (r B : Nat) (xs : List Int) (N : Int) (w : World) (e : Ending) (w' : World) : Prop :=
  ∃ (A : Option Addr) (j m c : Nat), e = .returned (.bool (hasb xs N)) ∧ w'.heap[r]? = some (.cells #[.slice A m c] 22 (0, 0)) ∧ m ≤ c ∧ Sh w' B .i64 A m (xs.drop j) ∧ (∀ x ∈ xs.take j, x < N) ∧ But r w w'

theorem cons_of {l : List Int} (h : 0 < l.length) : l = l.getD 0 0 :: l.drop 1 := by
  cases l with
  | nil => simp at h
  | cons x l => rfl
theorem hasb_lt {xs : List Int} {N : Int} {j : Nat} (h : ∀ x ∈ xs.take j, x < N) : hasb xs N = hasb (xs.drop j) N := by
  unfold hasb
  have : N ∈ xs ↔ N ∈ xs.drop j := by
    constructor
    · intro hm
      rw [← List.take_append_drop j xs] at hm
      rcases List.mem_append.1 hm with h1 | h1
      · have := h N h1; omega
      · exact h1
    · intro hm; exact List.mem_of_mem_drop hm
  simp only [this]
theorem hasb_head {ys : List Int} {N x : Int} {l : List Int} (ha : asc ys) (h : ys = x :: l) (hx : ¬ x < N) : hasb ys N = (x == N) := by
  subst h
  unfold hasb
  by_cases e : x = N
  · subst e; simp
  · have : (x == N) = false := by simpa using e
    rw [this]
    apply decide_eq_false
    intro hm
    rcases List.mem_cons.1 hm with h1 | h1
    · exact e h1.symm
    · have := (asc_cons.1 ha).1 N h1; omega

set_option maxHeartbeats 1000000 in
theorem step_any (r B : Nat) (A : Option Addr) (n c : Nat) (xs : List Int) (N : Int) (w : World) (hr : w.heap[r]? = some (.cells #[.slice A n c] 22 (0, 0))) (hc : n ≤ c) (hS : Sh w B .i64 A n xs) (ha : asc xs) (hm : n ≤ 1099511627776) :
    Calls Try.prog 36 #[.int .i64 N, .pointer (some ⟨r, 0, none⟩)] w (Step r B xs N w) := by
  have HR := hid hr
  have HA := hid ha
  clear hr ha
  go_enter Try.func36, Try.ntmps36
  go_wp2_with fail
  go_loopw [4, 5] (fun _ _ wr => ∃ (A' : Option Addr) (j m c' : Nat), wr.heap[r]? = some (.cells #[.slice A' m c'] 22 (0, 0)) ∧ m ≤ c' ∧ m ≤ 1099511627776 ∧ Sh wr B .i64 A' m (xs.drop j) ∧ Hid (∀ x ∈ xs.take j, x < N) ∧ But r w wr) (fun _ _ wr => sizeAt wr r)
  case atStart => exact ⟨A, 0, n, c, HR.out, hc, hm, by rw [List.drop_zero]; exact hS, hid (by simp), But.refl _ _⟩
  case round =>
    obtain ⟨A', j, m, c', hr', hmc, hmm, hs, hlt, hb⟩ := hrel
    have hcr := cell_of_one hr'
    have hfr := free_of_one hr'
    have HR' := hid hr'
    clear hr'
    by_cases h0 : 0 < m
    · obtain ⟨b, o, rfl, hbl, hcell⟩ := hs.2 h0
      have hc1 := hcell 0 h0
      have hcons := hid (cons_of (l := xs.drop j) (by rw [hs.len]; exact h0))
      have hasd : asc (xs.drop j) := List.Pairwise.sublist (List.drop_sublist _ _) HA.out
      rw [Nat.add_zero] at hc1
      have HD := hid hasd
      clear hcell hasd
      by_cases hx : (xs.drop j).getD 0 0 < N
      · have hs2 := hid (hs.drop (m := 1) (by omega) (A' := some ⟨b, o + 1, none⟩) (fun _ b' o' e => by injection e with e; injection e with e1 e2; subst e1 e2; rfl))
        have hl2 : Hid (∀ x ∈ xs.take (j + 1), x < N) := by
          apply hid
          intro x hxm
          have hjl : j < xs.length := by have := hs.len; rw [List.length_drop] at this; omega
          have e : xs.getD j 0 = (xs.drop j).getD 0 0 := by simp [List.getD]
          rw [take_snoc hjl] at hxm
          rcases List.mem_append.1 hxm with h | h
          · exact hlt.out x h
          · rw [List.mem_singleton.1 h, e]; exact hx
        have hs1 := hid hs
        clear hs
        generalize (xs.drop j).getD 0 0 = x at *
        have b1 : (1 : Int) ≤ (m : Int) := by omega
        have HB := hid hb
        have heqd : xs.drop (j + 1) = (xs.drop j).drop 1 := by rw [List.drop_drop]
        by_cases hc1 : c' = 1
        · have hs3 := hid (hs1.out.drop (m := 1) (by omega) (A' := some ⟨b, o, none⟩) (fun h => absurd h (by omega)))
          rw [← heqd] at hs3
          have HX := hid heqd
          clear heqd hs2 hb
          go_wp2_with fail
          have hb2 := HB.out.set (.slice (some ⟨b, o, none⟩) (m - 1) 0)
          have hr2 := one_setCell (u := .slice (some ⟨b, o, none⟩) (m - 1) 0) HR'.out
          refine ⟨⟨some ⟨b, o, none⟩, j + 1, m - 1, 0, hr2, by omega, by omega, ?_, hl2, hb2⟩, ?_⟩
          · have h1 := Sh.but hs3.out HR'.out ((But.refl r wr).set (.slice (some ⟨b, o, none⟩) (m - 1) 0))
            exact h1
          · rw [sizeAt_of hcr, sizeAt_of (cell_of_one hr2)]; omega
        · have hs3 := hs2
          rw [← heqd] at hs3
          have HX := hid heqd
          clear heqd hs2 hb
          go_wp2_with fail
          have hb2 := HB.out.set (.slice (some ⟨b, o + 1, none⟩) (m - 1) (c' - 1))
          have hr2 := one_setCell (u := .slice (some ⟨b, o + 1, none⟩) (m - 1) (c' - 1)) HR'.out
          refine ⟨⟨some ⟨b, o + 1, none⟩, j + 1, m - 1, c' - 1, hr2, by omega, by omega, ?_, hl2, hb2⟩, ?_⟩
          · have h1 := Sh.but hs3.out HR'.out ((But.refl r wr).set (.slice (some ⟨b, o + 1, none⟩) (m - 1) (c' - 1)))
            exact h1
          · rw [sizeAt_of hcr, sizeAt_of (cell_of_one hr2)]; omega
      · have hhd := hid (hasb_head HD.out hcons.out hx)
        have hhl := hid (hasb_lt hlt.out)
        have hs1 := hid hs
        clear hs hcons
        generalize (xs.drop j).getD 0 0 = x at *
        by_cases he : x = N
        · subst he
          have HB := hid hb
          clear hb
          go_wp2_with fail
          go_ret
          exact ⟨_, j, m, c', retB (by rw [hhl.out, hhd.out]; simp), HR'.out, hmc, hs1.out, hlt.out, HB.out⟩
        · have t : (x == N) = false := by simpa using he
          have HB := hid hb
          clear hb
          go_wp2_with fail
          go_ret
          exact ⟨_, j, m, c', retB (by rw [hhl.out, hhd.out, t]), HR'.out, hmc, hs1.out, hlt.out, HB.out⟩
    · obtain rfl : m = 0 := by omega
      have hhl := hid (hasb_lt hlt.out)
      have hs1 := hid hs
      have HB := hid hb
      clear hs hb
      go_wp2_with fail
      go_ret
      refine ⟨_, j, 0, c', retB ?_, HR'.out, hmc, hs1.out, hlt.out, HB.out⟩
      have : xs.drop j = [] := List.eq_nil_of_length_eq_zero hs1.out.len
      rw [hhl.out, this]; simp [hasb]
end Go.Proofs.Ytofjfnpfcibbeaa.Idset
