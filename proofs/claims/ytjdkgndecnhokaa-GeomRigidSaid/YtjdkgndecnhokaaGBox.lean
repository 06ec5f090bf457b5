/- What is known in the midst of a region that lays boxes of two ints, in whatever order: which slots are filled, what the boxes hold. No function of the program. -/
import Derived.Test.YtjdkgndecnhokaaGAny
namespace Go.Proofs.Ytjdkgndecnhokaa.Wire
open Go.RowKit
set_option linter.unusedVariables false

def B2 (T : TypeId) (w : World) (g : Nat) (x y : Int) : Prop := w.heap[g]? = some (.cells #[.int .i64 x, .int .i64 y] T (0, 0))
theorem B2.lt {T : TypeId} {w : World} {g : Nat} {x y : Int} (h : B2 T w g x y) : g < w.heap.size := lt_of_block h
theorem B2.bl {T : TypeId} {w w' : World} {g : Nat} {x y : Int} (h : B2 T w g x y) (hb : Bl w w') : B2 T w' g x y := (hb.block g h.lt).trans h
theorem B2.new {T : TypeId} (w : World) (x y : Int) : B2 T (w.alloc (.cells #[.int .i64 x, .int .i64 y] T)) w.heap.size x y := heap_alloc_new w _
theorem B2.set {T : TypeId} {w : World} {g : Nat} {x y : Int} (x' y' : Int) (h : B2 T w g x y) : B2 T ((w.setCell ⟨g, 0, none⟩ (.int .i64 x')).setCell ⟨g, 1, none⟩ (.int .i64 y')) g x' y' := by
  have h' : w.heap[g]? = some (.cells #[.int .i64 x, .int .i64 y] T (0, 0)) := h
  show ((w.setCell ⟨g, 0, none⟩ (.int .i64 x')).setCell ⟨g, 1, none⟩ (.int .i64 y')).heap[g]? = _
  rw [heap_setCell_same _ _ _ _ _ _ (heap_setCell_same _ _ _ _ _ _ h')]
  rfl
theorem B2.oth {T : TypeId} {w : World} {g h : Nat} {x y : Int} {u v : Value} (hn : g ≠ h) (k : B2 T w g x y) : B2 T ((w.setCell ⟨h, 0, none⟩ u).setCell ⟨h, 1, none⟩ v) g x y := by
  show ((w.setCell ⟨h, 0, none⟩ u).setCell ⟨h, 1, none⟩ v).heap[g]? = _
  rw [Below.heap_setCell _ _ _ _ hn, Below.heap_setCell _ _ _ _ hn]
  exact k
/-- A: for each box the number of the operation that lays it, of the one that stores into it, and what is stored -/
structure GA (T : TypeId) (v : World) (C : Nat → Option Value) (A : List (Nat × Nat × Int × Int)) (l : List Bool) (f : Nat → Value) (w : World) : Prop where
  bl : Bl v w
  con : ∀ i u, C i = some u → l.getD i false = true → f i = u
  st : ∀ k ∈ A, l.getD k.2.1 false = true → l.getD k.1 false = true
  box : ∀ k ∈ A, l.getD k.1 false = true → ∃ g, f k.1 = .pointer (some ⟨g, 0, none⟩) ∧ v.heap.size ≤ g ∧ B2 T w g (if l.getD k.2.1 false = true then k.2.2.1 else 0) (if l.getD k.2.1 false = true then k.2.2.2 else 0)
  dis : ∀ k ∈ A, ∀ m ∈ A, k.1 ≠ m.1 → l.getD k.1 false = true → l.getD m.1 false = true → f k.1 ≠ f m.1
theorem getD_set_of {l : List Bool} {i j : Nat} (h : j ≠ i) : (l.set i true).getD j false = l.getD j false := by simp [List.getD, List.getElem?_set_ne (Ne.symm h)]
theorem getD_set_self {l : List Bool} {i : Nat} (h : i < l.length) : (l.set i true).getD i false = true := by simp [List.getD, h]
theorem getD_none {n i : Nat} : (List.replicate n false).getD i false = false := by
  rcases Nat.lt_or_ge i n with g | g
  · simp [List.getD, g]
  · simp [List.getD, Nat.not_lt.2 g]
theorem GA.start (T : TypeId) (v : World) (C : Nat → Option Value) (A : List (Nat × Nat × Int × Int)) (n : Nat) (f : Nat → Value) : GA T v C A (List.replicate n false) f v.drew :=
  ⟨(Bl.refl v).drew, fun i u _ h => (by rw [getD_none] at h; cases h), fun k _ h => (by rw [getD_none] at h; cases h), fun k _ h => (by rw [getD_none] at h; cases h), fun k _ m _ _ h => (by rw [getD_none] at h; cases h)⟩
/-- an operation that is no box's: a load, a call, an assignment -/
theorem GA.const {T : TypeId} {v w w' : World} {C : Nat → Option Value} {A : List (Nat × Nat × Int × Int)} {l : List Bool} {f : Nat → Value} (h : GA T v C A l f w) {i : Nat} {u : Value} (hc : C i = some u) (hA : ∀ k ∈ A, k.1 ≠ i ∧ k.2.1 ≠ i) (hb : Bl w w') : GA T v C A (l.set i true) (upd f i u) w' := by
  refine ⟨h.bl.trans hb, fun j x hj hl => ?_, fun k hk hl => ?_, fun k hk hl => ?_, fun k hk m hm hkm hl hl' => ?_⟩
  · by_cases hji : j = i
    · subst hji; rw [hc] at hj; cases hj; rw [upd_same]
    · rw [getD_set_of hji] at hl; rw [upd_ne _ _ hji]; exact h.con j x hj hl
  · obtain ⟨h1, h2⟩ := hA k hk
    rw [getD_set_of h2] at hl; rw [getD_set_of h1]; exact h.st k hk hl
  · obtain ⟨h1, h2⟩ := hA k hk
    rw [getD_set_of h1] at hl; rw [getD_set_of h2, upd_ne _ _ h1]
    obtain ⟨g, e, hg, hB⟩ := h.box k hk hl
    exact ⟨g, e, hg, hB.bl hb⟩
  · rw [getD_set_of (hA k hk).1] at hl; rw [getD_set_of (hA m hm).1] at hl'
    rw [upd_ne _ _ (hA k hk).1, upd_ne _ _ (hA m hm).1]
    exact h.dis k hk m hm hkm hl hl'
/-- a new box -/
theorem GA.alloc {T : TypeId} {v w : World} {C : Nat → Option Value} {A : List (Nat × Nat × Int × Int)} {l : List Bool} {f : Nat → Value} (h : GA T v C A l f w) {i : Nat} (hlen : i < l.length) (hi : l.getD i true = false) (hc : C i = none) (hA : ∀ k ∈ A, k.2.1 ≠ i) : GA T v C A (l.set i true) (upd f i (.pointer (some ⟨w.heap.size, 0, none⟩))) (w.alloc (.cells #[.int .i64 0, .int .i64 0] T)) := by
  have hif : l.getD i false = false := by
    simp only [List.getD, List.getElem?_eq_getElem hlen, Option.getD_some] at hi ⊢
    exact hi
  have hbl : Bl w (w.alloc (.cells #[.int .i64 0, .int .i64 0] T)) := (Bl.refl w).alloc _
  refine ⟨h.bl.trans hbl, fun j x hj hl => ?_, fun k hk hl => ?_, fun k hk hl => ?_, fun k hk m hm hkm hl hl' => ?_⟩
  · have hji : j ≠ i := fun e => by subst e; rw [hc] at hj; cases hj
    rw [getD_set_of hji] at hl; rw [upd_ne _ _ hji]; exact h.con j x hj hl
  · rw [getD_set_of (hA k hk)] at hl
    by_cases hki : k.1 = i
    · rw [hki]; exact getD_set_self hlen
    · rw [getD_set_of hki]; exact h.st k hk hl
  · rw [getD_set_of (hA k hk)]
    by_cases hki : k.1 = i
    · have hs : l.getD k.2.1 false = false := by
        cases hx : l.getD k.2.1 false with
        | false => rfl
        | true => have := h.st k hk hx; rw [hki, hif] at this; cases this
      rw [hki, upd_same, hs]
      exact ⟨_, rfl, h.bl.size, B2.new w 0 0⟩
    · rw [getD_set_of hki] at hl; rw [upd_ne _ _ hki]
      obtain ⟨g, e, hg, hB⟩ := h.box k hk hl
      exact ⟨g, e, hg, hB.bl hbl⟩
  · have one : ∀ k ∈ A, k.1 ≠ i → (l.set i true).getD k.1 false = true → f k.1 ≠ .pointer (some ⟨w.heap.size, 0, none⟩) := fun k hk hki hl e => by
      rw [getD_set_of hki] at hl
      obtain ⟨g, e', _, hB⟩ := h.box k hk hl
      rw [e'] at e
      injection e with e1; injection e1 with e2; injection e2 with e3
      have := hB.lt
      omega
    by_cases hki : k.1 = i
    · have hmi : m.1 ≠ i := fun e => hkm (hki.trans e.symm)
      rw [hki, upd_same, upd_ne _ _ hmi]
      exact fun e => one m hm hmi hl' e.symm
    · by_cases hmi : m.1 = i
      · rw [hmi, upd_same, upd_ne _ _ hki]
        exact one k hk hki hl
      · rw [getD_set_of hki] at hl; rw [getD_set_of hmi] at hl'
        rw [upd_ne _ _ hki, upd_ne _ _ hmi]
        exact h.dis k hk m hm hkm hl hl'
/-- a store into a box -/
theorem GA.store {T : TypeId} {v w : World} {C : Nat → Option Value} {A : List (Nat × Nat × Int × Int)} {l : List Bool} {f : Nat → Value} (h : GA T v C A l f w) {i s g : Nat} {x y : Int} (hk : (i, s, x, y) ∈ A) (hlen : s < l.length) (hc : C s = none) (hl : l.getD i false = true) (hfi : f i = .pointer (some ⟨g, 0, none⟩)) (hA : ∀ k ∈ A, k.1 ≠ s ∧ (k.1 = i → k = (i, s, x, y)) ∧ (k.1 ≠ i → k.2.1 ≠ s)) : GA T v C A (l.set s true) f ((w.setCell ⟨g, 0, none⟩ (.int .i64 x)).setCell ⟨g, 1, none⟩ (.int .i64 y)) := by
  obtain ⟨g', e', hg, hB⟩ := h.box _ hk hl
  have hgg : g' = g := by rw [hfi] at e'; injection e' with e1; injection e1 with e2; injection e2 with e3; exact e3.symm
  subst hgg
  refine ⟨(h.bl.setCell hg _).setCell hg _, fun j u hj hl' => ?_, fun k hk' hl' => ?_, fun k hk' hl' => ?_, fun k hk' m hm hkm hl1 hl2 => ?_⟩
  · have hji : j ≠ s := fun e => by subst e; rw [hc] at hj; cases hj
    rw [getD_set_of hji] at hl'; exact h.con j u hj hl'
  · obtain ⟨h1, h2, h3⟩ := hA k hk'
    rw [getD_set_of h1]
    by_cases hki : k.1 = i
    · rw [hki]; exact hl
    · rw [getD_set_of (h3 hki)] at hl'; exact h.st k hk' hl'
  · obtain ⟨h1, h2, h3⟩ := hA k hk'
    rw [getD_set_of h1] at hl'
    by_cases hki : k.1 = i
    · obtain rfl := h2 hki
      refine ⟨g', hfi, hg, ?_⟩
      simp only [getD_set_self hlen, if_true]
      exact B2.set x y hB
    · rw [getD_set_of (h3 hki)]
      obtain ⟨g2, e2, hg2, hB2⟩ := h.box k hk' hl'
      refine ⟨g2, e2, hg2, B2.oth (fun e => ?_) hB2⟩
      subst e
      exact h.dis k hk' _ hk hki hl' hl (e2.trans hfi.symm)
  · rw [getD_set_of (hA k hk').1] at hl1; rw [getD_set_of (hA m hm).1] at hl2
    exact h.dis k hk' m hm hkm hl1 hl2
/-- boxes that lie there already and are written anew by stores. A: the number of the store, the box, what it held, what it is to hold -/
structure GS (T : TypeId) (w0 v : World) (C : Nat → Option Value) (A : List (Nat × Nat × (Int × Int) × (Int × Int))) (l : List Bool) (f : Nat → Value) (w : World) : Prop where
  bl : Bl w0 w
  con : ∀ i u, C i = some u → l.getD i false = true → f i = u
  keep : ∀ g o, (∀ k ∈ A, k.2.1 ≠ g) → v.heap[g]? = some o → w.heap[g]? = some o
  box : ∀ k ∈ A, B2 T w k.2.1 (if l.getD k.1 false = true then k.2.2.2.1 else k.2.2.1.1) (if l.getD k.1 false = true then k.2.2.2.2 else k.2.2.1.2)
theorem GS.start (T : TypeId) (w0 v : World) (C : Nat → Option Value) (A : List (Nat × Nat × (Int × Int) × (Int × Int))) (n : Nat) (f : Nat → Value) (hb : Bl w0 v) (hA : ∀ k ∈ A, B2 T v k.2.1 k.2.2.1.1 k.2.2.1.2) : GS T w0 v C A (List.replicate n false) f v.drew :=
  ⟨hb.drew, fun i u _ h => (by rw [getD_none] at h; cases h), fun g o _ h => h, fun k hk => by rw [getD_none]; exact hA k hk⟩
theorem GS.const {T : TypeId} {w0 v w w' : World} {C : Nat → Option Value} {A : List (Nat × Nat × (Int × Int) × (Int × Int))} {l : List Bool} {f : Nat → Value} (h : GS T w0 v C A l f w) {i : Nat} {u : Value} (hc : C i = some u) (hA : ∀ k ∈ A, k.1 ≠ i) (hb : Bl w w') : GS T w0 v C A (l.set i true) (upd f i u) w' := by
  refine ⟨h.bl.trans hb, fun j x hj hl => ?_, fun g o hg ho => ?_, fun k hk => ?_⟩
  · by_cases hji : j = i
    · subst hji; rw [hc] at hj; cases hj; rw [upd_same]
    · rw [getD_set_of hji] at hl; rw [upd_ne _ _ hji]; exact h.con j x hj hl
  · have h1 := h.keep g o hg ho
    exact (hb.block g (by
      rcases Nat.lt_or_ge g w.heap.size with q | q
      · exact q
      · rw [Array.getElem?_eq_none q] at h1; cases h1)).trans h1
  · rw [getD_set_of (hA k hk)]
    exact (h.box k hk).bl hb
theorem GS.store {T : TypeId} {w0 v w : World} {C : Nat → Option Value} {A : List (Nat × Nat × (Int × Int) × (Int × Int))} {l : List Bool} {f : Nat → Value} (h : GS T w0 v C A l f w) {s g : Nat} {o : Int × Int} {x y : Int} (hk : (s, g, o, (x, y)) ∈ A) (hg : w0.heap.size ≤ g) (hlen : s < l.length) (hc : C s = none) (hA : ∀ k ∈ A, (k.1 = s → k = (s, g, o, (x, y))) ∧ (k.1 ≠ s → k.2.1 ≠ g)) : GS T w0 v C A (l.set s true) f ((w.setCell ⟨g, 0, none⟩ (.int .i64 x)).setCell ⟨g, 1, none⟩ (.int .i64 y)) := by
  refine ⟨(h.bl.setCell hg _).setCell hg _, fun j u hj hl' => ?_, fun g' o' hg' ho => ?_, fun k hk' => ?_⟩
  · have hji : j ≠ s := fun e => by subst e; rw [hc] at hj; cases hj
    rw [getD_set_of hji] at hl'; exact h.con j u hj hl'
  · have hne : g' ≠ g := fun e => hg' _ hk e.symm
    rw [Below.heap_setCell _ _ _ _ hne, Below.heap_setCell _ _ _ _ hne]
    exact h.keep g' o' hg' ho
  · by_cases hks : k.1 = s
    · obtain rfl := (hA k hk').1 hks
      simp only [getD_set_self hlen, if_true]
      exact B2.set x y (h.box _ hk')
    · rw [getD_set_of hks]
      exact B2.oth ((hA k hk').2 hks) (h.box k hk')
end Go.Proofs.Ytjdkgndecnhokaa.Wire
