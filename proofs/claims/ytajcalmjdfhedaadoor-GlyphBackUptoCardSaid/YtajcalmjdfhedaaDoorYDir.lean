/- Contract of glyph: directions. -/
import Derived.Test.YtajcalmjdfhedaaDoorYLib
import Derived.Test.YtajcalmjdfhedaaDoorYMir
import Derived.RangeFuncNested
import Derived.RangeFuncBound
import Derived.RangeFuncCalls
import Derived.RangeFuncLeaves
import Derived.Shelf.Abstract
import Derived.Shelf.RegionOpen
import Derived.OwnWalkIn
import Derived.TacticsInMore
import Derived.LoopNIn
import Derived.LoopIn
import Derived.Deep.DeepCutAuto
import Derived.Deep.CutBlock
import Derived.Deep.RegionHeld3
import Derived.OwnWalk
namespace Go.Proofs.YtajcalmjdfhedaaDoor.Glyph
open Go.RowKit
open Go.Proofs.YtajcalmjdfhedaaDoor.Wire
set_option linter.unusedVariables false

/-- a box of one value -/
def Bx (w : World) (g : Nat) (T : TypeId) (v : Value) : Prop := w.heap[g]? = some (.cells #[v] T (0, 0))
section
variable {w w' : World} {g g' : Nat} {T : TypeId} {v u : Value}
theorem Bx.lt (h : Bx w g T v) : g < w.heap.size := (Array.getElem?_eq_some_iff.1 h).1
theorem Bx.bl (h : Bx w g T v) (hb : Bl w w') : Bx w' g T v := (hb.block g h.lt).trans h
theorem Bx.bu {r : Nat} (h : Bx w g T v) (hb : Bu r w w') (hr : g ≠ r) : Bx w' g T v := (hb.block g h.lt hr).trans h
theorem Bx.cell (h : Bx w g T v) : w.cell? ⟨g, 0, none⟩ = some v := by rw [cell_of_row _ _ _ _ _ _ h]; rfl
theorem Bx.free (h : Bx w g T v) : w.frozen? ⟨g, 0, none⟩ = false := by simp [World.frozen?, show w.heap[g]? = _ from h]
theorem Bx.new (w : World) (T : TypeId) (v : Value) : Bx (w.alloc (.cells #[v] T)) w.heap.size T v := heap_alloc_new w _
theorem Bx.set (h : Bx w g T v) (u : Value) : Bx (w.setCell ⟨g, 0, none⟩ u) g T u := by unfold Bx; rw [heap_setCell_same w g 0 _ _ u h]; rfl
theorem Bx.other (h : Bx w g T v) (hg : g ≠ g') (j : Nat) (u : Value) : Bx (w.setCell ⟨g', j, none⟩ u) g T v := (heap_setCell_other w ⟨g', j, none⟩ g u hg).trans h
theorem Bx.al (h : Bx w g T v) (o : Obj) : Bx (w.alloc o) g T v := h.bl ((Bl.refl w).alloc o)
end
theorem Tab.bu {w w' : World} {r : Nat} (h : Tab w) (hb : Bu r w w') (h1 : r ≠ 1) (h2 : r ≠ 0) : Tab w' := by
  obtain ⟨⟨t, fr, h3⟩, ⟨u, fs, h4⟩⟩ := h
  exact ⟨⟨t, fr, (hb.block _ (Array.getElem?_eq_some_iff.1 h3).1 (Ne.symm h1)).trans h3⟩, ⟨u, fs, (hb.block _ (Array.getElem?_eq_some_iff.1 h4).1 (Ne.symm h2)).trans h4⟩⟩
theorem Tab.big {w : World} (h : Tab w) : 1 < w.heap.size ∧ 0 < w.heap.size := by
  obtain ⟨⟨t, fr, h3⟩, ⟨u, fs, h4⟩⟩ := h
  exact ⟨(Array.getElem?_eq_some_iff.1 h3).1, (Array.getElem?_eq_some_iff.1 h4).1⟩

theorem nearest_any (b : Bool) (w : World) : Calls Tryd.prog 48 #[.bool b] w fun e w' => e = .returned (.func (.func 57) #[] #[.pointer (some ⟨w.heap.size, 0, none⟩)]) ∧ w' = w.alloc (.cells #[.bool b] 4) := by
  go_enter Tryd.func48, Tryd.ntmps48
  go_wp2_with fail
  go_ret
  exact ⟨rfl, rfl⟩
/-- the last strong one -/
def nx (b : Bool) (r : Int) : Bool := if scr r = 0 then b else (scr r == 4)
set_option maxHeartbeats 400000 in
theorem stepN_any (g : Nat) (b : Bool) (r : Int) (w : World) (hB : Bx w g 4 (.bool b)) (h0 : -9223372036854775808 ≤ r) (h1 : r ≤ 9223372036854775807) (hT : Tab w) :
    Calls Tryd.prog 57 #[.int .i64 r, .pointer (some ⟨g, 0, none⟩)] w fun e w' => e = .returned (.bool (nx b r)) ∧ Bx w' g 4 (.bool (nx b r)) ∧ Bu g w w' := by
  have c1 := hid (gstrong_any r w h0 h1 hT)
  have c2 := hid (fun w' (hb : Bl w w') => Script_any r w' h0 h1 (hT.bl hb))
  have hn : Hid (nx b r = if scr r = 0 then b else (scr r == 4)) := hid rfl
  clear hT
  generalize nx b r = N at *
  generalize scr r = S at *
  by_cases hs : S = 0
  · have hn := hid (hn.out.trans (if_pos hs))
    subst hs
    rw [show (!((0 : Int) == 0)) = false by rfl] at c1
    have hc := hB
    go_enter Tryd.func57, Tryd.ntmps57
    go_wp2_with fail
    refine c1.out.mono ?_
    rintro e w1 ⟨rfl, hb1⟩
    have hB1 := hB.bl hb1
    have hc1 := hB1.cell
    go_wp2_with fail
    go_ret
    exact ⟨retB hn.out.symm, by rw [hn.out]; exact hB1, Bu.of hb1⟩
  · have hn := hid (hn.out.trans (if_neg hs))
    rw [show (!(S == 0)) = true by rw [beq_eq_false_iff_ne.2 hs]; rfl] at c1
    go_enter Tryd.func57, Tryd.ntmps57
    go_wp2_with fail
    refine c1.out.mono ?_
    rintro e w1 ⟨rfl, hb1⟩
    go_wp2_with fail
    refine (c2.out _ hb1).mono ?_
    rintro e w2 ⟨rfl, hb2⟩
    have hB2 := (hB.bl hb1).bl hb2
    have hc2 := hB2.cell
    have hf2 := hB2.free
    have hB3 := hid (hB2.set (.bool (S == 4)))
    go_wp2_with fail
    go_ret
    refine ⟨retB hn.out.symm, by rw [hn.out]; exact hB3.out, (Bu.of (hb1.trans hb2)).set 0 _⟩

/-! plain -/
theorem nx_lst (b : Int) (hb : Dirn b) (l : List Int) (r : Int) : nx (decide (lst' b l < 0)) r = decide (lst' b (l ++ [r]) < 0) := by
  rw [lst_snoc]
  have h := st_cases r
  unfold nx
  by_cases h0 : scr r = 0
  · rw [if_pos h0, if_neg (by rw [Ne, st_zero]; exact fun h => h h0)]
  · rw [if_neg h0, if_pos (by rw [Ne, st_zero]; exact h0)]
    by_cases h4 : scr r = 4
    · have : st r = -1 := by omega
      rw [this, h4]; rfl
    · have : st r = 1 := by omega
      rw [this, beq_eq_false_iff_ne.2 h4]; rfl
theorem nx_fst (b : Int) (l : List Int) (r : Int) : nx (decide (fst' b l < 0)) r = decide (fst' b (r :: l) < 0) := by
  rw [fst']
  have h := st_cases r
  unfold nx
  by_cases h0 : scr r = 0
  · rw [if_pos h0, if_neg (by rw [Ne, st_zero]; exact fun h => h h0)]
  · rw [if_neg h0, if_pos (by rw [Ne, st_zero]; exact h0)]
    by_cases h4 : scr r = 4
    · have : st r = -1 := by omega
      rw [this, h4]; rfl
    · have : st r = 1 := by omega
      rw [this, beq_eq_false_iff_ne.2 h4]; rfl
theorem fst_first {b : Int} : ∀ {k : Nat} {l : List Int}, k < l.length → (∀ j, j < k → st (l.getD j 0) = 0) → st (l.getD k 0) ≠ 0 → fst' b l = st (l.getD k 0)
  | _, [], h, _, _ => by simp at h
  | 0, x :: l, _, _, h2 => by
    rw [fst', if_pos (by simpa using h2)]; rfl
  | k + 1, x :: l, h, h1, h2 => by
    have h0 := h1 0 (by omega)
    rw [fst', if_neg (by simpa using h0)]
    rw [fst_first (k := k) (l := l) (by simp at h; omega) (fun j hj => by have := h1 (j + 1) (by omega); simpa using this) (by simpa using h2)]
    simp
theorem fst_none {b : Int} : ∀ {l : List Int}, (∀ x ∈ l, st x = 0) → fst' b l = b
  | [], _ => rfl
  | x :: l, h => by rw [fst', if_neg (by rw [h x (by simp)]; decide), fst_none fun y hy => h y (List.mem_cons_of_mem _ hy)]
theorem dr_eq (l : List Int) {i : Nat} (hi : i < l.length) : dr l i = if lst' (bas l) (l.take (i + 1)) = fst' (bas l) (l.drop i) then lst' (bas l) (l.take (i + 1)) else bas l := by
  have e1 := take_snoc (l := l) (i := i) hi
  have e2 : l.drop i = l.getD i 0 :: l.drop (i + 1) := by rw [List.drop_eq_getElem_cons hi]; simp [List.getD, List.getElem?_eq_getElem hi]
  rw [e1, e2, lst_snoc, fst']
  unfold dr
  by_cases h : st (l.getD i 0) ≠ 0
  · simp only [if_pos h, if_true]
  · simp only [if_neg h]
/-- right to left -/
def lf (l : List Int) (i : Nat) : Bool := decide (dr l i < 0)
def lfB (l : List Int) (i : Nat) : Bool := decide (lst' (bas l) (l.take (i + 1)) < 0)
def lfA (l : List Int) (i : Nat) : Bool := decide (fst' (bas l) (l.drop i) < 0)
def lbs (l : List Int) : Bool := decide (bas l < 0)
theorem lf_eq (l : List Int) {i : Nat} (hi : i < l.length) : lf l i = if lfA l i = lfB l i then lfB l i else lbs l := by
  have h1 := lst_dir (bas_dir l) (l.take (i + 1))
  have h2 := fst_dir (bas_dir l) (l.drop i)
  unfold lf lfA lfB lbs
  rw [dr_eq l hi]
  by_cases h : lst' (bas l) (l.take (i + 1)) = fst' (bas l) (l.drop i)
  · rw [if_pos h, h, if_pos rfl]
  · rw [if_neg h, if_neg]
    unfold Dirn at h1 h2
    rcases h1 with a | a <;> rcases h2 with c | c <;> rw [a, c] at h ⊢ <;> simp at h ⊢
end Go.Proofs.YtajcalmjdfhedaaDoor.Glyph
