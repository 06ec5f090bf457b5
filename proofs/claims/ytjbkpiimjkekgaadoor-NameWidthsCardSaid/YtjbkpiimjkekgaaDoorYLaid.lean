/- What the rows list of glyph: its two tables; a world that holds them. -/
import Derived.Test.YtjbkpiimjkekgaaDoorYTab
import Derived.Test.YtjbkpiimjkekgaaDoorWArgs
import Derived.Test.YtjbkpiimjkekgaaDoorCards
import Derived.Test.YtjbkpiimjkekgaaDoorTie
import Derived.SevenTiedAt
import Derived.Deep.DeepHandedRow
import Derived.Lib.LaidU8
namespace Go.Proofs.YtjbkpiimjkekgaaDoor.Glyph
open Go.RowKit
open Go.Proofs.YtjbkpiimjkekgaaDoor.Wire
set_option linter.unusedVariables false

section
variable {H : Type} {enc : TypeId × Value → H} {P : Program} {w : World} {base : Nat} {sp : Nat → Bool} {held : Bool}
/-- a struct of integers, each of its kind, that reads as these numbers, holds them -/
theorem lits_of_struct {fuel : Nat} {t : TypeId} {fs : Array Field} {l : List (IntKind × Int)} {cs : List Value} {p : List MemPlace} (ht : P.underlying t = some (.struct fs)) (hl : l.length = fs.size)
    (hf : ∀ (i : Nat) (f : Field) (q : IntKind × Int), fs[i]? = some f → l[i]? = some q → P.underlying f.type = some (.int q.1) ∧ f.offset = i ∧ P.cellsOf f.type = 1) (hct : P.cellsOf t = fs.size)
    (h : DataW.trod enc P w base sp held fuel t cs = some (.agg (l.map fun q => .lit (.int q.1 q.2)), p)) : cs = l.map fun q => Value.int q.1 q.2 := by
  obtain ⟨xs, n, rfl, hx, hcl, hxl, hall⟩ := DataW.trod_struct ht h
  have hxs : xs.map (·.1) = l.map fun q => (DataW.lit (.int q.1 q.2) : DataW H) := by
    have := congrArg Prod.fst hx
    simpa using this.symm
  apply List.ext_getElem?
  intro i
  by_cases hi : i < fs.size
  · have hli : l[i]? = some (l[i]'(by omega)) := List.getElem?_eq_getElem (by omega)
    obtain ⟨hu, ho, hc⟩ := hf i fs[i] _ (by simp [hi]) hli
    have h1 := hall i fs[i] (by simp [hi])
    obtain ⟨b, hb⟩ : ∃ b, xs[i]? = some b := ⟨xs[i]'(by omega), List.getElem?_eq_getElem (by omega)⟩
    rw [hb, ho, hc] at h1
    obtain ⟨z, hcz, rfl, _⟩ := DataW.trod_int hu h1
    have h2 : cs[i]? = some (.int (l[i]'(by omega)).1 z) := by
      have := congrArg (·[0]?) hcz
      simpa [List.getElem?_take, List.getElem?_drop] using this
    have h3 : (xs.map (·.1))[i]? = some (DataW.lit (.int (l[i]'(by omega)).1 z) : DataW H) := by simp [hb]
    rw [hxs, List.getElem?_map, hli] at h3
    simp only [Option.map_some, Option.some.injEq, DataW.lit.injEq, Lit.int.injEq, true_and] at h3
    rw [h2, List.getElem?_map, hli, Option.map_some, h3]
  · rw [List.getElem?_eq_none (by omega), List.getElem?_eq_none (by simp; omega)]
theorem array_len {fuel : Nat} {t e : TypeId} {n : Nat} {cs : List Value} {x : DataW H × List MemPlace} (ht : P.underlying t = some (.array n e)) (h : DataW.trod enc P w base sp held fuel t cs = some x) : cs.length = P.cellsOf t := by
  cases fuel with
  | zero => simp [DataW.trod] at h
  | succ fuel =>
    simp only [DataW.trod, ht] at h
    split at h
    · assumption
    · cases h
theorem chunks {α : Type} {m n : Nat} {cs ds : List α} (hm : 0 < m) (h1 : cs.length = n * m) (h2 : ds.length = n * m) (h : ∀ i, i < n → (cs.drop (i * m)).take m = (ds.drop (i * m)).take m) : cs = ds := by
  apply List.ext_getElem?
  intro j
  by_cases hj : j < n * m
  · have hi : j / m < n := (Nat.div_lt_iff_lt_mul hm).2 hj
    have hr : j % m < m := Nat.mod_lt _ hm
    have := congrArg (·[j % m]?) (h (j / m) hi)
    simp only [List.getElem?_take, hr, if_true, List.getElem?_drop] at this
    have e : j / m * m + j % m = j := Nat.div_add_mod' j m
    rw [e] at this
    exact this
  · rw [List.getElem?_eq_none (by omega), List.getElem?_eq_none (by omega)]
/-- a table of structs of integers -/
theorem table_of {fuel : Nat} {t e : TypeId} {n : Nat} {fs : Array Field} {L : List (List (IntKind × Int))} {cs : List Value} {p : List MemPlace} (ht : P.underlying t = some (.array n e)) (he : P.underlying e = some (.struct fs))
    (hL : L.length = n) (hl : ∀ l ∈ L, l.length = fs.size) (hf : ∀ l ∈ L, ∀ (i : Nat) (f : Field) (q : IntKind × Int), fs[i]? = some f → l[i]? = some q → P.underlying f.type = some (.int q.1) ∧ f.offset = i ∧ P.cellsOf f.type = 1)
    (hce : P.cellsOf e = fs.size) (hct : P.cellsOf t = n * fs.size) (h0 : 0 < fs.size)
    (h : DataW.trod enc P w base sp held fuel t cs = some (.agg (L.map fun l => .agg (l.map fun q => .lit (.int q.1 q.2))), p)) : cs = L.flatMap fun l => l.map fun q => Value.int q.1 q.2 := by
  have hcl := array_len ht h
  have hfl : ∀ (M : List (List (IntKind × Int))), (∀ l ∈ M, l.length = fs.size) → (M.flatMap fun l => l.map fun q => Value.int q.1 q.2).length = M.length * fs.size := by
    intro M
    induction M with
    | nil => intro _; simp
    | cons a M ih =>
      intro hM
      rw [List.flatMap_cons, List.length_append, ih (fun l hl => hM l (List.mem_cons_of_mem _ hl)), List.length_map, hM a (by simp), List.length_cons, Nat.succ_mul]
      omega
  have hch : ∀ (M : List (List (IntKind × Int))), (∀ l ∈ M, l.length = fs.size) → ∀ i (hi : i < M.length), ((M.flatMap fun l => l.map fun q => Value.int q.1 q.2).drop (i * fs.size)).take fs.size = M[i].map fun q => Value.int q.1 q.2 := by
    intro M
    induction M with
    | nil => intro _ i hi; simp at hi
    | cons a M ih =>
      intro hM i hi
      have ha : (a.map fun q => Value.int q.1 q.2).length = fs.size := by rw [List.length_map]; exact hM a (by simp)
      rw [List.flatMap_cons]
      cases i with
      | zero =>
        rw [Nat.zero_mul, List.drop_zero]
        rw [List.take_append_of_le_length (by omega), List.take_of_length_le (by omega)]
        rfl
      | succ i =>
        rw [Nat.succ_mul, List.drop_append]
        rw [List.drop_of_length_le (by omega), List.nil_append, ha, Nat.add_sub_cancel]
        exact ih (fun l hl => hM l (List.mem_cons_of_mem _ hl)) i (by simpa using hi)
  refine chunks h0 (hcl.trans hct) (by rw [hfl L hl, hL]) fun i hi => ?_
  obtain ⟨fuel', d, q, hd, htr⟩ := Lib.array_elem ht h i hi
  rw [List.getElem?_map, List.getElem?_eq_getElem (by omega)] at hd
  simp only [Option.map_some, Option.some.injEq] at hd
  subst hd
  rw [hce] at htr
  have hmem : L[i]'(by omega) ∈ L := List.getElem_mem _
  rw [lits_of_struct he (hl _ hmem) (hf _ hmem) hce htr, hch L hl i (by omega)]
end

def scL : List (List (IntKind × Int)) := scR.map fun p => [(.i32, p.1), (.i32, p.2.1), (.i64, p.2.2)]
def foL : List (List (IntKind × Int)) := foR.map fun p => [(.i32, p.1), (.i32, p.2.1), (.i32, p.2.2.1), (.i32, p.2.2.2)]
theorem under_i32 : Tryd.prog.underlying 21 = some (.int .i32) := Tryd.underlying21
set_option maxRecDepth 10000 in
theorem tabs_in {L : List (String × DataW Unit)} {W : World} (hm : laidMet Tryd.prog L W) (h1 : ("mapsheets/glyph.scripts", Rows.laid_mapsheets_glyph_scripts) ∈ L) (h2 : ("mapsheets/glyph.folds", Rows.laid_mapsheets_glyph_folds) ∈ L) : Tab W := by
  have r1 := Lib.laidMet.reads hm (n := "mapsheets/glyph.scripts") (d := Rows.laid_mapsheets_glyph_scripts) h1
  have r2 := Lib.laidMet.reads hm (n := "mapsheets/glyph.folds") (d := Rows.laid_mapsheets_glyph_folds) h2
  constructor
  · obtain ⟨g, t, cs, fuel, p, hg, ht, hv, hd⟩ := r1
    obtain rfl := Option.some.inj ((show Tryd.prog.globalNamed "mapsheets/glyph.scripts" = some 1 by kernel_rfl).symm.trans hg)
    obtain rfl := Option.some.inj ((show (Tryd.prog.globals[1]?).map (·.type) = some 56 by kernel_rfl).symm.trans ht)
    have hcs := table_of (L := scL) Tryd.underlying56 Tryd.underlying55 rfl (by decide)
      (by
        intro l hl i f q hf hq
        obtain ⟨a, _, rfl⟩ := List.mem_map.1 hl
        match i, hf, hq with
        | 0, hf, hq => cases hf; cases hq; exact ⟨Tryd.underlying21, rfl, by kernel_rfl⟩
        | 1, hf, hq => cases hf; cases hq; exact ⟨Tryd.underlying21, rfl, by kernel_rfl⟩
        | 2, hf, hq => cases hf; cases hq; exact ⟨Tryd.underlying3, rfl, by kernel_rfl⟩
        | i + 3, hf, hq => simp at hq) (by kernel_rfl) (by kernel_rfl) (by decide) hd
    simp only [World.var?, hg, Option.bind_some] at hv
    split at hv
    · rename_i cs' t' fr hh
      injection hv with hv
      subst hv
      refine ⟨t', fr, ?_⟩
      rw [hh]
      have : cs' = scC := by rw [← Array.toArray_toList (xs := cs'), hcs]; rfl
      rw [this]
    · cases hv
  · obtain ⟨g, t, cs, fuel, p, hg, ht, hv, hd⟩ := r2
    obtain rfl := Option.some.inj ((show Tryd.prog.globalNamed "mapsheets/glyph.folds" = some 0 by kernel_rfl).symm.trans hg)
    obtain rfl := Option.some.inj ((show (Tryd.prog.globals[0]?).map (·.type) = some 50 by kernel_rfl).symm.trans ht)
    have hcs := table_of (L := foL) Tryd.underlying50 Tryd.underlying49 rfl (by decide)
      (by
        intro l hl i f q hf hq
        obtain ⟨a, _, rfl⟩ := List.mem_map.1 hl
        match i, hf, hq with
        | 0, hf, hq => cases hf; cases hq; exact ⟨Tryd.underlying21, rfl, by kernel_rfl⟩
        | 1, hf, hq => cases hf; cases hq; exact ⟨Tryd.underlying21, rfl, by kernel_rfl⟩
        | 2, hf, hq => cases hf; cases hq; exact ⟨Tryd.underlying21, rfl, by kernel_rfl⟩
        | 3, hf, hq => cases hf; cases hq; exact ⟨Tryd.underlying21, rfl, by kernel_rfl⟩
        | i + 4, hf, hq => simp at hq) (by kernel_rfl) (by kernel_rfl) (by decide) hd
    simp only [World.var?, hg, Option.bind_some] at hv
    split at hv
    · rename_i cs' t' fr hh
      injection hv with hv
      subst hv
      refine ⟨t', fr, ?_⟩
      rw [hh]
      have : cs' = foC := by rw [← Array.toArray_toList (xs := cs'), hcs]; rfl
      rw [this]
    · cases hv
theorem tabs {W : World} (h : laidMetH Tryd.prog [("mapsheets/glyph.scripts", Rows.laid_mapsheets_glyph_scripts), ("mapsheets/glyph.folds", Rows.laid_mapsheets_glyph_folds)] W) : Tab W := tabs_in h (by simp) (by simp)
def layScripts : Obj → Obj
  | .cells _ t frozen => .cells scC t frozen
  | o => o
def layFolds : Obj → Obj
  | .cells _ t frozen => .cells foC t frozen
  | o => o
/-- a world for the witnesses: the settled one, the tables as their initialisers lay them -/
noncomputable def laidWorld (os : Os) : World :=
  { World.holding Tryd.prog os ⟨#[], #[], []⟩ with heap := ((World.holding Tryd.prog os ⟨#[], #[], []⟩).heap.modify 1 layScripts).modify 0 layFolds }
end Go.Proofs.YtjbkpiimjkekgaaDoor.Glyph
