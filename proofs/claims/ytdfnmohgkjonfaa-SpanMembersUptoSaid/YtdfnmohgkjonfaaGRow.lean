/- Words for rows of pairs of the call's own, as long as they were made: copy into them, clear behind, a shorter slice of them, the library's sort of them. No function of the program. -/
import Derived.Test.YtdfnmohgkjonfaaGPair
import Derived.Laws.CopyOwn
import Derived.OwnWalk
import Derived.Sort.Grow
import Derived.Shelf.GgSortFunc.InsertionK
namespace Go.Proofs.Ytdfnmohgkjonfaa.Wire
open Go.RowKit
set_option linter.unusedVariables false

theorem fl_take (ps : List Pr) (k : Nat) : fl (ps.take k) = (fl ps).take (k * 2) := by
  induction ps generalizing k with
  | nil => simp [fl]
  | cons p ps ih =>
    cases k with
    | zero => simp [fl]
    | succ k => rw [List.take_succ_cons, fl_cons, fl_cons, ih, show (k + 1) * 2 = k * 2 + 1 + 1 by omega, List.take_succ_cons, List.take_succ_cons]
theorem fl_drop (ps : List Pr) (k : Nat) : fl (ps.drop k) = (fl ps).drop (k * 2) := by
  induction ps generalizing k with
  | nil => simp [fl]
  | cons p ps ih =>
    cases k with
    | zero => simp [fl]
    | succ k => rw [List.drop_succ_cons, fl_cons, ih, show (k + 1) * 2 = k * 2 + 1 + 1 by omega, List.drop_succ_cons, List.drop_succ_cons]

/-- a row of n pairs of the call's own, whatever stands in it -/
def Rw (w : World) (B : Nat) (e : TypeId) (g n : Nat) (xs : List Value) : Prop := w.ownsRow B e 2 (.slice (some ⟨g, 0, none⟩) n n) n xs

section
variable {w w' : World} {B g n : Nat} {e : TypeId} {xs : List Value} {ps : List Pr}
theorem Rw.raw (h : Rw w B e g n xs) : xs.length = n * 2 ∧ B ≤ g ∧ g < w.heap.size ∧ n ≤ maxLen ∧ w.heap[g]? = some (.cells xs.toArray e (0, 0)) := by
  obtain ⟨hl, h⟩ := h
  rcases h with ⟨e0, _⟩ | ⟨g', cap, cur, e0, hb, hg, hn, hm, hs, ht⟩
  · cases e0
  · injection e0 with e1 _ e3
    injection e1 with e1
    injection e1 with e1
    subst e1; subst e3
    have hx : cur = xs.toArray := by
      rw [← ht, List.take_of_length_le (by simp [hs])]
    refine ⟨hl, hb, ?_, hm, by rw [hg, hx]⟩
    rcases Nat.lt_or_ge g w.heap.size with h' | h'
    · exact h'
    · rw [Array.getElem?_eq_none h'] at hg; cases hg
theorem Rw.of (hl : xs.length = n * 2) (hb : B ≤ g) (hm : n ≤ maxLen) (hg : w.heap[g]? = some (.cells xs.toArray e (0, 0))) : Rw w B e g n xs :=
  ⟨hl, .inr ⟨g, n, xs.toArray, rfl, hb, hg, Nat.le_refl _, hm, by simp [hl], by rw [← hl]; simp⟩⟩
theorem Rw.own (h : Rw w B e g n (fl ps)) : OwP w B e (some ⟨g, 0, none⟩) n n ps := h
theorem OwP.row (h : OwP w B e (some ⟨g, 0, none⟩) n n ps) : Rw w B e g n (fl ps) := h
theorem OwP.cut {c k : Nat} (h : OwP w B e (some ⟨g, 0, none⟩) n c ps) (hk : k ≤ n) : OwP w B e (some ⟨g, 0, none⟩) k c (ps.take k) := by
  have hl := h.len
  rcases h.2 with ⟨e0, _⟩ | ⟨g', cap, cur, e0, hb, hg, hn, hm, hs, ht⟩
  · cases e0
  · injection e0 with e1 _ e3
    injection e1 with e1
    injection e1 with e1
    subst e1; subst e3
    refine ⟨by rw [fl_len, List.length_take]; omega, .inr ⟨g, c, cur, rfl, hb, hg, by omega, hm, hs, ?_⟩⟩
    rw [fl_take, ← ht, List.take_take]
    congr 1; omega
end

/-! copy, clear -/
section
variable {P : Program}
theorem run_copy_rowP (w : World) (dT sT ty elem : TypeId) (g o dLen dCap : Nat) (a : Addr) (sLen sCap : Nat) (cur : Array Value) (t : TypeId) (cs : List Value)
    (hu : P.underlying dT = some (.slice elem)) (hs : (P.info? elem).map (·.size) = some 2)
    (hg : w.heap[g]? = some (.cells cur t (0, 0))) (hn : sLen ≤ dLen) (hl : cs.length = sLen * 2)
    (hsrc : ∀ j v, cs[j]? = some v → w.cell? (a.add j) = some v) (hfit : o + cs.length ≤ cur.size) (h1 : ∀ v ∈ cs, v.oneCell' = true) :
    (Builtin.copy_ #[dT, sT] ty #[.slice (some ⟨g, o, none⟩) dLen dCap, .slice (some a) sLen sCap]).run P w =
      .ok (goInt sLen) (w.setRow g (cur.toList.take o ++ cs ++ cur.toList.drop (o + cs.length)).toArray) := by
  have hld := run_loadCells_list (P := P) w a cs hsrc
  have hst := run_storeCells_at P g o t cs 0 cur w hg (by simpa using hfit) h1
  rw [hl] at hld
  cases hq : P.info? elem with
  | none => simp [hq] at hs
  | some i =>
    have hi : i.size = 2 := by simpa [hq] using hs
    have hmin : Nat.min sLen dLen = sLen := Nat.min_eq_left hn
    simp [Builtin.copy_, run_underlying hu, Builtin.lenOf, Builtin.firstCells, sizeOf, typeInfo, hq, hi, hmin, hld, hst]
theorem run_copy_noneP (w : World) (dT sT ty elem : TypeId) (d a : Option Addr) (dLen dCap sCap : Nat) (hu : P.underlying dT = some (.slice elem)) (hs : (P.info? elem).map (·.size) = some 2) :
    (Builtin.copy_ #[dT, sT] ty #[.slice d dLen dCap, .slice a 0 sCap]).run P w = .ok (goInt 0) w := by
  cases hq : P.info? elem with
  | none => simp [hq] at hs
  | some i =>
    cases d <;> cases a <;> simp [Builtin.copy_, run_underlying hu, Builtin.lenOf, Builtin.firstCells, sizeOf, typeInfo, hq, storeCells, loadCells, loadCellsFrom]
/-- copy of the slice x into a row of the call's own, from pair off on -/
theorem wpList_copyP (w : World) {ops : Array Oper} {rest : List Oper} {o : Oper} {a : Act} {Q : Exit → Act → World → Prop} (hgd : o.guard = none) (d s : Operand) (t e : TypeId)
    (ho : o.op = .call { callee := .builtin .copy, args := #[d, s], argTypes := #[t, t] }) (hu : P.underlying t = some (.slice e)) (hsz : (P.info? e).map (·.size) = some 2)
    {dp : Option Addr} {dLen dCap : Nat} (hd : a.eval d = .slice dp dLen dCap) {A : Option Addr} {m c : Nat} (hs : a.eval s = .slice A m c)
    {B g n off : Nat} {xs : List Value} (hrow : Rw w B e g n xs) {B' : Nat} {qs : List Pr} (hsh : ShP w B' A m qs) (hdp : 0 < m → dp = some ⟨g, off * 2, none⟩) (hml : m ≤ dLen) (hfit : off + m ≤ n)
    (h : ∀ w', Rw w' B e g n (xs.take (off * 2) ++ (fl qs ++ xs.drop ((off + m) * 2))) → Below B w w' → wpList P ops Q rest (a.put o.dst (goInt m)) w') : wpList P ops Q (o :: rest) a w := by
  obtain ⟨hl, hB, hgl, hnm, hg⟩ := hrow.raw
  have hq := hsh.len
  refine wpList_plain hgd fun K hK => ?_
  by_cases h0 : m = 0
  · subst h0
    have hqs : qs = [] := List.eq_nil_of_length_eq_zero hq
    subst hqs
    have hrun := run_copy_noneP (P := P) w t t o.type e dp A dLen dCap c hu hsz
    unfold Oper.wp
    simp [execOp, ho, resolve, invoke, builtin, hd, hs, hrun, Result.andThen]
    refine hK _ _ (h w ?_ (Below.refl _ _))
    simpa [fl] using hrow
  · obtain rfl := hdp (by omega)
    obtain ⟨b, o', rfl, _, hc⟩ := hsh.2 (by omega)
    have hfl := fl_len qs
    have hrun := run_copy_rowP (P := P) w t t o.type e g (off * 2) dLen dCap ⟨b, o', none⟩ m c xs.toArray e (fl qs) hu hsz hg hml (by rw [hfl, hq]) (fun j u hu => by
      obtain ⟨i, hil, hcase⟩ := fl_at hu
      rw [add_lit']
      obtain ⟨q1, q2⟩ := hc i (by omega)
      rcases hcase with ⟨rfl, rfl⟩ | ⟨rfl, rfl⟩
      · exact q1
      · rw [← Nat.add_assoc]; exact q2) (by rw [hfl, hq]; simp; omega) (fl_one qs)
    unfold Oper.wp
    simp [execOp, ho, resolve, invoke, builtin, hd, hs, hrun, Result.andThen]
    refine hK _ _ (h _ (Rw.of ?_ hB hnm ?_) (below_setRow (Below.refl _ _) hB _))
    · simp [hfl, hq, hl]; omega
    · rw [setRow_heap w g _ _ _ _ hg]
      simp [hfl, hq, Nat.add_mul]
theorem size_zeros {cs : Array Value} (h : cs.size = 2) (k : Nat) : (Builtin.zeroCells cs k).toList.length = k * 2 := by simp [Builtin.zeroCells, h]
theorem run_clear_none (w : World) (t e ty : TypeId) (ht : P.underlying t = some (.slice e)) (A : Option Addr) (c : Nat) : (Builtin.clear_ #[t] ty #[.slice A 0 c]).run P w = .ok (.tuple #[]) w := by
  cases A <;> simp [Builtin.clear_, run_underlying ht]
theorem run_clear_row (w : World) (t e ty : TypeId) (z : Value) (ht : P.underlying t = some (.slice e)) (hv : ∀ w, (zeroValue e).run P w = .ok z w) (hz : z.cells.size = 2) (h1 : ∀ v ∈ z.cells, v.oneCell' = true)
    (g o n c : Nat) (hn : 0 < n) (cur : Array Value) (hg : w.heap[g]? = some (.cells cur e (0, 0))) (hfit : o + n * 2 ≤ cur.size) :
    ∃ zs : List Value, zs.length = n * 2 ∧ (Builtin.clear_ #[t] ty #[.slice (some ⟨g, o, none⟩) n c]).run P w = .ok (.tuple #[]) (w.setRow g (cur.toList.take o ++ zs ++ cur.toList.drop (o + zs.length)).toArray) := by
  have hlz := size_zeros hz n
  have hone : ∀ v ∈ (Builtin.zeroCells z.cells n).toList, v.oneCell' = true := by
    intro v hv
    simp only [Builtin.zeroCells, Array.toList_map, List.mem_map] at hv
    obtain ⟨i, _, rfl⟩ := hv
    rw [hz]
    have : i % 2 < z.cells.size := by rw [hz]; omega
    rw [getElem!_pos z.cells (i % 2) this]
    exact h1 _ (Array.getElem_mem this)
  have hst := run_storeCells_at P g o e (Builtin.zeroCells z.cells n).toList 0 cur w hg (by simpa [hlz] using hfit) hone
  refine ⟨(Builtin.zeroCells z.cells n).toList, hlz, ?_⟩
  obtain ⟨m, rfl⟩ : ∃ m, n = m + 1 := ⟨n - 1, by omega⟩
  simp only [Nat.add_zero] at hst
  simp [Builtin.clear_, run_underlying ht, hv, hst]
/-- clear of what stands behind pair i: the pairs before it stay -/
theorem wpList_clearP (w : World) {ops : Array Oper} {rest : List Oper} {o : Oper} {a : Act} {Q : Exit → Act → World → Prop} (hgd : o.guard = none) (x : Operand) (t e : TypeId)
    (ho : o.op = .call { callee := .builtin .clear, args := #[x], argTypes := #[t] }) (hu : P.underlying t = some (.slice e)) (hv : ∀ w, (zeroValue e).run P w = .ok (.agg #[.int .i64 0, .int .i64 0]) w)
    {A : Option Addr} {k c : Nat} (hx : a.eval x = .slice A k c)
    {B g n i : Nat} {ps : List Pr} (hrow : OwP w B e (some ⟨g, 0, none⟩) n n ps) (hA : 0 < k → A = some ⟨g, i * 2, none⟩) (hfit : i + k ≤ n)
    (h : ∀ w', OwP w' B e (some ⟨g, 0, none⟩) i n (ps.take i) → Below B w w' → wpList P ops Q rest (a.put o.dst (.tuple #[])) w') : wpList P ops Q (o :: rest) a w := by
  obtain ⟨hl, hB, hgl, hnm, hg⟩ := hrow.row.raw
  have hlp := hrow.len
  refine wpList_plain hgd fun K hK => ?_
  by_cases h0 : k = 0
  · subst h0
    have hrun := run_clear_none (P := P) w t e o.type hu A c
    unfold Oper.wp
    simp [execOp, ho, resolve, invoke, builtin, hx, hrun, Result.andThen]
    exact hK _ _ (h w (hrow.cut (by omega)) (Below.refl _ _))
  · obtain rfl := hA (by omega)
    obtain ⟨zs, hzl, hrun⟩ := run_clear_row (P := P) w t e o.type _ hu hv rfl (by intro v hv; simp [Value.cells] at hv; rcases hv with rfl | rfl <;> rfl) g (i * 2) k c (by omega) (fl ps).toArray hg (by simp [hl]; omega)
    unfold Oper.wp
    simp [execOp, ho, resolve, invoke, builtin, hx, hrun, Result.andThen]
    refine hK _ _ (h _ ⟨by rw [fl_len, List.length_take]; omega, .inr ⟨g, n, _, rfl, hB, setRow_heap w g _ _ _ _ hg, by omega, hnm, ?_, ?_⟩⟩ (below_setRow (Below.refl _ _) hB _))
    · simp [hl, hzl]; omega
    · rw [fl_take]
      show List.take (i * 2) (List.take (i * 2) (fl ps) ++ (zs ++ List.drop _ (fl ps))) = _
      rw [List.take_append_of_le_length (by simp [hl]; omega), List.take_take]
      simp
end

/-! the library's sort of such a row -/
section
open Go.Sort
theorem flat_fl (l : List Pr) : flatK pc 2 l.toArray = (fl l).toArray := by
  refine ext_get! (by simp [fl_len]) fun t ht => ?_
  have ht' : t < l.length * 2 := by simpa using ht
  rw [get_flatK _ _ _ t (by simpa using ht')]
  have h2 : t / 2 < l.length := by omega
  have hf : t < (fl l).length := by rw [fl_len]; exact ht'
  have e1 : (l.toArray[t / 2]! : Pr) = l.getD (t / 2) (0, 0) := by simp [List.getD, getElem!_pos, h2]
  have e2 : (fl l).toArray[t]! = (fl l)[t] := by simp [getElem!_pos, hf]
  rw [e1, e2]
  rcases (show t = t / 2 * 2 ∨ t = t / 2 * 2 + 1 by omega) with e | e
  · have := fl_lo l (t / 2) h2
    rw [← e, List.getElem?_eq_getElem hf] at this
    rw [Option.some.inj this, show t % 2 = 0 by omega]
    rfl
  · have := fl_hi l (t / 2) h2
    rw [← e, List.getElem?_eq_getElem hf] at this
    rw [Option.some.inj this, show t % 2 = 1 by omega]
    rfl
variable {w : World} {B g n c : Nat} {e : TypeId} {ps : List Pr}
theorem OwP.holds (h : OwP w B e (some ⟨g, 0, none⟩) n c ps) : HoldsK pc 2 w g 0 ps.toArray := by
  unfold HoldsK
  rw [flat_fl]
  intro j hj
  have hj' : j < (fl ps).length := by simpa using hj
  have hl := h.len
  rw [fl_len] at hj'
  refine ⟨?_, ?_⟩
  · have := World.ownsRow.cellAt h j (by omega)
    rw [Nat.zero_add, this, List.getElem?_eq_getElem (by rw [fl_len]; omega)]
    simp [getElem!_pos, fl_len, hj']
  · rw [Nat.zero_add]; exact World.ownsRow.frozenAt h j
theorem OwP.blk (h : OwP w B e (some ⟨g, 0, none⟩) n c ps) : B ≤ g ∧ g < w.heap.size := by
  rcases h.2 with ⟨e0, _⟩ | ⟨g', cap, cur, e0, hb, hg, _⟩
  · cases e0
  · injection e0 with e1 _ e3
    injection e1 with e1
    injection e1 with e1
    subst e1
    refine ⟨hb, ?_⟩
    rcases Nat.lt_or_ge g w.heap.size with h' | h'
    · exact h'
    · rw [Array.getElem?_eq_none h'] at hg; cases hg
theorem OwP.sorted (h : OwP w B e (some ⟨g, 0, none⟩) n c ps) (q : Nat) (qs : List Pr) (os : Array Obj) (hq : qs.length = ps.length) : OwP (sortWorldK pc 2 w g 0 q qs.toArray os) B e (some ⟨g, 0, none⟩) n c qs := by
  have hl := h.len
  have hblk := h.blk
  rcases h.2 with ⟨e0, _⟩ | ⟨g', cap, cur, e0, hb, hg, hn, hm, hs, ht⟩
  · cases e0
  · injection e0 with e1 _ e3
    injection e1 with e1
    injection e1 with e1
    subst e1; subst e3
    refine ⟨by rw [fl_len]; omega, .inr ⟨g, c, putCells id 0 (flatK pc 2 qs.toArray) cur, rfl, hb, ?_, hn, hm, by simp [putCells, hs], ?_⟩⟩
    · unfold sortWorldK putRowK
      rw [heap_grow_old _ _ (by simpa using hblk.2)]
      simp [putRow, mapBlock, Sort.ahead, Array.getElem?_modify, hg, onCells]
    · rw [flat_fl]
      apply List.ext_getElem?
      intro j
      by_cases hj : j < n * 2
      · rw [List.getElem?_take_of_lt hj, Array.getElem?_toList]
        have hjc : j < cur.size := by rw [hs]; omega
        have hjf : j < (fl qs).length := by rw [fl_len]; omega
        simp [putCells, Array.getElem?_eq_getElem hjc, hjf]
      · rw [List.getElem?_take_eq_none (by omega), List.getElem?_eq_none (by rw [fl_len]; omega)]
theorem below_sorted {w0 : World} (h : RowKit.Below B w0 w) (hg : B ≤ g) (hgl : g < w.heap.size) (q : Nat) (d : Array Pr) (os : Array Obj) : RowKit.Below B w0 (sortWorldK pc 2 w g 0 q d os) := by
  refine h.trans ⟨rfl, rfl, rfl, ?_, fun k hk => ?_⟩
  · unfold sortWorldK putRowK
    rw [size_grow, size_putRow]; simp
  · unfold sortWorldK putRowK
    rw [heap_grow_old _ _ (by rw [size_putRow]; show k < w.heap.size; omega)]
    simp [putRow, mapBlock, Sort.ahead, Array.getElem?_modify, show g ≠ k by omega]
end

/-! boxes, stores of a pair -/
theorem box_after {w w2 : World} {x y : Int} {T : TypeId} {fr : Nat × Nat} (hb : Bl (w.alloc (.cells #[.int .i64 x, .int .i64 y] T fr)) w2) : w2.cell? ⟨w.heap.size, 0, none⟩ = some (.int .i64 x) ∧ w2.cell? ⟨w.heap.size, 1, none⟩ = some (.int .i64 y) := by
  have h0 := Below.cell hb (p := ⟨w.heap.size, 0, none⟩) (by simp)
  have h1 := Below.cell hb (p := ⟨w.heap.size, 1, none⟩) (by simp)
  rw [h0, h1, cell_of_row _ _ _ _ _ _ (heap_alloc_new w _), cell_of_row _ _ _ _ _ _ (heap_alloc_new w _)]
  exact ⟨rfl, rfl⟩
theorem OwP.put {w : World} {B g n c : Nat} {e : TypeId} {L : List Pr} (h : OwP w B e (some ⟨g, 0, none⟩) n c L) {i : Nat} (hi : i < n) (x y : Int) :
    OwP ((w.setCell ⟨g, i * 2, none⟩ (.int .i64 x)).setCell ⟨g, i * 2 + 1, none⟩ (.int .i64 y)) B e (some ⟨g, 0, none⟩) n c (L.set i (x, y)) := by
  have h1 := h.setLo hi x
  have h2 := h1.setHi hi y
  have hl := h.len
  have e1 : (L.set i (x, (L.getD i (0, 0)).2)).getD i (0, 0) = (x, (L.getD i (0, 0)).2) := by simp [List.getD, show i < L.length by omega]
  rw [e1, List.set_set] at h2
  exact h2
theorem OwP.base {w : World} {B g n c : Nat} {e : TypeId} {L : List Pr} (h : OwP w B e (some ⟨g, 0, none⟩) n c L) : B ≤ w.heap.size := by have := h.blk; omega
theorem Below.put {w0 w : World} {B g : Nat} (h : Below B w0 w) (hg : B ≤ g) (i j : Nat) (u v : Value) : Below B w0 ((w.setCell ⟨g, i, none⟩ u).setCell ⟨g, j, none⟩ v) := Below.setCell (Below.setCell h hg _) hg _
theorem ShP.oneAt (w : World) (x y : Int) (t : TypeId) (fr : Nat × Nat) {g : Nat} (hg : g = w.heap.size) : ShP (w.alloc (.cells #[.int .i64 x, .int .i64 y] t fr)) (w.alloc (.cells #[.int .i64 x, .int .i64 y] t fr)).heap.size (some ⟨g, 0, none⟩) 1 [(x, y)] :=
  ShP.made w t fr [(x, y)] #[.int .i64 x, .int .i64 y] rfl hg

/-! append that tells which blocks it leaves alone -/
/-- the slice does not lie in block k -/
def Off (A : Option Addr) (k : Nat) : Prop := ∀ a, A = some a → a.block ≠ k
theorem Off.none_ (k : Nat) : Off none k := fun a h => by cases h
theorem OwP.off {w : World} {B n c k : Nat} {e : TypeId} {A : Option Addr} {ps : List Pr} (h : OwP w B e A n c ps) (hk : k < B) : Off A k := by
  intro a ha
  subst ha
  rcases h.2 with ⟨hv, _⟩ | ⟨g, cap, cur, hv, hg, _⟩
  · cases hv
  · injection hv with hv _ _
    injection hv with hv
    subst hv
    show g ≠ k
    omega
theorem OwP.offNew {w : World} {B n c : Nat} {e : TypeId} {A : Option Addr} {ps : List Pr} (h : OwP w B e A n c ps) : Off A w.heap.size := by
  intro a ha
  subst ha
  rcases h.2 with ⟨hv, _⟩ | ⟨g, cap, cur, hv, hg, hh, _⟩
  · cases hv
  · injection hv with hv _ _
    injection hv with hv
    subst hv
    show g ≠ w.heap.size
    rcases Nat.lt_or_ge g w.heap.size with h' | h'
    · omega
    · rw [Array.getElem?_eq_none h'] at hh; cases hh
section
variable {P : Program} (w : World)
theorem run_appP_off {t e : TypeId} (hE : ElP P t e) (ty : TypeId) {B : Nat} {A : Option Addr} {n c : Nat} {xs : List Pr} (hown : OwP w B e A n c xs)
    {B' : Nat} {A' : Option Addr} {m c' : Nat} {ys : List Pr} (hr : ShP w B' A' m ys) (hm : 0 < m) (hb : (n + m) * 16 ≤ 140737488355328) (hB : B ≤ w.heap.size) :
    ∃ A'' c'' w', (Builtin.append_ #[t, t] ty #[.slice A n c, .slice A' m c']).run P w = .ok (.slice A'' (n + m) c'') w' ∧ OwP w' B e A'' (n + m) c'' (xs ++ ys) ∧ Below B w w' ∧ ∀ k, k < w.heap.size → Off A k → Off A'' k ∧ w'.heap[k]? = w.heap[k]? := by
  have hl := hr.1
  obtain ⟨b, o, rfl, _, hc⟩ := hr.2 hm
  have hsrc : ∀ j u, (fl ys)[j]? = some u → w.cell? ((⟨b, o, none⟩ : Addr).add j) = some u := by
    intro j u hu
    obtain ⟨i, hil, hcase⟩ := fl_at hu
    rw [add_lit']
    obtain ⟨q1, q2⟩ := hc i (by omega)
    rcases hcase with ⟨rfl, rfl⟩ | ⟨rfl, rfl⟩
    · exact q1
    · rw [← Nat.add_assoc]; exact q2
  obtain ⟨ht, i, hi, hz, hs, hby⟩ := hE
  rcases A with _ | ad
  · have h0 : OwP w w.heap.size e none n c xs := by
      refine ⟨hown.1, ?_⟩
      rcases hown.2 with h0 | ⟨g, cap, cur, hv, _⟩
      · exact .inl h0
      · cases hv
    obtain ⟨v', w', hrun, ho, hg, _⟩ := run_append_own (P := P) w w.heap.size t ty e i (.agg #[.int .i64 0, .int .i64 0]) 2 16 ht hi hz hs hby rfl (by omega) _ n (fl xs) h0 ⟨b, o, none⟩ m c' (fl ys) (by rw [fl_len, hl]) hsrc (fl_one _)
      (by unfold maxLen; omega) hb (Nat.le_refl _)
    obtain ⟨A'', c'', rfl⟩ : ∃ A c, v' = .slice A (n + m) c := by
      rcases ho.2 with ⟨rfl, h0⟩ | ⟨g, cap, cur, rfl, _⟩
      · exact ⟨_, _, by rw [h0]⟩
      · exact ⟨_, _, rfl⟩
    have ho2 : OwP w' w.heap.size e A'' (n + m) c'' (xs ++ ys) := by unfold OwP; rw [fl_app]; exact ho
    exact ⟨A'', c'', w', hrun, ho2.less hB, below_ownP hg hown hB, fun k hk _ => ⟨ho2.off hk, hg.block k hk (by simp [Value.ownBlock])⟩⟩
  · rcases hown.2 with ⟨hv, _⟩ | ⟨g, cap, cur, hv, hgB, hh, hnc, hcm, hcs, htk⟩
    · cases hv
    · injection hv with h1 _ h2
      injection h1 with h1
      subst h1 h2
      by_cases hroom : n + m ≤ c
      · obtain ⟨w', hrun, ho, hg⟩ := run_append_fits (P := P) w B t ty e i 2 ht hi hs g n c (fl xs) hown ⟨b, o, none⟩ m c' (fl ys) (by rw [fl_len, hl]) hsrc (fl_one _) hroom
        exact ⟨some ⟨g, 0, none⟩, c, w', hrun, by unfold OwP; rw [fl_app]; exact ho, below_ownP (A := some ⟨g, 0, none⟩) (n := n) (c := c) hg hown hB, fun k hk hoff => ⟨hoff, hg.block k hk (by
          intro e; injection e with e; exact hoff ⟨g, 0, none⟩ rfl e.symm)⟩⟩
      · have hxl := hown.len
        have hfx := fl_len xs
        obtain ⟨v', w', hrun, ho, hg⟩ := run_append_arg_grows (P := P) w t ty e i (.agg #[.int .i64 0, .int .i64 0]) 2 16 ht hi hz hs hby rfl (by omega) ⟨g, 0, none⟩ n c (fl xs) (by rw [hfx, hxl]) (fun j u hu => by
            have hj : j < n * 2 := by
              rcases Nat.lt_or_ge j (fl xs).length with h' | h'
              · omega
              · rw [List.getElem?_eq_none h'] at hu; cases hu
            rw [add_lit', Nat.zero_add]
            exact (World.ownsRow.cellAt hown j hj).trans hu) ⟨b, o, none⟩ m c' (fl ys) (by rw [fl_len, hl]) hsrc (by omega) (by unfold maxLen; omega) hb
        obtain ⟨A'', c'', rfl⟩ : ∃ A c, v' = .slice A (n + m) c := by
          rcases ho.2 with ⟨rfl, h0⟩ | ⟨g, cap, cur, rfl, _⟩
          · exact ⟨_, _, by rw [h0]⟩
          · exact ⟨_, _, rfl⟩
        have ho2 : OwP w' w.heap.size e A'' (n + m) c'' (xs ++ ys) := by unfold OwP; rw [fl_app]; exact ho
        exact ⟨A'', c'', w', hrun, ho2.less hB, (Below.refl _ _).grown hg hB (fun k hk => by cases hk), fun k hk _ => ⟨ho2.off hk, hg.block k hk (by simp)⟩⟩
theorem wpList_appP_off {ops : Array Oper} {rest : List Oper} {o : Oper} {a : Act} {Q : Exit → Act → World → Prop} (hgd : o.guard = none) (s x : Operand) (t : TypeId)
    (ho : o.op = .call { callee := .builtin .append, args := #[s, x], argTypes := #[t, t] })
    {e : TypeId} (hE : ElP P t e) {B : Nat} {A : Option Addr} {n c : Nat} {xs : List Pr} (hs : a.eval s = .slice A n c) (hown : OwP w B e A n c xs)
    {B' : Nat} {A' : Option Addr} {m c' : Nat} {ys : List Pr} (hx : a.eval x = .slice A' m c') (hr : ShP w B' A' m ys) (hm : 0 < m) (hb : (n + m) * 16 ≤ 140737488355328) (hB : B ≤ w.heap.size)
    (h : ∀ A'' c'' w', OwP w' B e A'' (n + m) c'' (xs ++ ys) → Below B w w' → (∀ k, k < w.heap.size → Off A k → Off A'' k ∧ w'.heap[k]? = w.heap[k]?) → wpList P ops Q rest (a.put o.dst (.slice A'' (n + m) c'')) w') : wpList P ops Q (o :: rest) a w := by
  obtain ⟨A'', c'', w', hrun, h2, h3, h4⟩ := run_appP_off (P := P) w hE o.type hown (c' := c') hr hm hb hB
  refine wpList_plain hgd fun K hK => ?_
  unfold Oper.wp execOp
  simp only [ho, resolve, invoke, builtin, Sem.run_bind, Sem.run_pure, Result.andThen_ok, List.map_toArray, List.map_cons, List.map_nil, hs, hx, hrun]
  exact hK _ _ (h _ _ _ h2 h3 h4)
end
/-- a box of two ints -/
def BxP (w : World) (g : Nat) (x y : Int) (T : TypeId) : Prop := w.heap[g]? = some (.cells #[.int .i64 x, .int .i64 y] T (0, 0))
theorem BxP.new (w : World) (x y : Int) (T : TypeId) {g : Nat} (hg : g = w.heap.size) : BxP (w.alloc (.cells #[.int .i64 x, .int .i64 y] T)) g x y T := by subst hg; exact heap_alloc_new w _
theorem BxP.lt {w : World} {g : Nat} {x y : Int} {T : TypeId} (h : BxP w g x y T) : g < w.heap.size := lt_of_block h
theorem BxP.bl {w w' : World} {g : Nat} {x y : Int} {T : TypeId} (h : BxP w g x y T) (hb : Bl w w') : BxP w' g x y T := (hb.block g h.lt).trans h
theorem BxP.al {w : World} {g : Nat} {x y : Int} {T : TypeId} (h : BxP w g x y T) (o : Obj) : BxP (w.alloc o) g x y T := h.bl ((Bl.refl w).alloc o)
theorem BxP.drewN {w : World} {g : Nat} {x y : Int} {T : TypeId} (h : BxP w g x y T) (n : Nat) : BxP (w.drewN n) g x y T := h
theorem BxP.fst {w : World} {g : Nat} {x y : Int} {T : TypeId} (h : BxP w g x y T) : w.cell? ⟨g, 0, none⟩ = some (.int .i64 x) := by rw [cell_of_row _ _ _ _ _ _ h]; rfl
theorem BxP.snd {w : World} {g : Nat} {x y : Int} {T : TypeId} (h : BxP w g x y T) : w.cell? ⟨g, 1, none⟩ = some (.int .i64 y) := by rw [cell_of_row _ _ _ _ _ _ h]; rfl
theorem BxP.free {w : World} {g : Nat} {x y : Int} {T : TypeId} (h : BxP w g x y T) (i : Nat) : w.frozen? ⟨g, i, none⟩ = false := by simp [World.frozen?, show w.heap[g]? = _ from h]
theorem BxP.setLo {w : World} {g : Nat} {x y : Int} {T : TypeId} (h : BxP w g x y T) (z : Int) : BxP (w.setCell ⟨g, 0, none⟩ (.int .i64 z)) g z y T := by
  have := heap_setCell_same w g 0 _ T (.int .i64 z) h
  exact this
end Go.Proofs.Ytdfnmohgkjonfaa.Wire
