/- Words for slices of structs of two ints, as lists of pairs: what a slice shows, what the call owns, append, a store into one field, arguments. No function of the program. -/
import Derived.Test.YtjdkgndecnhokaaGKit
import Derived.Test.YtjdkgndecnhokaaWArgs
import Derived.Deep.Slices
namespace Go.Proofs.Ytjdkgndecnhokaa.Wire
open Go.ChangeShapes Go.WideShapes Go.ChangeAt Go.RowKit Go.Deep
set_option linter.unusedVariables false

abbrev Pr := Int × Int
def pc (p : Pr) : List Value := [.int .i64 p.1, .int .i64 p.2]
def fl (ps : List Pr) : List Value := ps.flatMap pc
theorem fl_nil : fl [] = [] := rfl
theorem fl_cons (p : Pr) (ps : List Pr) : fl (p :: ps) = .int .i64 p.1 :: .int .i64 p.2 :: fl ps := rfl
theorem fl_app (ps qs : List Pr) : fl (ps ++ qs) = fl ps ++ fl qs := by unfold fl; rw [List.flatMap_append]
theorem fl_len : ∀ ps : List Pr, (fl ps).length = ps.length * 2
  | [] => rfl
  | p :: ps => by rw [fl_cons, List.length_cons, List.length_cons, fl_len ps, List.length_cons]; omega
theorem fl_lo : ∀ (ps : List Pr) (i : Nat), i < ps.length → (fl ps)[i * 2]? = some (.int .i64 (ps.getD i (0, 0)).1)
  | [], _, h => by simp at h
  | p :: ps, 0, _ => rfl
  | p :: ps, i + 1, h => by
    have := fl_lo ps i (by simpa using h)
    rw [fl_cons, show (i + 1) * 2 = i * 2 + 1 + 1 by omega, List.getElem?_cons_succ, List.getElem?_cons_succ, this]
    rfl
theorem fl_hi : ∀ (ps : List Pr) (i : Nat), i < ps.length → (fl ps)[i * 2 + 1]? = some (.int .i64 (ps.getD i (0, 0)).2)
  | [], _, h => by simp at h
  | p :: ps, 0, _ => rfl
  | p :: ps, i + 1, h => by
    have := fl_hi ps i (by simpa using h)
    rw [fl_cons, show (i + 1) * 2 + 1 = i * 2 + 1 + 1 + 1 by omega, List.getElem?_cons_succ, List.getElem?_cons_succ, this]
    rfl
theorem fl_set_hi : ∀ (ps : List Pr) (i : Nat) (y : Int), i < ps.length → (fl ps).set (i * 2 + 1) (.int .i64 y) = fl (ps.set i ((ps.getD i (0, 0)).1, y))
  | [], _, _, h => by simp at h
  | p :: ps, 0, y, _ => rfl
  | p :: ps, i + 1, y, h => by
    have := fl_set_hi ps i y (by simpa using h)
    rw [fl_cons, show (i + 1) * 2 + 1 = i * 2 + 1 + 1 + 1 by omega, List.set_cons_succ, List.set_cons_succ, this]
    rfl
theorem fl_set_lo : ∀ (ps : List Pr) (i : Nat) (y : Int), i < ps.length → (fl ps).set (i * 2) (.int .i64 y) = fl (ps.set i (y, (ps.getD i (0, 0)).2))
  | [], _, _, h => by simp at h
  | p :: ps, 0, y, _ => rfl
  | p :: ps, i + 1, y, h => by
    have := fl_set_lo ps i y (by simpa using h)
    rw [fl_cons, show (i + 1) * 2 = i * 2 + 1 + 1 by omega, List.set_cons_succ, List.set_cons_succ, this]
    rfl
theorem fl_one (ps : List Pr) : ∀ u ∈ fl ps, u.oneCell' = true := by
  intro u hu
  obtain ⟨p, _, hp⟩ := List.mem_flatMap.1 hu
  simp only [pc, List.mem_cons, List.not_mem_nil, or_false] at hp
  rcases hp with rfl | rfl <;> rfl
theorem fl_at {ps : List Pr} {j : Nat} {u : Value} (h : (fl ps)[j]? = some u) : ∃ i, i < ps.length ∧ ((j = i * 2 ∧ u = .int .i64 (ps.getD i (0, 0)).1) ∨ (j = i * 2 + 1 ∧ u = .int .i64 (ps.getD i (0, 0)).2)) := by
  have hl : j < (fl ps).length := by
    rcases Nat.lt_or_ge j (fl ps).length with g | g
    · exact g
    · rw [List.getElem?_eq_none g] at h; cases h
  rw [fl_len] at hl
  refine ⟨j / 2, by omega, ?_⟩
  rcases (show j = j / 2 * 2 ∨ j = j / 2 * 2 + 1 by omega) with e | e
  · have := fl_lo ps (j / 2) (by omega)
    rw [← e, h] at this
    exact .inl ⟨e, Option.some.inj this⟩
  · have := fl_hi ps (j / 2) (by omega)
    rw [← e, h] at this
    exact .inr ⟨e, Option.some.inj this⟩

/-- the slice (A, n) shows the pairs ps, in blocks below B -/
def ShP (w : World) (B : Nat) (A : Option Addr) (n : Nat) (ps : List Pr) : Prop :=
  ps.length = n ∧ (0 < n → ∃ b o, A = some ⟨b, o, none⟩ ∧ b < B ∧ ∀ i, i < n → w.cell? ⟨b, o + i * 2, none⟩ = some (.int .i64 (ps.getD i (0, 0)).1) ∧ w.cell? ⟨b, o + i * 2 + 1, none⟩ = some (.int .i64 (ps.getD i (0, 0)).2))
/-- the slice is the call's own -/
def OwP (w : World) (B : Nat) (e : TypeId) (A : Option Addr) (n c : Nat) (ps : List Pr) : Prop := w.ownsRow B e 2 (.slice A n c) n (fl ps)
/-- the type t is a list of structs of two ints -/
def ElP (P : Program) (t e : TypeId) : Prop :=
  P.underlying t = some (.slice e) ∧ ∃ i, P.info? e = some i ∧ i.zero = some (.agg #[.int .i64 0, .int .i64 0]) ∧ i.size = 2 ∧ i.bytes = 16

section
variable {w w' : World} {B B' n c : Nat} {A : Option Addr} {ps : List Pr} {e : TypeId}
theorem ShP.len (h : ShP w B A n ps) : ps.length = n := h.1
theorem ShP.nil (w : World) (B : Nat) (A : Option Addr) : ShP w B A 0 [] := ⟨rfl, fun h => absurd h (by omega)⟩
theorem ShP.keep (h : ShP w B A n ps) (hk : ∀ p : Addr, p.block < B → w'.cell? p = w.cell? p) : ShP w' B A n ps :=
  ⟨h.1, fun hn => by
    obtain ⟨b, o, e, hb, hc⟩ := h.2 hn
    exact ⟨b, o, e, hb, fun i hi => ⟨(hk _ hb).trans (hc i hi).1, (hk _ hb).trans (hc i hi).2⟩⟩⟩
theorem ShP.below (h : ShP w B A n ps) (hb : Below B w w') : ShP w' B A n ps := h.keep fun _ hp => hb.cell hp
theorem ShP.more (h : ShP w B A n ps) (hB : B ≤ B') : ShP w B' A n ps :=
  ⟨h.1, fun hn => by
    obtain ⟨b, o, e, hb, hc⟩ := h.2 hn
    exact ⟨b, o, e, by omega, hc⟩⟩
theorem ShP.bl (h : ShP w w.heap.size A n ps) (hb : Bl w w') : ShP w' w'.heap.size A n ps := (h.below hb).more hb.size
theorem ShP.al (h : ShP w w.heap.size A n ps) (o : Obj) : ShP (w.alloc o) (w.alloc o).heap.size A n ps := h.bl ((Bl.refl w).alloc o)
theorem ShP.drew (h : ShP w B A n ps) : ShP w.drew B A n ps := h
theorem ShP.drewN (h : ShP w B A n ps) (m : Nat) : ShP (w.drewN m) B A n ps := h
theorem ShP.take {m : Nat} (h : ShP w B A n ps) (hm : m ≤ n) : ShP w B A m (ps.take m) :=
  ⟨by rw [List.length_take, h.1]; omega, fun hn => by
    obtain ⟨b, o, e, hb, hc⟩ := h.2 (by omega)
    refine ⟨b, o, e, hb, fun i hi => ?_⟩
    have := hc i (by omega)
    simpa [List.getD, List.getElem?_take_of_lt hi] using this⟩
theorem ShP.made (w : World) (t : TypeId) (fr : Nat × Nat) (ps : List Pr) (cs : Array Value) (h : cs = (fl ps).toArray) {g : Nat} (hg : g = w.heap.size) :
    ShP (w.alloc (.cells cs t fr)) (w.alloc (.cells cs t fr)).heap.size (some ⟨g, 0, none⟩) ps.length ps := by
  subst hg
  refine ⟨rfl, fun _ => ⟨_, _, rfl, by simp, fun i hi => ?_⟩⟩
  rw [cell_of_row _ _ _ _ _ _ (heap_alloc_new w _), cell_of_row _ _ _ _ _ _ (heap_alloc_new w _), h]
  constructor
  · have := fl_lo ps i hi; simpa using this
  · have := fl_hi ps i hi; simpa using this
theorem ShP.one (w : World) (x y : Int) (t : TypeId) : ShP (w.alloc (.cells #[.int .i64 x, .int .i64 y] t)) (w.heap.size + 1) (some ⟨w.heap.size, 0, none⟩) 1 [(x, y)] := by
  have := ShP.made w t (0, 0) [(x, y)] #[.int .i64 x, .int .i64 y] rfl rfl
  simpa using this

theorem OwP.len (h : OwP w B e A n c ps) : ps.length = n := by have := h.1; rw [fl_len] at this; omega
theorem OwP.cap (h : OwP w B e A n c ps) : n ≤ c := by
  rcases h.2 with ⟨hv, h0⟩ | ⟨g, cap, cur, hv, _, _, hnc, _⟩
  · omega
  · injection hv with _ _ h2; omega
theorem OwP.form (h : OwP w B e A n c ps) (hn : 0 < n) : ∃ g, A = some ⟨g, 0, none⟩ ∧ B ≤ g ∧ g < w.heap.size := by
  rcases h.2 with ⟨_, h0⟩ | ⟨g, cap, cur, hv, hg, hh, _⟩
  · omega
  · injection hv with hA _ _
    refine ⟨g, hA, hg, ?_⟩
    rcases Nat.lt_or_ge g w.heap.size with hlt | hge
    · exact hlt
    · rw [Array.getElem?_eq_none hge] at hh; cases hh
theorem OwP.sh (h : OwP w B e A n c ps) : ShP w w.heap.size A n ps := by
  have hl := h.len
  refine ⟨hl, fun hn => ?_⟩
  obtain ⟨g, rfl, _, hg⟩ := h.form hn
  refine ⟨g, 0, rfl, hg, fun i hi => ?_⟩
  have h1 := World.ownsRow.cellAt h (i * 2) (by omega)
  have h2 := World.ownsRow.cellAt h (i * 2 + 1) (by omega)
  rw [fl_lo ps i (by omega)] at h1
  rw [fl_hi ps i (by omega)] at h2
  exact ⟨by simpa using h1, by simpa using h2⟩
theorem OwP.none_ (w : World) (B : Nat) (e : TypeId) : OwP w B e none 0 0 [] := World.ownsRow_nil _ _ _ _
theorem OwP.alloc (h : OwP w B e A n c ps) (o : Obj) : OwP (w.alloc o) B e A n c ps := World.ownsRow.alloc h o
theorem OwP.below (h : OwP w B e A n c ps) (hb : Below w.heap.size w w') : OwP w' B e A n c ps := by
  refine ⟨h.1, ?_⟩
  rcases h.2 with h0 | ⟨g, cap, cur, hv, hg, hh, hr⟩
  · exact .inl h0
  · refine .inr ⟨g, cap, cur, hv, hg, ?_, hr⟩
    rw [hb.block g ?_, hh]
    rcases Nat.lt_or_ge g w.heap.size with hlt | hge
    · exact hlt
    · rw [Array.getElem?_eq_none hge] at hh; cases hh
theorem OwP.drewN (h : OwP w B e A n c ps) (m : Nat) : OwP (w.drewN m) B e A n c ps := h
theorem OwP.drew (h : OwP w B e A n c ps) : OwP w.drew B e A n c ps := h
theorem OwP.less (h : OwP w B e A n c ps) (hB : B' ≤ B) : OwP w B' e A n c ps := by
  refine ⟨h.1, ?_⟩
  rcases h.2 with h0 | ⟨g, cap, cur, hv, hg, hr⟩
  · exact .inl h0
  · exact .inr ⟨g, cap, cur, hv, by omega, hr⟩
theorem OwP.lo {g : Nat} (h : OwP w B e (some ⟨g, 0, none⟩) n c ps) {j : Nat} (hj : j < n) : w.cell? ⟨g, j * 2, none⟩ = some (.int .i64 (ps.getD j (0, 0)).1) :=
  (World.ownsRow.cellAt h (j * 2) (by omega)).trans (fl_lo ps j (by rw [h.len]; exact hj))
theorem OwP.hi {g : Nat} (h : OwP w B e (some ⟨g, 0, none⟩) n c ps) {j : Nat} (hj : j < n) : w.cell? ⟨g, j * 2 + 1, none⟩ = some (.int .i64 (ps.getD j (0, 0)).2) :=
  (World.ownsRow.cellAt h (j * 2 + 1) (by omega)).trans (fl_hi ps j (by rw [h.len]; exact hj))
theorem OwP.free {g : Nat} (h : OwP w B e (some ⟨g, 0, none⟩) n c ps) (j : Nat) : w.frozen? ⟨g, j, none⟩ = false := World.ownsRow.frozenAt h j
theorem OwP.setHi {g : Nat} (h : OwP w B e (some ⟨g, 0, none⟩) n c ps) {j : Nat} (hj : j < n) (y : Int) : OwP (w.setCell ⟨g, j * 2 + 1, none⟩ (.int .i64 y)) B e (some ⟨g, 0, none⟩) n c (ps.set j ((ps.getD j (0, 0)).1, y)) := by
  have := (World.ownsRow.stored h (j * 2 + 1) (.int .i64 y)).1
  unfold OwP
  rw [← fl_set_hi ps j y (by rw [h.len]; exact hj)]
  exact this
theorem OwP.setLo {g : Nat} (h : OwP w B e (some ⟨g, 0, none⟩) n c ps) {j : Nat} (hj : j < n) (y : Int) : OwP (w.setCell ⟨g, j * 2, none⟩ (.int .i64 y)) B e (some ⟨g, 0, none⟩) n c (ps.set j (y, (ps.getD j (0, 0)).2)) := by
  have := (World.ownsRow.stored h (j * 2) (.int .i64 y)).1
  unfold OwP
  rw [← fl_set_lo ps j y (by rw [h.len]; exact hj)]
  exact this
theorem below_ownP (hg : w.grownBy w' (Value.slice A n c).ownBlock) (h : OwP w B e A n c ps) (hB : B ≤ w.heap.size) : Below B w w' :=
  (Below.refl B w).grown hg hB fun g hk => by
    rcases h.2 with ⟨hv, _⟩ | ⟨g', cap, cur, hv, hg', _⟩
    · rw [hv] at hk; simp [Value.ownBlock] at hk
    · rw [hv] at hk; simp [Value.ownBlock] at hk; omega
end

/-- the answer is a slice that shows ps, in new memory -/
def OutP (w : World) (ps : List Pr) (e : Ending) (w' : World) : Prop :=
  ∃ A' c', e = .returned (.slice A' ps.length c') ∧ ShP w' w'.heap.size A' ps.length ps ∧ ps.length ≤ c' ∧ Bl w w'
theorem OwP.out {w w' : World} {B n c : Nat} {A : Option Addr} {ps : List Pr} {e : TypeId} (h : OwP w' B e A n c ps) (hb : Bl w w') : OutP w ps (.returned (.slice A n c)) w' := by
  have hc := h.cap
  obtain rfl := h.len
  exact ⟨A, c, rfl, h.sh, hc, hb⟩

section
variable {P : Program} (w : World)
theorem run_appP_own {t e : TypeId} (hE : ElP P t e) (ty : TypeId) {B : Nat} {A : Option Addr} {n c : Nat} {xs : List Pr} (hown : OwP w B e A n c xs)
    {B' : Nat} {A' : Option Addr} {m c' : Nat} {ys : List Pr} (hr : ShP w B' A' m ys) (hb : (n + m) * 16 ≤ 140737488355328) (hB : B ≤ w.heap.size) :
    ∃ A'' c'' w', (Builtin.append_ #[t, t] ty #[.slice A n c, .slice A' m c']).run P w = .ok (.slice A'' (n + m) c'') w' ∧ OwP w' B e A'' (n + m) c'' (xs ++ ys) ∧ Below B w w' := by
  obtain ⟨ht, i, hi, hz, hs, hby⟩ := hE
  rcases A' with _ | ad
  · have hm : m = 0 := by
      rcases Nat.eq_zero_or_pos m with h0 | h0
      · exact h0
      · obtain ⟨_, _, h, _⟩ := hr.2 h0; cases h
    subst hm
    have hy : ys = [] := List.eq_nil_of_length_eq_zero hr.1
    subst hy
    refine ⟨A, c, w, ?_, by simpa using hown, Below.refl _ _⟩
    rcases hown.2 with ⟨hv, h0⟩ | ⟨g, cap, cur, hv, _, _, hnc, _⟩
    · injection hv with h1 _ h2
      subst h1 h2 h0
      simp [Builtin.append_, run_underlying ht, sizeOf, typeInfo, hi, Builtin.lenOf, Builtin.firstCells]
    · injection hv with h1 _ h2
      subst h1 h2
      simp [Builtin.append_, run_underlying ht, sizeOf, typeInfo, hi, Builtin.lenOf, Builtin.firstCells, hnc, storeCells]
  · have hc : ∀ j u, (fl ys)[j]? = some u → w.cell? (ad.add j) = some u := by
      intro j u hu
      obtain ⟨i, hil, hcase⟩ := fl_at hu
      have hl := hr.1
      obtain ⟨b, o, h, _, hc⟩ := hr.2 (by omega)
      injection h with h
      subst h
      rw [add_lit']
      obtain ⟨q1, q2⟩ := hc i (by omega)
      rcases hcase with ⟨rfl, rfl⟩ | ⟨rfl, rfl⟩
      · exact q1
      · rw [← Nat.add_assoc]; exact q2
    obtain ⟨v', w', hrun, ho, hg, _⟩ := run_append_own (P := P) w B t ty e i (.agg #[.int .i64 0, .int .i64 0]) 2 16 ht hi hz hs hby rfl (by omega) (.slice A n c) n (fl xs) hown ad m c' (fl ys) (by rw [fl_len, hr.1]) hc (fl_one _)
      (by unfold maxLen; omega) hb hB
    obtain ⟨A'', c'', rfl⟩ : ∃ A c, v' = .slice A (n + m) c := by
      rcases ho.2 with ⟨rfl, h0⟩ | ⟨g, cap, cur, rfl, _⟩
      · exact ⟨_, _, by rw [h0]⟩
      · exact ⟨_, _, rfl⟩
    exact ⟨A'', c'', w', hrun, by unfold OwP; rw [fl_app]; exact ho, below_ownP hg hown hB⟩
theorem wpList_appP_own {ops : Array Oper} {rest : List Oper} {o : Oper} {a : Act} {Q : Exit → Act → World → Prop} (hgd : o.guard = none) (s x : Operand) (t : TypeId)
    (ho : o.op = .call { callee := .builtin .append, args := #[s, x], argTypes := #[t, t] })
    {e : TypeId} (hE : ElP P t e) {B : Nat} {A : Option Addr} {n c : Nat} {xs : List Pr} (hs : a.eval s = .slice A n c) (hown : OwP w B e A n c xs)
    {B' : Nat} {A' : Option Addr} {m c' : Nat} {ys : List Pr} (hx : a.eval x = .slice A' m c') (hr : ShP w B' A' m ys) (hb : (n + m) * 16 ≤ 140737488355328) (hB : B ≤ w.heap.size)
    (h : ∀ A'' c'' w', OwP w' B e A'' (n + m) c'' (xs ++ ys) → Below B w w' → wpList P ops Q rest (a.put o.dst (.slice A'' (n + m) c'')) w') : wpList P ops Q (o :: rest) a w := by
  obtain ⟨A'', c'', w', hrun, h2, h3⟩ := run_appP_own (P := P) w hE o.type hown (c' := c') hr hb hB
  refine wpList_plain hgd fun K hK => ?_
  unfold Oper.wp execOp
  simp only [ho, resolve, invoke, builtin, Sem.run_bind, Sem.run_pure, Result.andThen_ok, List.map_toArray, List.map_cons, List.map_nil, hs, hx, hrun]
  exact hK _ _ (h _ _ _ h2 h3)
theorem step_appP_own {ops : Array Oper} {o : Oper} {a : Act} {K : Act → World → Prop} {Q : Exit → Act → World → Prop} {E : Prop} (hgd : o.guard = none) (s x : Operand) (t : TypeId)
    (ho : o.op = .call { callee := .builtin .append, args := #[s, x], argTypes := #[t, t] })
    {e : TypeId} (hE : ElP P t e) {B : Nat} {A : Option Addr} {n c : Nat} {xs : List Pr} (hs : a.eval s = .slice A n c) (hown : OwP w B e A n c xs)
    {B' : Nat} {A' : Option Addr} {m c' : Nat} {ys : List Pr} (hx : a.eval x = .slice A' m c') (hr : ShP w B' A' m ys) (hb : (n + m) * 16 ≤ 140737488355328) (hB : B ≤ w.heap.size)
    (h : ∀ A'' c'' w', OwP w' B e A'' (n + m) c'' (xs ++ ys) → Below B w w' → K (a.put o.dst (.slice A'' (n + m) c'')) w') :
    if Region.wanted o (yielded ops a.tmps) = true then Oper.wp P o a w K Q else E := by
  obtain ⟨A'', c'', w', hrun, h2, h3⟩ := run_appP_own (P := P) w hE o.type hown (c' := c') hr hb hB
  have hw : Region.wanted o (yielded ops a.tmps) = true := by simp [Region.wanted, hgd]
  rw [if_pos hw]
  unfold Oper.wp execOp
  simp only [ho, resolve, invoke, builtin, Sem.run_bind, Sem.run_pure, Result.andThen_ok, List.map_toArray, List.map_cons, List.map_nil, hs, hx, hrun]
  exact h _ _ _ h2 h3
end

/-! arguments -/
def okp (l : List Pr) : Prop := ∀ p ∈ l, (-9223372036854775808 ≤ p.1 ∧ p.1 ≤ 9223372036854775807) ∧ (-9223372036854775808 ≤ p.2 ∧ p.2 ≤ 9223372036854775807)
theorem okp_at {l : List Pr} (h : okp l) (k : Nat) : (-9223372036854775808 ≤ (l.getD k (0, 0)).1 ∧ (l.getD k (0, 0)).1 ≤ 9223372036854775807) ∧ (-9223372036854775808 ≤ (l.getD k (0, 0)).2 ∧ (l.getD k (0, 0)).2 ≤ 9223372036854775807) := by
  rcases Nat.lt_or_ge k l.length with g | g
  · have : l.getD k (0, 0) = l[k] := by simp [List.getD, List.getElem?_eq_getElem g]
    rw [this]; exact h _ (List.getElem_mem _)
  · have : l.getD k (0, 0) = (0, 0) := by simp [List.getD, List.getElem?_eq_none g]
    rw [this]; decide
theorem list_ofP {α : Type} {P : Nat → α → Prop} : ∀ n : Nat, (∀ i, i < n → ∃ x, P i x) → ∃ l : List α, l.length = n ∧ ∀ i (h : i < l.length), P i l[i]
  | 0, _ => ⟨[], rfl, fun i h => by simp at h⟩
  | n + 1, h => by
    obtain ⟨l, hl, hi⟩ := list_ofP n (fun i hin => h i (by omega))
    obtain ⟨x, hx⟩ := h n (by omega)
    refine ⟨l ++ [x], by simp [hl], fun i hin => ?_⟩
    rw [List.length_append, List.length_singleton] at hin
    by_cases e : i < l.length
    · rw [List.getElem_append_left e]; exact hi i e
    · have : i = n := by omega
      subst this
      rw [List.getElem_append_right (by omega)]
      simpa using hx
section
variable {H : Type} {enc : TypeId × Value → H} {W : World}
theorem bulk_len : ∀ l : List (DataW H), l.length ≤ Rows.uptoBulkAll l
  | [] => by simp [Rows.uptoBulkAll]
  | y :: r => by
    have := bulk_len r
    have h1 : 1 ≤ Rows.uptoBulk y := by
      cases y with
      | lit q => cases q <;> simp [Rows.uptoBulk]
      | _ => simp [Rows.uptoBulk]
    simp only [Rows.uptoBulkAll, List.length_cons]; omega
theorem open_pairs {base : Nat} {t e : TypeId} {f0 f1 : Field} {v : Value} {d : DataW H} {p : List MemPlace} (ht : Try.prog.underlying t = some (.slice e)) (he : Try.prog.underlying e = some (.struct #[f0, f1])) (hC : Try.prog.cellsOf e = 2)
    (h0 : f0.type = 3 ∧ f0.offset = 0) (h1 : f1.type = 3 ∧ f1.offset = 1)
    (hval : Value.okWide Try.prog W .any base t v) (h : DataW.Trod enc Try.prog W 0 (fun _ => true) true t v d p) :
    ∃ (a : Option Addr) (len cap : Nat) (ps : List Pr), v = .slice a len cap ∧ len ≤ cap ∧ cap ≤ maxLen ∧ ShP W W.heap.size a len ps ∧ okp ps ∧ cap ≤ Rows.uptoBulk d ∧
      ((d = .nil ∧ cap = 0) ∨ ∃ el sp, d = .slice el sp ∧ el.length + sp.length = cap) ∧ ∀ x ∈ p, x.block < W.heap.size := by
  have hlt : ∀ x ∈ p, x.block < W.heap.size := by obtain ⟨m, hm⟩ := h; exact DataW.trod_lt m _ _ _ hm
  obtain ⟨a, len, cap, rfl⟩ := okWide_slice ht hval
  obtain ⟨fuel, hf⟩ := h
  have k3 : Try.prog.cellsOf 3 = 1 := by kernel_rfl
  rcases open_slice ht hf with ⟨hcs, hx⟩ | ⟨ad, l, c, m, n, D, Pl, hcs, _, hlc, hm, hmm, hx, hi⟩
  · simp [Value.cells] at hcs
    obtain ⟨rfl, rfl, rfl⟩ := hcs
    injection hx with hx1 _
    exact ⟨none, 0, 0, [], rfl, Nat.le_refl _, by decide, ShP.nil _ _ _, (fun x hx => by cases hx), by omega, .inl ⟨hx1, rfl⟩, hlt⟩
  · simp [Value.cells] at hcs
    obtain ⟨rfl, rfl, rfl⟩ := hcs
    simp only [if_true] at hmm
    injection hx with hx1 _
    rw [hC] at hi
    have key : ∀ i, i < len → ∃ x : Pr, (W.cell? ((ad.add (i * 2)).add 0) = some (.int .i64 x.1) ∧ W.cell? ((ad.add (i * 2)).add 1) = some (.int .i64 x.2)) ∧ ((-9223372036854775808 ≤ x.1 ∧ x.1 ≤ 9223372036854775807) ∧ (-9223372036854775808 ≤ x.2 ∧ x.2 ≤ 9223372036854775807)) := fun i hil => by
      obtain ⟨cs, hc, htt⟩ := hi i (by omega)
      obtain ⟨_, hlen, hat⟩ := World.cells?_some hc
      obtain ⟨xs, m', hn, hy, hl4, hsz, hff⟩ := DataW.trod_struct he htt
      match cs, hlen with
      | [c0, c1], _ =>
        match xs, hsz with
        | [x0, x1], _ =>
          have g0 : DataW.trod enc Try.prog W 0 (fun _ => true) true m' f0.type (([c0, c1].drop f0.offset).take (Try.prog.cellsOf f0.type)) = [x0, x1][0]? := hff 0 _ rfl
          have g1 : DataW.trod enc Try.prog W 0 (fun _ => true) true m' f1.type (([c0, c1].drop f1.offset).take (Try.prog.cellsOf f1.type)) = [x0, x1][1]? := hff 1 _ rfl
          rw [h0.1, h0.2, k3] at g0
          rw [h1.1, h1.2, k3] at g1
          replace g0 : DataW.trod enc Try.prog W 0 (fun _ => true) true m' 3 [c0] = some x0 := g0
          replace g1 : DataW.trod enc Try.prog W 0 (fun _ => true) true m' 3 [c1] = some x1 := g1
          obtain ⟨v0, e0, r0, w0⟩ := DataW.trod_int Try.underlying3 g0
          obtain ⟨v1, e1, r1, w1⟩ := DataW.trod_int Try.underlying3 g1
          have q0 := hat 0 (by omega)
          have q1 := hat 1 (by omega)
          simp only [List.getElem?_cons_zero, List.getElem?_cons_succ] at q0 q1
          injection e0 with e0 _
          injection e1 with e1 _
          subst e0 e1
          exact ⟨(v0, v1), ⟨q0, q1⟩, wf_i64 w0, wf_i64 w1⟩
    obtain ⟨ps, hl, hps⟩ := list_ofP len key
    refine ⟨some ad, len, cap, ps, rfl, hlc, hm, ⟨hl, fun hn => ?_⟩, fun x hxm => ?_, ?_, ?_, hlt⟩
    · obtain ⟨⟨q0, _⟩, _⟩ := hps 0 (by omega)
      obtain ⟨b, o, spot⟩ := ad
      have hspot : spot = none := by simpa [Addr.add] using World.cell?_spot q0
      subst hspot
      have hblk := World.block_lt_of_cell? _ _ q0
      rw [add_lit', add_lit'] at hblk
      refine ⟨b, o, rfl, hblk, fun i hil => ?_⟩
      obtain ⟨⟨q0, q1⟩, _⟩ := hps i (by omega)
      rw [add_lit', add_lit'] at q0 q1
      have hg : ps.getD i (0, 0) = ps[i]'(by omega) := by simp [List.getD, List.getElem?_eq_getElem (show i < ps.length by omega)]
      rw [hg]
      exact ⟨by simpa using q0, q1⟩
    · obtain ⟨i, hil, rfl⟩ := List.getElem_of_mem hxm
      exact (hps i hil).2
    · rw [hx1]
      have b1 := bulk_len ((List.range len).map D)
      have b2 := bulk_len ((List.range (m - len)).map fun j => D (len + j))
      rw [List.length_map, List.length_range] at b1 b2
      simp only [Rows.uptoBulk]; omega
    · exact .inr ⟨_, _, hx1, by rw [List.length_map, List.length_range, List.length_map, List.length_range]; omega⟩
theorem reach_pairs {ts : List TypeId} {ds : List (DataW H)} (hsz : (DataW.weightsEach Try.prog ts ds).all (· ≤ reachBytes) = true) {j : Nat} {t e : TypeId} {cap : Nat} {d : DataW H}
    (ht : ts[j]? = some t) (hj : ds[j]? = some d) (hu : Try.prog.underlying t = some (.slice e)) (hb : Try.prog.bytesOf e = 16)
    (hd : (d = .nil ∧ cap = 0) ∨ ∃ el sp, d = .slice el sp ∧ el.length + sp.length = cap) : cap * 16 ≤ 140737488351232 := by
  rcases hd with ⟨_, rfl⟩ | ⟨el, sp, rfl, rfl⟩
  · omega
  · have := sized_slice hsz ht hj hu
    rw [hb] at this
    exact this
end
end Go.Proofs.Ytjdkgndecnhokaa.Wire
