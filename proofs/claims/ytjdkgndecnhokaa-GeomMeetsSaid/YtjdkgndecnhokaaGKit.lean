/- Words for every layer: worlds that only drew, worlds with new blocks alone, slices carried along, bytes as a string. No function of the program. -/
import Derived.Test.YtjdkgndecnhokaaWWords
import Derived.Laws.BytesArg
import Derived.RegionTactic
namespace Go.Proofs.Ytjdkgndecnhokaa.Wire
open Go.RowKit
set_option linter.unusedVariables false

def byts (l : List Int) : Prop := ∀ x ∈ l, 0 ≤ x ∧ x ≤ 255
theorem byts_of {l : List Int} (h : (l.all fun x => decide (0 ≤ x ∧ x ≤ 255)) = true) : byts l := by
  intro x hx
  have := List.all_eq_true.1 h x hx
  simpa using this
theorem byts_take {l : List Int} (h : byts l) (k : Nat) : byts (l.take k) := fun x hx => h x (List.mem_of_mem_take hx)
theorem byts_drop {l : List Int} (h : byts l) (k : Nat) : byts (l.drop k) := fun x hx => h x (List.mem_of_mem_drop hx)
theorem byts_app {l m : List Int} (h : byts l) (g : byts m) : byts (l ++ m) := by
  intro x hx
  rcases List.mem_append.1 hx with a | a
  · exact h x a
  · exact g x a
theorem byts_at {l : List Int} (h : byts l) (k : Nat) : 0 ≤ l.getD k 0 ∧ l.getD k 0 ≤ 255 := by
  rcases Nat.lt_or_ge k l.length with g | g
  · have : l.getD k 0 = l[k] := by simp [List.getD, List.getElem?_eq_getElem g]
    rw [this]; exact h _ (List.getElem_mem _)
  · have : l.getD k 0 = 0 := by simp [List.getD, List.getElem?_eq_none g]
    rw [this]; decide
theorem take_snoc {l : List Int} {i : Nat} (h : i < l.length) : l.take (i + 1) = l.take i ++ [l.getD i 0] := by
  rw [List.take_succ_eq_append_getElem h]
  simp [List.getD, List.getElem?_eq_getElem h]
theorem take_all {l : List Int} {n : Nat} (h : l.length ≤ n) : l.take n = l := List.take_of_length_le h

theorem ret1 {k : IntKind} {a b : Int} (h : a = b) : Ending.returned (.int k a) = .returned (.int k b) := by rw [h]
theorem retB {a b : Bool} (h : a = b) : Ending.returned (.bool a) = .returned (.bool b) := by rw [h]
theorem retS {a b : ByteArray} (h : a = b) : Ending.returned (.string a) = .returned (.string b) := by rw [h]

/-- only draws -/
def Q (w w' : World) : Prop := ∃ n, w' = w.drewN n
theorem Q.refl (w : World) : Q w w := ⟨0, rfl⟩
theorem Q.drewN {w w1 : World} (h : Q w w1) (n : Nat) : Q w (w1.drewN n) := by
  obtain ⟨m, rfl⟩ := h
  exact ⟨m + n, by rw [World.drewN_drewN]⟩
theorem Q.trans {w w1 w2 : World} (h : Q w w1) (g : Q w1 w2) : Q w w2 := by
  obtain ⟨n, rfl⟩ := g
  exact h.drewN n
theorem Q.below {w w' : World} (h : Q w w') (B : Nat) : Below B w w' := by
  obtain ⟨n, rfl⟩ := h
  exact below_drewN (Below.refl _ _) n

/-- new blocks alone -/
def Bl (w w' : World) : Prop := Below w.heap.size w w'
theorem Bl.refl (w : World) : Bl w w := Below.refl _ _
theorem Bl.alloc {w w1 : World} (h : Bl w w1) (o : Obj) : Bl w (w1.alloc o) := Below.alloc h h.size o
theorem Bl.trans {w w1 w2 : World} (h : Bl w w1) (g : Bl w1 w2) : Bl w w2 := Below.trans h (g.mono h.size)
theorem Bl.q {w w1 w2 : World} (h : Bl w w1) (g : Q w1 w2) : Bl w w2 := by
  obtain ⟨n, rfl⟩ := g
  exact below_drewN h n
theorem Bl.drew {w w1 : World} (h : Bl w w1) : Bl w w1.drew := Below.drew h
theorem Bl.drewN {w w1 : World} (h : Bl w w1) (n : Nat) : Bl w (w1.drewN n) := below_drewN h n
theorem Q.bl {w w' : World} (h : Q w w') : Bl w w' := (Bl.refl w).q h

theorem Sh.made (w : World) (k : IntKind) (t : TypeId) (xs : List Int) (cs : Array Value) (h : cs = (iv k xs).toArray) {g : Nat} (hg : g = w.heap.size) :
    Sh (w.alloc (.cells cs t)) (w.alloc (.cells cs t)).heap.size k (some ⟨g, 0, none⟩) xs.length xs := by
  subst hg
  refine ⟨rfl, fun _ => ⟨_, _, rfl, by simp, fun i hi => ?_⟩⟩
  rw [Nat.zero_add, cell_of_row _ _ _ _ _ _ (heap_alloc_new w _), h]
  simpa using iv_at hi
theorem Sh.madeF (w : World) (k : IntKind) (t : TypeId) (fr : Nat × Nat) (xs : List Int) (cs : Array Value) (h : cs = (iv k xs).toArray) {g : Nat} (hg : g = w.heap.size) :
    Sh (w.alloc (.cells cs t fr)) (w.alloc (.cells cs t fr)).heap.size k (some ⟨g, 0, none⟩) xs.length xs := by
  subst hg
  refine ⟨rfl, fun _ => ⟨_, _, rfl, by simp, fun i hi => ?_⟩⟩
  rw [Nat.zero_add, cell_of_row _ _ _ _ _ _ (heap_alloc_new w _), h]
  simpa using iv_at hi
theorem Sh.bl {w w' : World} {k : IntKind} {A : Option Addr} {n : Nat} {xs : List Int} (h : Sh w w.heap.size k A n xs) (hb : Bl w w') : Sh w' w'.heap.size k A n xs := (h.below hb).more hb.size
theorem Sh.al {w : World} {k : IntKind} {A : Option Addr} {n : Nat} {xs : List Int} (h : Sh w w.heap.size k A n xs) (o : Obj) : Sh (w.alloc o) (w.alloc o).heap.size k A n xs := (h.alloc (Nat.le_refl _) o).more (by simp)
theorem Sh.drew {w : World} {B n : Nat} {k : IntKind} {A : Option Addr} {xs : List Int} (h : Sh w B k A n xs) : Sh w.drew B k A n xs := h
theorem Ow.drew {w : World} {B n c : Nat} {k : IntKind} {A : Option Addr} {xs : List Int} {e : TypeId} (h : Ow w B e k A n c xs) : Ow w.drew B e k A n c xs := h
theorem ow_cap {w : World} {B n c : Nat} {k : IntKind} {A : Option Addr} {xs : List Int} {e : TypeId} (h : Ow w B e k A n c xs) : n ≤ c := by
  rcases h.2 with ⟨hv, h0⟩ | ⟨g, cap, cur, hv, _, _, hnc, _⟩
  · omega
  · injection hv with _ _ h2; omega
theorem Ow.form {w : World} {B n c : Nat} {k : IntKind} {A : Option Addr} {xs : List Int} {e : TypeId} (h : Ow w B e k A n c xs) (hn : 0 < n) : ∃ g, A = some ⟨g, 0, none⟩ ∧ B ≤ g := by
  rcases h.2 with ⟨_, h0⟩ | ⟨g, cap, cur, hv, hg, _⟩
  · omega
  · injection hv with hA _ _
    exact ⟨g, hA, hg⟩
theorem Ow.cellAt {w : World} {B n c g : Nat} {k : IntKind} {xs : List Int} {e : TypeId} (h : Ow w B e k (some ⟨g, 0, none⟩) n c xs) {j : Nat} (hj : j < n) : w.cell? ⟨g, j, none⟩ = some (.int k (xs.getD j 0)) :=
  (World.ownsRow.cellAt h j (by omega)).trans (iv_at (by rw [h.len]; exact hj))
theorem Ow.free {w : World} {B n c g : Nat} {k : IntKind} {xs : List Int} {e : TypeId} (h : Ow w B e k (some ⟨g, 0, none⟩) n c xs) (j : Nat) : w.frozen? ⟨g, j, none⟩ = false := World.ownsRow.frozenAt h j
theorem Ow.set {w : World} {B n c g : Nat} {k : IntKind} {xs : List Int} {e : TypeId} (h : Ow w B e k (some ⟨g, 0, none⟩) n c xs) (j : Nat) (y : Int) : Ow (w.setCell ⟨g, j, none⟩ (.int k y)) B e k (some ⟨g, 0, none⟩) n c (xs.set j y) := by
  have := (World.ownsRow.stored h j (.int k y)).1
  unfold Ow iv
  rw [List.map_set]
  exact this
/-- the answer is a slice that shows zs, in new memory -/
def Out2 (w : World) (k : IntKind) (zs : List Int) (e : Ending) (w' : World) : Prop :=
  ∃ A' c', e = .returned (.slice A' zs.length c') ∧ Sh w' w'.heap.size k A' zs.length zs ∧ zs.length ≤ c' ∧ Bl w w'
theorem Ow.out {w w' : World} {B n c : Nat} {k : IntKind} {A : Option Addr} {xs : List Int} {e : TypeId} (h : Ow w' B e k A n c xs) (hb : Bl w w') : Out2 w k xs (.returned (.slice A n c)) w' := by
  have hc := ow_cap h
  obtain rfl := h.len
  exact ⟨A, c, rfl, h.sh, hc, hb⟩

/-- the same, with the length by another name -/
def OutN (w : World) (k : IntKind) (n : Nat) (zs : List Int) (e : Ending) (w' : World) : Prop :=
  ∃ A' c', e = .returned (.slice A' n c') ∧ Sh w' w'.heap.size k A' n zs ∧ n ≤ c' ∧ Bl w w'
theorem Out2.at {w w' : World} {k : IntKind} {n : Nat} {zs : List Int} {e : Ending} (h : Out2 w k zs e w') (hl : zs.length = n) : OutN w k n zs e w' := by
  subst hl; exact h

theorem quiet_same {P : Program} {f : FuncId} {args : Array Value} {w W : World} {v : Value} (hW : ∃ m, W = w.drewN m)
    (h : Calls P f args W fun e w' => e = .returned v ∧ W = w') : Calls P f args W fun e w' => e = .returned v ∧ ∃ m, w' = w.drewN m :=
  h.mono fun e w' ⟨he, hw⟩ => ⟨he, by obtain ⟨m, rfl⟩ := hW; exact ⟨m, hw.symm⟩⟩
theorem quiet_q {P : Program} {f : FuncId} {args : Array Value} {w W : World} {v : Value} (hW : ∃ m, W = w.drewN m)
    (h : Calls P f args W fun e w' => e = .returned v ∧ Q W w') : Calls P f args W fun e w' => e = .returned v ∧ ∃ m, w' = w.drewN m :=
  h.mono fun e w' ⟨he, n, hw⟩ => ⟨he, by obtain ⟨m, rfl⟩ := hW; exact ⟨m + n, by rw [hw, World.drewN_drewN]⟩⟩

/-- append of the slice x onto the slice s, which is the call's own, at a step of a region that draws its order -/
theorem step_app_own {P : Program} (w : World) {ops : Array Oper} {o : Oper} {a : Act} {K : Act → World → Prop} {Q : Exit → Act → World → Prop} {E : Prop} (hgd : o.guard = none) (s x : Operand) (t : TypeId)
    (ho : o.op = .call { callee := .builtin .append, args := #[s, x], argTypes := #[t, t] })
    {e : TypeId} {k : IntKind} {bytes : Nat} (hE : El P t e k bytes) {B : Nat} {A : Option Addr} {n c : Nat} {xs : List Int} (hs : a.eval s = .slice A n c) (hown : Ow w B e k A n c xs)
    {B' : Nat} {A' : Option Addr} {m c' : Nat} {ys : List Int} (hx : a.eval x = .slice A' m c') (hr : Sh w B' k A' m ys) (hb : (n + m) * bytes ≤ 140737488355328) (h63 : n + m ≤ 140737488355328) (hB : B ≤ w.heap.size)
    (h : ∀ A'' c'' w', Ow w' B e k A'' (n + m) c'' (xs ++ ys) → Below B w w' → K (a.put o.dst (.slice A'' (n + m) c'')) w') :
    if Region.wanted o (yielded ops a.tmps) = true then Oper.wp P o a w K Q else E := by
  obtain ⟨A'', c'', w', hrun, h2, h3⟩ := run_app_own (P := P) w hE o.type hown (c' := c') hr hb h63 hB
  have hw : Region.wanted o (yielded ops a.tmps) = true := by simp [Region.wanted, hgd]
  rw [if_pos hw]
  unfold Oper.wp execOp
  simp only [ho, resolve, invoke, builtin, Sem.run_bind, Sem.run_pure, Result.andThen_ok, List.map_toArray, List.map_cons, List.map_nil, hs, hx, hrun]
  exact h _ _ _ h2 h3
end Go.Proofs.Ytjdkgndecnhokaa.Wire
