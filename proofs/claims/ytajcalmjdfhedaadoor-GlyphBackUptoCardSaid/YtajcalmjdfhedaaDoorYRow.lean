/- Rows of any values of one cell that a call owns: what a walk reads and writes, append of one value, a part put in reverse; all but one block as it was. -/
import Derived.Test.YtajcalmjdfhedaaDoorGKit
import Derived.Test.YtajcalmjdfhedaaDoorYPlain2
import Derived.Test.YtajcalmjdfhedaaDoorShelf
import Derived.Lib.OwnBridge
namespace Go.Proofs.YtajcalmjdfhedaaDoor.Glyph
open Go.RowKit
open Go.Proofs.YtajcalmjdfhedaaDoor.Wire
set_option linter.unusedVariables false

/-- all is as it was but block r, and new blocks -/
structure Bu (r : Nat) (w w' : World) : Prop where
  os : w'.os = w.os
  tape : w'.tape = w.tape
  output : w'.output = w.output
  size : w.heap.size ≤ w'.heap.size
  block : ∀ k, k < w.heap.size → k ≠ r → w'.heap[k]? = w.heap[k]?
theorem Bu.refl (r : Nat) (w : World) : Bu r w w := ⟨rfl, rfl, rfl, Nat.le_refl _, fun _ _ _ => rfl⟩
theorem Bu.trans {r : Nat} {w w1 w2 : World} (h : Bu r w w1) (g : Bu r w1 w2) : Bu r w w2 :=
  ⟨g.os.trans h.os, g.tape.trans h.tape, g.output.trans h.output, Nat.le_trans h.size g.size, fun k hk hr => (g.block k (Nat.lt_of_lt_of_le hk h.size) hr).trans (h.block k hk hr)⟩
theorem Bu.of {r : Nat} {w w1 : World} (h : Bl w w1) : Bu r w w1 := ⟨h.os, h.tape, h.output, h.size, fun k hk _ => h.block k hk⟩
theorem Bu.set {r : Nat} {w w1 : World} (h : Bu r w w1) (j : Nat) (v : Value) : Bu r w (w1.setCell ⟨r, j, none⟩ v) :=
  h.trans ⟨rfl, rfl, rfl, by simp [World.setCell], fun k _ hr => Below.heap_setCell _ _ _ _ hr⟩
theorem Bu.drewN {r : Nat} {w w1 : World} (h : Bu r w w1) (n : Nat) : Bu r w (w1.drewN n) := ⟨h.os, h.tape, h.output, h.size, h.block⟩
theorem Bu.below {B r : Nat} {w w1 w2 : World} (h : Below B w w1) (g : Bu r w1 w2) (hr : B ≤ r) (hB : B ≤ w1.heap.size) : Below B w w2 :=
  ⟨g.os.trans h.os, g.tape.trans h.tape, g.output.trans h.output, Nat.le_trans h.size g.size, fun k hk => (g.block k (by omega) (by omega)).trans (h.block k hk)⟩
theorem Bu.bl {r : Nat} {w w1 w2 : World} (h : Bl w w1) (g : Bu r w1 w2) (hr : w.heap.size ≤ r) : Bl w w2 := Bu.below h g hr h.size

/-- a row of the call's own -/
def Vw (w : World) (B : Nat) (e : TypeId) (A : Option Addr) (n c : Nat) (vs : List Value) : Prop := w.ownsRow B e 1 (.slice A n c) n vs
section
variable {w w' : World} {B B' n c g : Nat} {e : TypeId} {A : Option Addr} {vs : List Value}
theorem Vw.len (h : Vw w B e A n c vs) : vs.length = n := by have := h.1; omega
theorem Vw.none_ (w : World) (B : Nat) (e : TypeId) : Vw w B e none 0 0 [] := World.ownsRow_nil _ _ _ _
theorem Vw.form (h : Vw w B e A n c vs) (hn : 0 < n) : ∃ g, A = some ⟨g, 0, none⟩ ∧ B ≤ g ∧ g < w.heap.size := by
  rcases h.2 with ⟨_, h0⟩ | ⟨g, cap, cur, hv, hb, hh, _⟩
  · omega
  · injection hv with h1 _ _
    exact ⟨g, h1, hb, (Array.getElem?_eq_some_iff.1 hh).1⟩
theorem Vw.kept (h : Vw w B e A n c vs) (hk : ∀ k, B ≤ k → A = some ⟨k, 0, none⟩ → k < w.heap.size → w'.heap[k]? = w.heap[k]?) : Vw w' B e A n c vs := by
  refine ⟨h.1, ?_⟩
  rcases h.2 with h0 | ⟨g, cap, cur, hv, hb, hh, rest⟩
  · exact .inl h0
  · refine .inr ⟨g, cap, cur, hv, hb, ?_, rest⟩
    injection hv with h1 _ _
    exact (hk g hb h1 (Array.getElem?_eq_some_iff.1 hh).1).trans hh
theorem Vw.bl (h : Vw w B e A n c vs) (hb : Bl w w') : Vw w' B e A n c vs := h.kept fun k _ _ hk => hb.block k hk
theorem Vw.alloc (h : Vw w B e A n c vs) (o : Obj) : Vw (w.alloc o) B e A n c vs := h.bl ((Bl.refl w).alloc o)
theorem Vw.drewN (h : Vw w B e A n c vs) (m : Nat) : Vw (w.drewN m) B e A n c vs := h
theorem Vw.less (h : Vw w B e A n c vs) (hB : B' ≤ B) : Vw w B' e A n c vs := by
  refine ⟨h.1, ?_⟩
  rcases h.2 with h0 | ⟨g, cap, cur, hv, hb, rest⟩
  · exact .inl h0
  · exact .inr ⟨g, cap, cur, hv, by omega, rest⟩
theorem Vw.cap (h : Vw w B e A n c vs) : n ≤ c := by
  rcases h.2 with ⟨hv, h0⟩ | ⟨g, cap, cur, hv, hb, hh, hn, _⟩
  · omega
  · injection hv with _ _ h3
    omega
theorem Vw.cellAt (h : Vw w B e (some ⟨g, 0, none⟩) n c vs) {j : Nat} (hj : j < n) : w.cell? ⟨g, j, none⟩ = vs[j]? := World.ownsRow.cellAt h j (by omega)
theorem Vw.free (h : Vw w B e (some ⟨g, 0, none⟩) n c vs) (j : Nat) : w.frozen? ⟨g, j, none⟩ = false := World.ownsRow.frozenAt h j
theorem Vw.set (h : Vw w B e (some ⟨g, 0, none⟩) n c vs) (j : Nat) (y : Value) : Vw (w.setCell ⟨g, j, none⟩ y) B e (some ⟨g, 0, none⟩) n c (vs.set j y) := (World.ownsRow.stored h j y).1
theorem Vw.other (h : Vw w B e A n c vs) {b : Nat} (hb : A ≠ some ⟨b, 0, none⟩) (j : Nat) (v : Value) : Vw (w.setCell ⟨b, j, none⟩ v) B e A n c vs :=
  h.kept fun k _ hA _ => heap_setCell_other w ⟨b, j, none⟩ k v (fun hk => hb (by rw [hA, show k = b from hk]))
theorem Vw.bu {r : Nat} (h : Vw w B e A n c vs) (hb : Bu r w w') (hr : A ≠ some ⟨r, 0, none⟩) : Vw w' B e A n c vs := h.kept fun k _ hA hk => hb.block k hk (fun he => hr (by rw [hA, he]))
theorem Vw.ow {k : IntKind} {xs : List Int} (h : Ow w B e k A n c xs) : Vw w B e A n c (iv k xs) := h
end

/-- append of one value -/
theorem run_app_one {P : Program} (w : World) {t e : TypeId} {bytes : Nat} {i : TypeInfo} {z : Value} (ht : P.underlying t = some (.slice e)) (hi : P.info? e = some i) (hz : i.zero = some z) (hs : i.size = 1) (hby : i.bytes = bytes) (hzs : z.cells.size = 1) (ty : TypeId)
    {B : Nat} {A : Option Addr} {n c : Nat} {vs : List Value} (hown : Vw w B e A n c vs) (v : Value) (hv : v.oneCell' = true) {g : Nat} (hg : w.cell? ⟨g, 0, none⟩ = some v)
    (hb : (n + 1) * bytes ≤ 140737488355328) (h63 : n + 1 ≤ 140737488355328) (hB : B ≤ w.heap.size) :
    ∃ A'' c'' w', (Builtin.append_ #[t, t] ty #[.slice A n c, .slice (some ⟨g, 0, none⟩) 1 1]).run P w = .ok (.slice A'' (n + 1) c'') w' ∧ Vw w' B e A'' (n + 1) c'' (vs ++ [v]) ∧ Below B w w' := by
  obtain ⟨v', w', hrun, ho, hgr, _⟩ := run_append_own (P := P) w B t ty e i z 1 bytes ht hi hz hs hby hzs (by omega) (.slice A n c) n vs hown ⟨g, 0, none⟩ 1 1 [v] (by simp)
    (fun j u hu => by
      have hj : j = 0 := by
        rcases j with _ | j
        · rfl
        · simp at hu
      subst hj
      simp at hu
      subst hu
      rw [add_lit']
      exact hg)
    (fun u hu => by simp at hu; subst hu; exact hv) (by unfold maxLen; omega) hb hB
  obtain ⟨A'', c'', rfl⟩ : ∃ A c, v' = .slice A (n + 1) c := by
    rcases ho.2 with ⟨rfl, h0⟩ | ⟨g, cap, cur, rfl, _⟩
    · omega
    · exact ⟨_, _, rfl⟩
  refine ⟨A'', c'', w', hrun, ho, ?_⟩
  refine ⟨hgr.os, hgr.tape, hgr.output, hgr.size, fun k hk => hgr.block k (by omega) fun he => ?_⟩
  rcases hown.2 with ⟨h0, _⟩ | ⟨b, _, _, h0, hb', _⟩
  · rw [h0] at he; cases he
  · rw [h0] at he
    have : k = b := by simpa [Value.ownBlock] using he
    omega
theorem wpList_app_one {P : Program} (w : World) {ops : Array Oper} {rest : List Oper} {o : Oper} {a : Act} {Q : Exit → Act → World → Prop} (hgd : o.guard = none) (s x : Operand) (t : TypeId)
    (ho : o.op = .call { callee := .builtin .append, args := #[s, x], argTypes := #[t, t] })
    {e : TypeId} {bytes : Nat} {i : TypeInfo} {z : Value} (ht : P.underlying t = some (.slice e)) (hi : P.info? e = some i) (hz : i.zero = some z) (hsz : i.size = 1) (hby : i.bytes = bytes) (hzs : z.cells.size = 1)
    {B : Nat} {A : Option Addr} {n c : Nat} {vs : List Value} (hs : a.eval s = .slice A n c) (hown : Vw w B e A n c vs) (v : Value) (hv : v.oneCell' = true) {g : Nat} (hx : a.eval x = .slice (some ⟨g, 0, none⟩) 1 1) (hg : w.cell? ⟨g, 0, none⟩ = some v)
    (hb : (n + 1) * bytes ≤ 140737488355328) (h63 : n + 1 ≤ 140737488355328) (hB : B ≤ w.heap.size)
    (h : ∀ A'' c'' w', Vw w' B e A'' (n + 1) c'' (vs ++ [v]) → Below B w w' → wpList P ops Q rest (a.put o.dst (.slice A'' (n + 1) c'')) w') : wpList P ops Q (o :: rest) a w := by
  obtain ⟨A'', c'', w', hrun, h2, h3⟩ := run_app_one (P := P) w ht hi hz hsz hby hzs o.type hown v hv hg hb h63 hB
  refine wpList_plain hgd fun K hK => ?_
  unfold Oper.wp execOp
  simp only [ho, resolve, invoke, builtin, Sem.run_bind, Sem.run_pure, Result.andThen_ok, List.map_toArray, List.map_cons, List.map_nil, hs, hx, hrun]
  exact hK _ _ (h _ _ _ h2 h3)

/-! a part of a row put in reverse -/
/-- the list with its part of k from s on in reverse -/
def rvp {α : Type} (s k : Nat) (zs : List α) : List α := zs.take s ++ ((zs.drop s).take k).reverse ++ zs.drop (s + k)
theorem rvp_len {α : Type} {s k : Nat} {zs : List α} (h : s + k ≤ zs.length) : (rvp s k zs).length = zs.length := by unfold rvp; simp; omega
section
open Go.Sort
variable {α : Type} [Inhabited α] {enc : α → Value}
theorem putCells_list (s : Nat) (ds : List α) (cur : Array Value) (h : s + ds.length ≤ cur.size) :
    (putCells enc s ds.toArray cur).toList = cur.toList.take s ++ ds.map enc ++ cur.toList.drop (s + ds.length) := by
  apply List.ext_getElem?
  intro i
  unfold putCells
  rw [Array.getElem?_toList, Array.getElem?_mapIdx]
  by_cases h1 : i < s
  · rw [List.getElem?_append_left (by simp; omega), List.getElem?_append_left (by simp; omega), List.getElem?_take_of_lt h1, Array.getElem?_toList]
    rw [Array.getElem?_eq_getElem (by omega), Option.map_some, if_neg (by omega)]
  · by_cases h2 : i < s + ds.length
    · rw [List.getElem?_append_left (by simp; omega), List.getElem?_append_right (by simp; omega)]
      rw [Array.getElem?_eq_getElem (by omega), Option.map_some, if_pos (by simp; omega)]
      have hl : (List.take s cur.toList).length = s := by simp; omega
      rw [hl, List.getElem?_map, List.getElem?_eq_getElem (by omega), Option.map_some]
      congr 2
      rw [getElem!_pos _ _ (by simp; omega)]
      simp
    · have hl : (List.take s cur.toList ++ List.map enc ds).length = s + ds.length := by simp; omega
      rw [List.getElem?_append_right (by omega), hl, List.getElem?_drop, Array.getElem?_toList, show s + ds.length + (i - (s + ds.length)) = i by omega]
      cases cur[i]? with
      | none => rfl
      | some y => rw [Option.map_some, if_neg (by simp; omega)]
theorem Vw.holds {w : World} {B n c g : Nat} {e : TypeId} {zs : List α} (h : Vw w B e (some ⟨g, 0, none⟩) n c (zs.map enc)) {s k : Nat} (hk : s + k ≤ n) : Holds enc w g s ((zs.drop s).take k).toArray := by
  have hl : zs.length = n := by have := h.len; simpa using this
  intro j hj
  have hj : j < k := by simp at hj; omega
  refine ⟨?_, h.free _⟩
  rw [h.cellAt (show s + j < n by omega), List.getElem?_map, List.getElem?_eq_getElem (by omega), Option.map_some]
  rw [getElem!_pos _ _ (by simp; omega)]
  simp
theorem Vw.rvp {w : World} {B n c g q : Nat} {e : TypeId} {zs : List α} (h : Vw w B e (some ⟨g, 0, none⟩) n c (zs.map enc)) {s k : Nat} (hk : s + k ≤ n) :
    Vw (putRow enc (Sort.ahead w q) g s ((zs.drop s).take k).reverse.toArray) B e (some ⟨g, 0, none⟩) n c ((Glyph.rvp s k zs).map enc) := by
  have hl : zs.length = n := by have := h.len; simpa using this
  rcases h.2 with ⟨e0, _⟩ | ⟨g', cap', cur, e0, hb, hg, hn, hm, hs, ht⟩
  · cases e0
  · injection e0 with e1 _ e3
    injection e1 with e1
    injection e1 with e1
    subst e1; subst e3
    have hdl : (List.take k (List.drop s zs)).reverse.length = k := by simp; omega
    refine ⟨by rw [List.length_map, rvp_len (by omega)]; omega, .inr ⟨g, c, putCells enc s ((zs.drop s).take k).reverse.toArray cur, rfl, hb, ?_, hn, hm, by simpa [putCells] using hs, ?_⟩⟩
    · simp [putRow, mapBlock, Sort.ahead, Array.getElem?_modify, hg, onCells]
    · rw [putCells_list s _ cur (by rw [hdl]; omega), hdl]
      rw [Nat.mul_one] at ht ⊢
      have e2 : cur.toList.take s = (zs.map enc).take s := by rw [← ht, List.take_take, Nat.min_eq_left (by omega)]
      have e4 : (cur.toList.drop (s + k)).take (n - (s + k)) = (zs.map enc).drop (s + k) := by rw [← ht, List.drop_take]
      have hl2 : (cur.toList.take s ++ List.map enc (List.take k (List.drop s zs)).reverse).length = s + k := by simp; omega
      rw [List.take_append, hl2, List.take_of_length_le (by omega), e4, e2]
      unfold Glyph.rvp
      rw [List.map_append, List.map_append, List.map_take, List.map_drop]
theorem bu_put {w : World} {g q s : Nat} {d : Array α} : Bu g w (putRow enc (Sort.ahead w q) g s d) :=
  ⟨rfl, rfl, rfl, by simp [putRow, mapBlock, Sort.ahead], fun k _ hk => by simp [putRow, mapBlock, Sort.ahead, Array.getElem?_modify, show g ≠ k by omega]⟩
end
end Go.Proofs.YtajcalmjdfhedaaDoor.Glyph
