/- A region that draws its order, whose operations only read and whose callees may lay new blocks: walked once, in the order of the text, over the class of all worlds in which everything that lay there lies as it did. No function of the program. -/
import Derived.Test.YtjdkgndecnhokaaGKit
import Derived.Deep.QuietTactic
import Derived.BigQuiet
namespace Go.Proofs.Ytjdkgndecnhokaa.Wire
open Go.RowKit
set_option linter.unusedVariables false

/-- a world in which all that lay in w lies as it did -/
structure GB (w : World) where
  val : World
  h : Bl w val
instance (w : World) : Inhabited (GB w) := ⟨⟨w, Bl.refl w⟩⟩
theorem wp_region_gb {P : Program} {id : Nat} {Q : Exit → Act → World → Prop} {a : Act} {w : World} {l : List Oper} (hm : P.follows .mixedOrders = true) (hB : Region.lexB .any l.toArray = true)
    (h : wpQuiet P l.toArray (fun w' => ∃ p : GB w, w' = p.val) (fun a' => ∀ w', (∃ p : GB w, w' = p.val) → Q .normal a' w') l a) : (Code.region id l.toArray true).wp P Q a w :=
  wp_region_quiet (C := fun w' => ∃ p : GB w, w' = p.val) hm hB ⟨⟨w.drew, (Bl.refl w).drew⟩, rfl⟩ (by simpa using h)
theorem GB.cell {w : World} {a : Addr} {v : Value} (hb : a.block < w.heap.size) (h : w.cell? a = some v) (p : GB w) : p.val.cell? a = some v := (Below.cell p.h hb).trans h
theorem gb_of {P : Program} {f : FuncId} {args : Array Value} {w : World} {p : GB w} {v : Value} (h : Calls P f args p.val fun e w' => e = .returned v ∧ Bl p.val w') : Calls P f args p.val fun e w' => e = .returned v ∧ ∃ q : GB w, w' = q.val :=
  h.mono fun _ w' ⟨he, hb⟩ => ⟨he, ⟨w', p.h.trans hb⟩, rfl⟩
theorem gb_same {P : Program} {f : FuncId} {args : Array Value} {w : World} {p : GB w} {v : Value} (h : Calls P f args p.val fun e w' => e = .returned v ∧ p.val = w') : Calls P f args p.val fun e w' => e = .returned v ∧ ∃ q : GB w, w' = q.val :=
  h.mono fun _ w' ⟨he, hb⟩ => ⟨he, p, hb.symm⟩
/-- a block that lies whole -/
def Bk (w : World) (g : Nat) (cs : Array Value) (T : TypeId) : Prop := w.heap[g]? = some (.cells cs T (0, 0))
theorem Bk.new (w : World) (cs : Array Value) (T : TypeId) {g : Nat} (hg : g = w.heap.size) : Bk (w.alloc (.cells cs T)) g cs T := by subst hg; exact heap_alloc_new w _
theorem Bk.lt {w : World} {g : Nat} {cs : Array Value} {T : TypeId} (h : Bk w g cs T) : g < w.heap.size := lt_of_block h
theorem Bk.bl {w w' : World} {g : Nat} {cs : Array Value} {T : TypeId} (h : Bk w g cs T) (hb : Bl w w') : Bk w' g cs T := (hb.block g h.lt).trans h
theorem Bk.al {w : World} {g : Nat} {cs : Array Value} {T : TypeId} (h : Bk w g cs T) (o : Obj) : Bk (w.alloc o) g cs T := h.bl ((Bl.refl w).alloc o)
/-! a long region's order, reckoned apart (in one declaration with the walk it would take too much memory) -/
def drawnIn : Code → List (Array Oper)
  | .region _ ops true => [ops]
  | .seq a b => drawnIn a ++ drawnIn b
  | .cond _ a b => drawnIn a ++ drawnIn b
  | .block _ b => drawnIn b
  | .loop b => drawnIn b
  | .scope b => drawnIn b
  | .rangeFunc _ _ a b => drawnIn a ++ drawnIn b
  | _ => []
def regionsOf (f : Func) : List (Array Oper) := match f.body with
  | some c => drawnIn c
  | none => []
theorem lex_of {f : Func} {k : Nat} {l : List Oper} (hall : (regionsOf f).all (fun o => Region.lexB .any o) = true) (h : (regionsOf f)[k]? = some l.toArray) : Region.lexB .any l.toArray = true :=
  List.all_eq_true.1 hall _ (List.mem_of_getElem? h)
end Go.Proofs.Ytjdkgndecnhokaa.Wire
