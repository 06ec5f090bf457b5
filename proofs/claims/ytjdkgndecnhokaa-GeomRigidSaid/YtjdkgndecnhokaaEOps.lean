/- Single operations of a region, at an act that is a letter: loads, stores, new boxes, calls, assignments. (mkeops.py) -/
import Derived.Test.YtjdkgndecnhokaaELaws
import Derived.Test.YtjdkgndecnhokaaGAny
namespace Go.Proofs.Ytjdkgndecnhokaa.Geom
open Go.RowKit
open Go.Proofs.Ytjdkgndecnhokaa.Wire
set_option linter.unusedVariables false

section
variable {a : Act} {w : World} {K : Act → World → Prop} {Q : Exit → Act → World → Prop} {d : Option Tmp} {pos : String} {aft : Array Edge} {ty : TypeId}
theorem op_assign {x : Operand} {v : Value} (hx : a.eval x = v) (h : K (a.put d v) w) : Oper.wp Try.prog { dst := d, op := .assign x, type := ty, pos := pos, after := aft, guard := none } a w K Q := by
  unfold Oper.wp execOp
  simp only [hx, Sem.run_pure]
  exact h
theorem run_callFunc {P : Program} {f : FuncId} {fn : Func} (hf : P.funcs[f]? = some fn) (hn : (fn.name == "runtime.NumGoroutine") = false) (hb : fn.body.isNone = false) (vs : Array Value) (w : World) : (callFunc f vs).run P w = .ok (.enter f vs) w := by
  unfold callFunc
  have e : (program).run P w = .ok P w := rfl
  rw [Sem.run_bind, e, Result.andThen_ok]
  simp only [hf, hn, hb, Bool.false_eq_true, if_false, Sem.run_pure]
theorem op_call {f : FuncId} {fn : Func} (hf : Try.prog.funcs[f]? = some fn) (hn : (fn.name == "runtime.NumGoroutine") = false) (hb : fn.body.isNone = false) {xs : Array Operand} {ts : Array TypeId} {vs : Array Value} {R : World → Prop} {v : Value} (hx : xs.map a.eval = vs) (hc : Calls Try.prog f vs w fun e w' => e = .returned v ∧ R w') (h : ∀ w', R w' → K (a.put d v) w') :
    Oper.wp Try.prog { dst := d, op := .call { callee := .value (.func f), args := xs, argTypes := ts }, type := ty, pos := pos, after := aft, guard := none } a w K Q := by
  subst hx
  have hfv : a.eval (.func f) = .func (.func f) #[] #[] := rfl
  have hr := run_callFunc hf hn hb (Array.map a.eval xs) w
  unfold Oper.wp execOp
  go_simp
  refine hc.mono ?_
  rintro e w' ⟨rfl, hR⟩
  exact h w' hR
theorem op_load_pt {t : Nat} {g : Nat} {x y : Int} (hx : a.eval (.tmp t) = .pointer (some ⟨g, 0, none⟩)) (hg : BX w g x y) (h : K (a.put d (.agg #[.int .i64 x, .int .i64 y])) w) :
    Oper.wp Try.prog { dst := d, op := .load 23 (.tmp t), type := ty, pos := pos, after := aft, guard := none } a w K Q := by
  have c0 := hg.c0
  have c1 := hg.c1
  unfold Oper.wp execOp
  simp only [hx]
  go_simp
  exact h
theorem op_alloc_pt (h : K (a.put d (.pointer (some ⟨w.heap.size, 0, none⟩))) (w.alloc (.cells #[.int .i64 0, .int .i64 0] 23))) :
    Oper.wp Try.prog { dst := d, op := .alloc 23, type := ty, pos := pos, after := aft, guard := none } a w K Q := by
  unfold Oper.wp execOp
  go_simp
  exact h
theorem op_store_pt {t s : Nat} {g : Nat} {x y x' y' : Int} (hx : a.eval (.tmp t) = .pointer (some ⟨g, 0, none⟩)) (hy : a.eval (.tmp s) = .agg #[.int .i64 x', .int .i64 y']) (hg : BX w g x y) (h : K (a.put d undef) ((w.setCell ⟨g, 0, none⟩ (.int .i64 x')).setCell ⟨g, 1, none⟩ (.int .i64 y'))) :
    Oper.wp Try.prog { dst := d, op := .store 23 (.tmp t) (.tmp s), type := ty, pos := pos, after := aft, guard := none } a w K Q := by
  have c0 := hg.c0
  have c1 := hg.c1
  have f0 := hg.fr 0
  have f1 := hg.fr 1
  unfold Oper.wp execOp
  simp only [hx, hy]
  go_simp
  exact h
theorem op_load_fr {t : Nat} {g : Nat} {x y : Int} (hx : a.eval (.tmp t) = .pointer (some ⟨g, 0, none⟩)) (hg : BY w g x y) (h : K (a.put d (.agg #[.int .i64 x, .int .i64 y])) w) :
    Oper.wp Try.prog { dst := d, op := .load 32 (.tmp t), type := ty, pos := pos, after := aft, guard := none } a w K Q := by
  have c0 := hg.c0
  have c1 := hg.c1
  unfold Oper.wp execOp
  simp only [hx]
  go_simp
  exact h
theorem op_alloc_fr (h : K (a.put d (.pointer (some ⟨w.heap.size, 0, none⟩))) (w.alloc (.cells #[.int .i64 0, .int .i64 0] 32))) :
    Oper.wp Try.prog { dst := d, op := .alloc 32, type := ty, pos := pos, after := aft, guard := none } a w K Q := by
  unfold Oper.wp execOp
  go_simp
  exact h
theorem op_store_fr {t s : Nat} {g : Nat} {x y x' y' : Int} (hx : a.eval (.tmp t) = .pointer (some ⟨g, 0, none⟩)) (hy : a.eval (.tmp s) = .agg #[.int .i64 x', .int .i64 y']) (hg : BY w g x y) (h : K (a.put d undef) ((w.setCell ⟨g, 0, none⟩ (.int .i64 x')).setCell ⟨g, 1, none⟩ (.int .i64 y'))) :
    Oper.wp Try.prog { dst := d, op := .store 32 (.tmp t) (.tmp s), type := ty, pos := pos, after := aft, guard := none } a w K Q := by
  have c0 := hg.c0
  have c1 := hg.c1
  have f0 := hg.fr 0
  have f1 := hg.fr 1
  unfold Oper.wp execOp
  simp only [hx, hy]
  go_simp
  exact h
end
end Go.Proofs.Ytjdkgndecnhokaa.Geom
