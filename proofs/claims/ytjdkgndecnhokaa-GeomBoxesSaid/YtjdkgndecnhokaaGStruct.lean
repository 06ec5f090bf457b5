/- Structs of some ints as a law's arguments: opened, and shut again. No function of the program. -/
import Derived.Test.YtjdkgndecnhokaaWArgs
import Derived.Deep.Slices
namespace Go.Proofs.Ytjdkgndecnhokaa.Wire
open Go.ChangeShapes Go.WideShapes Go.ChangeAt Go.RowKit
set_option linter.unusedVariables false
set_option linter.unusedSimpArgs false

theorem cellsInt : Try.prog.cellsOf 3 = 1 := by kernel_rfl

theorem open_st2 {H : Type} {enc : TypeId × Value → H} {w : World} {r : Reach} {base b0 : Nat} {sp : Nat → Bool} {held : Bool} {t : TypeId} {f0 f1 : Field} {v : Value} {d : DataW H} {p : List MemPlace} (ht : Try.prog.underlying t = some (.struct #[f0, f1])) (hC : Try.prog.cellsOf t = 2)
    (h0 : f0.type = 3 ∧ f0.offset = 0) (h1 : f1.type = 3 ∧ f1.offset = 1) (hv : Value.okWide Try.prog w r base t v) (h : DataW.Trod enc Try.prog w b0 sp held t v d p) :
    ∃ x0 x1 : Int, v = .agg #[.int .i64 x0, .int .i64 x1] ∧ d = .agg [.lit (.int .i64 x0), .lit (.int .i64 x1)] ∧ p = [] ∧ ((Lit.int .i64 x0).wf = true) ∧ ((Lit.int .i64 x1).wf = true) := by
  obtain ⟨cs, rfl, hsz⟩ := okWide_struct ht hv
  obtain ⟨l⟩ := cs
  match l, hsz.trans hC with
  | [u0, u1], _ =>
    obtain ⟨fuel, hf⟩ := h
    obtain ⟨xs, m, _, hx, _, hlen, hg⟩ := DataW.trod_struct ht hf
    match xs, hlen with
    | [y0, y1], _ =>
      have g0 : DataW.trod enc Try.prog w b0 sp held m f0.type (([u0, u1].drop f0.offset).take (Try.prog.cellsOf f0.type)) = [y0, y1][0]? := hg 0 _ rfl
      rw [h0.1, h0.2, cellsInt] at g0
      obtain ⟨x0, e0, q0, w0⟩ := DataW.trod_int Try.underlying3 (by simpa using g0)
      have g1 : DataW.trod enc Try.prog w b0 sp held m f1.type (([u0, u1].drop f1.offset).take (Try.prog.cellsOf f1.type)) = [y0, y1][1]? := hg 1 _ rfl
      rw [h1.1, h1.2, cellsInt] at g1
      obtain ⟨x1, e1, q1, w1⟩ := DataW.trod_int Try.underlying3 (by simpa using g1)
      simp at e0 e1
      subst e0 e1
      simp only [Prod.mk.injEq] at hx
      exact ⟨x0, x1, rfl, by rw [hx.1, q0, q1]; rfl, by rw [hx.2, q0, q1]; rfl, w0, w1⟩

theorem open_st4 {H : Type} {enc : TypeId × Value → H} {w : World} {r : Reach} {base b0 : Nat} {sp : Nat → Bool} {held : Bool} {t : TypeId} {f0 f1 f2 f3 : Field} {v : Value} {d : DataW H} {p : List MemPlace} (ht : Try.prog.underlying t = some (.struct #[f0, f1, f2, f3])) (hC : Try.prog.cellsOf t = 4)
    (h0 : f0.type = 3 ∧ f0.offset = 0) (h1 : f1.type = 3 ∧ f1.offset = 1) (h2 : f2.type = 3 ∧ f2.offset = 2) (h3 : f3.type = 3 ∧ f3.offset = 3) (hv : Value.okWide Try.prog w r base t v) (h : DataW.Trod enc Try.prog w b0 sp held t v d p) :
    ∃ x0 x1 x2 x3 : Int, v = .agg #[.int .i64 x0, .int .i64 x1, .int .i64 x2, .int .i64 x3] ∧ d = .agg [.lit (.int .i64 x0), .lit (.int .i64 x1), .lit (.int .i64 x2), .lit (.int .i64 x3)] ∧ p = [] ∧ ((Lit.int .i64 x0).wf = true) ∧ ((Lit.int .i64 x1).wf = true) ∧ ((Lit.int .i64 x2).wf = true) ∧ ((Lit.int .i64 x3).wf = true) := by
  obtain ⟨cs, rfl, hsz⟩ := okWide_struct ht hv
  obtain ⟨l⟩ := cs
  match l, hsz.trans hC with
  | [u0, u1, u2, u3], _ =>
    obtain ⟨fuel, hf⟩ := h
    obtain ⟨xs, m, _, hx, _, hlen, hg⟩ := DataW.trod_struct ht hf
    match xs, hlen with
    | [y0, y1, y2, y3], _ =>
      have g0 : DataW.trod enc Try.prog w b0 sp held m f0.type (([u0, u1, u2, u3].drop f0.offset).take (Try.prog.cellsOf f0.type)) = [y0, y1, y2, y3][0]? := hg 0 _ rfl
      rw [h0.1, h0.2, cellsInt] at g0
      obtain ⟨x0, e0, q0, w0⟩ := DataW.trod_int Try.underlying3 (by simpa using g0)
      have g1 : DataW.trod enc Try.prog w b0 sp held m f1.type (([u0, u1, u2, u3].drop f1.offset).take (Try.prog.cellsOf f1.type)) = [y0, y1, y2, y3][1]? := hg 1 _ rfl
      rw [h1.1, h1.2, cellsInt] at g1
      obtain ⟨x1, e1, q1, w1⟩ := DataW.trod_int Try.underlying3 (by simpa using g1)
      have g2 : DataW.trod enc Try.prog w b0 sp held m f2.type (([u0, u1, u2, u3].drop f2.offset).take (Try.prog.cellsOf f2.type)) = [y0, y1, y2, y3][2]? := hg 2 _ rfl
      rw [h2.1, h2.2, cellsInt] at g2
      obtain ⟨x2, e2, q2, w2⟩ := DataW.trod_int Try.underlying3 (by simpa using g2)
      have g3 : DataW.trod enc Try.prog w b0 sp held m f3.type (([u0, u1, u2, u3].drop f3.offset).take (Try.prog.cellsOf f3.type)) = [y0, y1, y2, y3][3]? := hg 3 _ rfl
      rw [h3.1, h3.2, cellsInt] at g3
      obtain ⟨x3, e3, q3, w3⟩ := DataW.trod_int Try.underlying3 (by simpa using g3)
      simp at e0 e1 e2 e3
      subst e0 e1 e2 e3
      simp only [Prod.mk.injEq] at hx
      exact ⟨x0, x1, x2, x3, rfl, by rw [hx.1, q0, q1, q2, q3]; rfl, by rw [hx.2, q0, q1, q2, q3]; rfl, w0, w1, w2, w3⟩
end Go.Proofs.Ytjdkgndecnhokaa.Wire
