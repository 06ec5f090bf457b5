/- slices.Backward over a slice of ints: what it hands to a loop's body. -/
import Derived.Test.YtajcalmjdfhedaaDoorYRow
import Derived.RangeFuncNested
import Derived.RangeFuncBound
import Derived.RangeFuncCalls
import Derived.RangeFuncLeaves
import Derived.RangeFuncBox
import Derived.Shelf.Abstract
import Derived.WalkKit
import Derived.OwnWalkIn
import Derived.TacticsInMore
import Derived.LoopNIn
import Derived.LoopIn
namespace Go.Proofs.YtajcalmjdfhedaaDoor.Glyph
open Go.RowKit Go.Shelf
open Go.Proofs.YtajcalmjdfhedaaDoor.Wire
set_option linter.unusedVariables false
attribute [local go_sem] Oper.semAt_some

theorem back_any (A : Option Addr) (n c : Nat) (w : World) : Calls Tryd.prog 49 #[.slice A n c] w fun e w' => e = .returned (.func (.func 58) #[] #[.pointer (some ⟨w.heap.size, 0, none⟩)]) ∧ w' = w.alloc (.cells #[.slice A n c] 22) := by
  go_enter Tryd.func49, Tryd.ntmps49
  go_wp2_with fail
  go_ret
  exact ⟨rfl, rfl⟩

/-- what a round keeps: the blocks below n₀, and block s -/
def Kq (n₀ s : Nat) (W W' : World) : Prop := ∀ k, k < n₀ ∨ k = s → W'.heap[k]? = W.heap[k]?
theorem Kq.refl (n₀ s : Nat) (W : World) : Kq n₀ s W W := fun _ _ => rfl
theorem Kq.trans {n₀ s : Nat} {A B C : World} (h : Kq n₀ s A B) (g : Kq n₀ s B C) : Kq n₀ s A C := fun k hk => (g k hk).trans (h k hk)
theorem Kq.put {n₀ s m : Nat} (h1 : n₀ ≤ m) (h2 : s < m) (W : World) (l : Nat) (o o' : Obj) (hl : m ≤ l) (h : W.heap[l]? = some o) (_ : o.isCells = false) (_ : o.isWalk = false) : Kq n₀ s W (W.putObj l o') :=
  fun k hk => World.putObj_heap_other (by omega)
theorem Kq.cell {n₀ s : Nat} {W W' : World} (h : Kq n₀ s W W') {p : Addr} (hp : p.block < n₀ ∨ p.block = s) : W'.cell? p = W.cell? p := World.cell?_of_block (h p.block hp)

/-- what comes with the index x -/
def bkv (xs : List Int) {n : Nat} (x : {i : Nat // i < n}) : Array Value := #[.int .i64 (x.1 : Nat), .int .i64 (xs[x.1]?.getD 0)]
theorem rev_take {n k : Nat} (h : k < n) : (List.range n).reverse.take (k + 1) = (List.range n).reverse.take k ++ [n - 1 - k] := by
  rw [List.take_add_one]
  congr 1
  rw [List.getElem?_eq_getElem (by simpa using h)]
  simp

set_option maxRecDepth 100000 in
set_option maxHeartbeats 2000000 in
theorem back1_in (F : Fence) (n' : Nat) (h58 : F.fn 58) (hro : F.round = none) (hn : 1 ≤ n') (l s n₀ n c : Nat) (A : Option Addr) (xs : List Int) (hm : n ≤ 1048576) (W : World)
    (hs : W.cell? ⟨s, 0, none⟩ = some (.slice A n c)) (hS : Sh W n₀ .i64 A n xs) (J Jx : List {i : Nat // i < n} → World → Prop)
    (hY : ∀ pre x W1, J pre W1 → pre.length < n → YieldAt F (n' - 1) Tryd.prog l (bkv xs x) W1 fun e W' =>
      (e = .returned (.bool true) ∧ J (pre ++ [x]) W' ∧ Kq n₀ s W1 W') ∨ (e = .returned (.bool false) ∧ Jx (pre ++ [x]) W')) (h0 : J [] W) :
    CallsIn F n' Tryd.prog 58 #[.func (.yield l) #[] #[], .pointer (some ⟨s, 0, none⟩)] W fun e W' => (∃ v, e = .returned v) ∧
      ((∃ ys : List {i : Nat // i < n}, ys.map (·.1) = (List.range n).reverse ∧ J ys W') ∨ (∃ pre, True ∧ Jx pre W')) := by
  refine callsIn_of_wp Tryd.func58 rfl h58 ?_ hro
  simp only [Tryd.ntmps58, List.size_toArray, List.length_cons, List.length_nil, Nat.reduceAdd, Nat.reduceSub, Array.replicate_succ, Array.replicate_zero, List.push_toArray, List.append_toArray, List.nil_append, List.cons_append]
  gi_wp2
  gi_loopw [3] (fun i wr => ∃ (z : Int) (k : Nat) (pre : List {i : Nat // i < n}), i = .int .i64 z ∧ z = (n : Int) - 1 - k ∧ k ≤ n ∧ pre.map (·.1) = (List.range n).reverse.take k ∧ J pre wr ∧ Kq n₀ s W wr)
    (fun i _ => (intOf i + 1).toNat)
  case atStart => exact ⟨_, 0, [], rfl, by omega, Nat.zero_le _, rfl, h0, Kq.refl _ _ _⟩
  case round =>
    obtain ⟨z, k, pre, rfl, hz, hk, hpre, hJs, hK⟩ := hrel
    have hs' := (hK.cell (p := ⟨s, 0, none⟩) (.inr rfl)).trans hs
    by_cases hlt : 0 ≤ z
    · obtain ⟨q, rfl⟩ : ∃ q : Nat, z = q := ⟨z.toNat, by omega⟩
      have hqn : q < n := by omega
      obtain ⟨b, o, rfl, hb, hcell⟩ := hS.2 (by omega)
      have hcx := (hK.cell (p := ⟨b, o + q, none⟩) (.inl hb)).trans (hcell q hqn)
      have hpl : pre.length = k := by
        have := congrArg List.length hpre
        simp at this; omega
      obtain ⟨fn, tmps, assign, body, hy, hR⟩ := hY pre ⟨q, hqn⟩ wr hJs (by omega)
      unfold bkv at hy
      dsimp only at hy
      have hpre2 : (pre ++ [(⟨q, hqn⟩ : {i : Nat // i < n})]).map (·.1) = (List.range n).reverse.take (k + 1) := by
        rw [List.map_append, hpre, rev_take (by omega)]
        congr 1
        simp only [List.map_cons, List.map_nil]
        congr 1; omega
      have hgd : xs.getD q 0 = xs[q]?.getD 0 := rfl
      rw [hgd] at hcx
      clear hgd
      generalize xs[q]?.getD 0 = x at *
      obtain rfl : n - 1 - q = k := by omega
      have hqq : (q : Int) - 1 = (n : Int) - 1 - ((n - 1 - q + 1 : Nat) : Int) := by omega
      have HQ := hid hqq
      clear hcell hpre hz hpl hk hqq
      gi_wp2
      refine hR.mono ?_
      rintro e W3 (⟨rfl, hJ3, hk3⟩ | ⟨rfl, hJx3⟩)
      · gi_wp2
        go_roundw
        case rel => exact ⟨(q : Int) - 1, n - 1 - q + 1, _, rfl, HQ.out, by omega, hpre2, hJ3, hK.trans hk3⟩
        case measure => simp [intOf]
      · gi_wp2
        refine bodyPost_ret (results_none rfl _ _ _) rfl ?_
        exact ⟨⟨_, rfl⟩, .inr ⟨_, trivial, hJx3⟩⟩
    · gi_wp2
      go_end0
      refine ⟨⟨_, rfl⟩, .inl ⟨pre, ?_, hJs⟩⟩
      exact hpre.trans (List.take_of_length_le (by simp; omega))
theorem back_stops (F : Fence) (n' : Nat) (h58 : F.fn 58) (hro : F.round = none) (hn : 1 ≤ n') (s n₀ n c : Nat) (A : Option Addr) (xs : List Int) (hm : n ≤ 1048576) (w : World)
    (hs : w.cell? ⟨s, 0, none⟩ = some (.slice A n c)) (hS : Sh w n₀ .i64 A n xs) (hsl : s < w.heap.size) (hn₀ : n₀ ≤ w.heap.size) :
    SeqStopsK F n' Tryd.prog 58 #[.pointer (some ⟨s, 0, none⟩)] (bkv xs (n := n)) (Kq n₀ s) (fun ys => ys.map (·.1) = (List.range n).reverse) (fun _ => True) n w := fun l J Jx W hW _ _ hY h0 =>
  back1_in F n' h58 hro hn l s n₀ n c A xs hm W ((hW.cell (p := ⟨s, 0, none⟩) hsl).trans hs) (hS.below (hW.mono hn₀)) J Jx hY h0
end Go.Proofs.YtajcalmjdfhedaaDoor.Glyph
