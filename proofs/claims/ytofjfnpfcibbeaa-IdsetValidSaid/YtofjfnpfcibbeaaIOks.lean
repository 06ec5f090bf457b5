/- Elements of sets that are made are elements of what they were made of; the reference's contracts in the form that the walks take; membership as bools. -/
import Derived.Test.YtofjfnpfcibbeaaIRefs
namespace Go.Proofs.Ytofjfnpfcibbeaa.Idset
open Go.RowKit
open Go.Proofs.Ytofjfnpfcibbeaa.Wire
set_option linter.unusedVariables false

theorem oks_nrm {a : List Int} (h : oks a) : oks (nrm a) := fun x hx => h x ((nrm_mem x a).1 hx)
theorem oks_uni {a b : List Int} (h : oks a) (g : oks b) : oks (uni a b) := fun x hx => ((uni_mem x a b).1 hx).elim (h x) (g x)
theorem oks_int {a b : List Int} (h : oks a) (g : oks b) : oks (int a b) := fun x hx => h x ((int_mem x a b).1 hx).1
theorem oks_mns {a b : List Int} (h : oks a) (g : oks b) : oks (mns a b) := fun x hx => h x ((mns_mem x a b).1 hx).1
theorem has_uni (a b : List Int) (n : Int) : hasb (uni a b) n = (hasb a n || hasb b n) := by
  unfold hasb; rw [← Bool.decide_or]; exact decide_eq_decide.2 (uni_mem n a b)
theorem has_int (a b : List Int) (n : Int) : hasb (int a b) n = (hasb a n && hasb b n) := by
  unfold hasb; rw [← Bool.decide_and]; exact decide_eq_decide.2 (int_mem n a b)
theorem has_mns (a b : List Int) (n : Int) : hasb (mns a b) n = (hasb a n && !hasb b n) := by
  unfold hasb; rw [← decide_not, ← Bool.decide_and]; exact decide_eq_decide.2 (mns_mem n a b)
theorem vld_yes {l : List Int} (h : asc l) : vld l = true := by unfold vld; exact decide_eq_true h
theorem RUnion_anx (A : Option Addr) (n c : Nat) (xs : List Int) (A1 : Option Addr) (n1 c1 : Nat) (ys : List Int) (w : World) (hS : Sh w w.heap.size .i64 A n xs) (hS1 : Sh w w.heap.size .i64 A1 n1 ys) (hc : n ≤ c) (hc1 : n1 ≤ c1) (ho : oks xs) (ho1 : oks ys) (hm : n ≤ 100000) (hm1 : n1 ≤ 100000) :
    Calls Try.prog 19 #[.slice A n c, .slice A1 n1 c1] w (Out2 w .i64 (uni xs ys)) := RUnion_any A n c xs A1 n1 c1 ys w hS hS1 (by omega)
theorem RInter_anx (A : Option Addr) (n c : Nat) (xs : List Int) (A1 : Option Addr) (n1 c1 : Nat) (ys : List Int) (w : World) (hS : Sh w w.heap.size .i64 A n xs) (hS1 : Sh w w.heap.size .i64 A1 n1 ys) (hc : n ≤ c) (hc1 : n1 ≤ c1) (ho : oks xs) (ho1 : oks ys) (hm : n ≤ 100000) (hm1 : n1 ≤ 100000) :
    Calls Try.prog 21 #[.slice A n c, .slice A1 n1 c1] w (Out2 w .i64 (int xs ys)) := RInter_any A n c xs A1 n1 c1 ys w hS hS1 (by omega)
theorem RMinus_anx (A : Option Addr) (n c : Nat) (xs : List Int) (A1 : Option Addr) (n1 c1 : Nat) (ys : List Int) (w : World) (hS : Sh w w.heap.size .i64 A n xs) (hS1 : Sh w w.heap.size .i64 A1 n1 ys) (hc : n ≤ c) (hc1 : n1 ≤ c1) (ho : oks xs) (ho1 : oks ys) (hm : n ≤ 100000) (hm1 : n1 ≤ 100000) :
    Calls Try.prog 23 #[.slice A n c, .slice A1 n1 c1] w (Out2 w .i64 (mns xs ys)) := RMinus_any A n c xs A1 n1 c1 ys w hS hS1 (by omega)
theorem RNormal_anx (A : Option Addr) (n c : Nat) (xs : List Int) (w : World) (hS : Sh w w.heap.size .i64 A n xs) (hc : n ≤ c) (ho : oks xs) (hm : n ≤ 100000) :
    Calls Try.prog 17 #[.slice A n c] w (Out2 w .i64 (nrm xs)) := RNormal_any A n c xs w hS (by omega)
end Go.Proofs.Ytofjfnpfcibbeaa.Idset
