/- The encoders' contracts as the laws use them; equal lists are the same. -/
import Derived.Test.YtlpljhaogmfnkaaWAwake
namespace Go.Proofs.Ytlpljhaogmfnkaa.Wire
open Go.RowKit
set_option linter.unusedVariables false

/-- the answer is a slice that shows zs, in new memory -/
def Out2 (w : World) (zs : List Int) (e : Ending) (w' : World) : Prop :=
  ∃ A' c', e = .returned (.slice A' zs.length c') ∧ Sh w' w'.heap.size .u8 A' zs.length zs ∧ zs.length ≤ c' ∧ Bl w w'
theorem ow_cap {w : World} {B n c : Nat} {k : IntKind} {A : Option Addr} {xs : List Int} {e : TypeId} (h : Ow w B e k A n c xs) : n ≤ c := by
  rcases h.2 with ⟨hv, h0⟩ | ⟨g, cap, cur, hv, _, _, hnc, _⟩
  · omega
  · injection hv with _ _ h2; omega
theorem Outs.two {w w' : World} {zs : List Int} {e : Ending} (h : Outs w zs e w') : Out2 w zs e w' := by
  obtain ⟨A', n', c', he, ho, hb⟩ := h
  have hc := ow_cap ho
  obtain rfl := ho.len
  exact ⟨A', c', he, ho.sh, hc, hb⟩

theorem putInt (A : Option Addr) (n c : Nat) (xs : List Int) (N : Int) (w : World) (hS : Sh w w.heap.size .u8 A n xs)
    (h1 : -9223372036854775808 ≤ N) (h2 : N ≤ 9223372036854775807) (hc : n ≤ c) (hn : n + 10 ≤ 140737488355328) :
    Calls Try.prog 14 #[.slice A n c, .int .i64 N] w (Out2 w (xs ++ enc N)) := (PutInt_any A n c xs N w hS h1 h2 hc (by omega) hn).mono fun _ _ h => h.two
theorem rputInt (A : Option Addr) (n c : Nat) (xs : List Int) (N : Int) (w : World) (hS : Sh w w.heap.size .u8 A n xs)
    (h1 : -9223372036854775808 ≤ N) (h2 : N ≤ 9223372036854775807) (hn : n + 10 ≤ 140737488355328) :
    Calls Try.prog 15 #[.slice A n c, .int .i64 N] w (Out2 w (xs ++ enc N)) := (RPutInt_any A n c xs N w hS h1 h2 hn).mono fun _ _ h => h.two
theorem putText (A : Option Addr) (n c : Nat) (xs : List Int) (s : ByteArray) (w : World) (hS : Sh w w.heap.size .u8 A n xs) (hc : n ≤ c) (hn : n + 10 + s.size ≤ 140737488355328) :
    Calls Try.prog 19 #[.slice A n c, .string s] w (Out2 w (xs ++ enc s.size ++ sb s)) := (PutText_any A n c xs s w hS hc (by omega) hn).mono fun _ _ h => h.two
theorem rputText (A : Option Addr) (n c : Nat) (xs : List Int) (s : ByteArray) (w : World) (hS : Sh w w.heap.size .u8 A n xs) (hn : n + 10 + s.size ≤ 140737488355328) :
    Calls Try.prog 20 #[.slice A n c, .string s] w (Out2 w (xs ++ enc s.size ++ sb s)) := (RPutText_any A n c xs s w hS hn).mono fun _ _ h => h.two
def oks (l : List Int) : Prop := ∀ x ∈ l, -9223372036854775808 ≤ x ∧ x ≤ 9223372036854775807
theorem putList (A : Option Addr) (n c : Nat) (xs : List Int) (A1 : Option Addr) (n1 c1 : Nat) (l : List Int) (w : World) (hS : Sh w w.heap.size .u8 A n xs) (hL : Sh w w.heap.size .i64 A1 n1 l)
    (hl : oks l) (hc : n ≤ c) (hn : n + 10 + 10 * n1 ≤ 140737488355328) :
    Calls Try.prog 23 #[.slice A n c, .slice A1 n1 c1] w (Out2 w (xs ++ enc n1 ++ encs l)) := (PutList_any A n c xs A1 n1 c1 l w hS hL hl hc (by omega) hn).mono fun _ _ h => h.two
theorem rputList (A : Option Addr) (n c : Nat) (xs : List Int) (A1 : Option Addr) (n1 c1 : Nat) (l : List Int) (w : World) (hS : Sh w w.heap.size .u8 A n xs) (hL : Sh w w.heap.size .i64 A1 n1 l)
    (hl : oks l) (hn : n + 10 + 10 * n1 ≤ 140737488355328) :
    Calls Try.prog 24 #[.slice A n c, .slice A1 n1 c1] w (Out2 w (xs ++ enc n1 ++ encs l)) := (RPutList_any A n c xs A1 n1 c1 l w hS hL hl hn).mono fun _ _ h => h.two
theorem same2 (xs : List Int) (A A' : Option Addr) (c c' : Nat) (w : World) (hl : xs.length ≤ 140737488355328) (hS : Sh w w.heap.size .u8 A xs.length xs) (hS' : Sh w w.heap.size .u8 A' xs.length xs) :
    Calls Try.prog 13 #[.slice A xs.length c, .slice A' xs.length c'] w fun e w' => e = .returned (.bool true) ∧ Q w w' := Same_eq A A' _ c c' xs w _ _ hS hS' hl
theorem sameI2 (xs : List Int) (A A' : Option Addr) (c c' : Nat) (w : World) (hl : xs.length ≤ 140737488355328) (hS : Sh w w.heap.size .i64 A xs.length xs) (hS' : Sh w w.heap.size .i64 A' xs.length xs) :
    Calls Try.prog 25 #[.slice A xs.length c, .slice A' xs.length c'] w fun e w' => e = .returned (.bool true) ∧ Q w w' := SameInts_eq A A' _ c c' xs w _ _ hS hS' hl
/-- the answer of List -/
def Out3 (w : World) (L : List Int) (U E : Int) (e : Ending) (w' : World) : Prop :=
  ∃ A' c', e = .returned (.tuple #[.slice A' L.length c', .int .i64 U, .int .i64 E]) ∧ Sh w' w'.heap.size .i64 A' L.length L ∧ Bl w w'
theorem OutL.three {w w' : World} {xs : List Int} {m : Int} {e : Ending} (h : OutL w xs m e w') : Out3 w (ll xs m) (lu xs m) (le xs m) e w' := by
  obtain ⟨A', n', c', he, ho, hb⟩ := h
  obtain rfl := ho.len
  exact ⟨A', c', he, ho.sh, hb⟩
theorem list2 (A : Option Addr) (n c : Nat) (xs : List Int) (m : Int) (w : World) (hS : Sh w w.heap.size .u8 A n xs) (hb : byts xs) (hc : n ≤ c) (hn : n ≤ 1099511627776) :
    Calls Try.prog 21 #[.slice A n c, .int .i64 m] w (Out3 w (ll xs m) (lu xs m) (le xs m)) := (List_any A n c xs m w hS hb hc (by omega) hn).mono fun _ _ h => h.three
theorem rlist2 (A : Option Addr) (n c : Nat) (xs : List Int) (m : Int) (w : World) (hS : Sh w w.heap.size .u8 A n xs) (hb : byts xs) (hc : n ≤ c) (hn : n ≤ 1099511627776) :
    Calls Try.prog 22 #[.slice A n c, .int .i64 m] w (Out3 w (ll xs m) (lu xs m) (le xs m)) := (RList_any A n c xs m w hS hb hc (by omega) hn).mono fun _ _ h => h.three
/-- what a slice showed before, it shows after -/
theorem Sh.bl {w w' : World} {k : IntKind} {A : Option Addr} {n : Nat} {xs : List Int} (h : Sh w w.heap.size k A n xs) (hb : Bl w w') : Sh w' w'.heap.size k A n xs := (h.below hb).more hb.size
theorem Bl.drew {w w1 : World} (h : Bl w w1) : Bl w w1.drew := Below.drew h
theorem enc_len10 (N : Int) : (enc N).length ≤ 10 := (enc_len N).2
theorem sb_byts (s : ByteArray) : byts (sb s) := by
  intro x hx
  obtain ⟨b, _, rfl⟩ := List.mem_map.1 hx
  have := b.toNat_lt
  omega
theorem encs_byts {l : List Int} (h : oks l) : byts (encs l) := by
  intro x hx
  obtain ⟨y, hy, hxy⟩ := List.mem_flatMap.1 hx
  exact enc_byts (h y hy).1 (h y hy).2 x hxy
end Go.Proofs.Ytlpljhaogmfnkaa.Wire
