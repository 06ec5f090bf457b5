/- awake of the statements about wire: it returns true. -/
import Derived.Test.YtlpljhaogmfnkaaWList
import Derived.Test.YtlpljhaogmfnkaaWSame
namespace Go.Proofs.Ytlpljhaogmfnkaa.Wire
open Go.RowKit
set_option linter.unusedVariables false

theorem Sh.made (w : World) (k : IntKind) (t : TypeId) (xs : List Int) (cs : Array Value) (h : cs = (iv k xs).toArray) {g : Nat} (hg : g = w.heap.size) :
    Sh (w.alloc (.cells cs t)) (w.alloc (.cells cs t)).heap.size k (some ⟨g, 0, none⟩) xs.length xs := by
  subst hg
  refine ⟨rfl, fun _ => ⟨_, _, rfl, by simp, fun i hi => ?_⟩⟩
  rw [Nat.zero_add, cell_of_row _ _ _ _ _ _ (heap_alloc_new w _), h]
  simpa using iv_at hi

theorem byts_of {l : List Int} (h : (l.all fun x => decide (0 ≤ x ∧ x ≤ 255)) = true) : byts l := by
  intro x hx
  have := List.all_eq_true.1 h x hx
  simpa using this

def Bl (w w' : World) : Prop := Below w.heap.size w w'
theorem Bl.refl (w : World) : Bl w w := Below.refl _ _
theorem Bl.alloc {w w1 : World} (h : Bl w w1) (o : Obj) : Bl w (w1.alloc o) := Below.alloc h h.size o
theorem Bl.trans {w w1 w2 : World} (h : Bl w w1) (g : Bl w1 w2) : Bl w w2 := Below.trans h (g.mono h.size)
theorem Bl.q {w w1 w2 : World} (h : Bl w w1) (g : Q w1 w2) : Bl w w2 := by
  obtain ⟨n, rfl⟩ := g
  exact below_drewN h n

theorem int_at (l : List Int) (x y z : Int) (hb : (l.all fun x => decide (0 ≤ x ∧ x ≤ 255)) = true) (hl : l.length ≤ 1000) (h : dec l = (x, y, z)) (A : Option Addr) (w : World) (hS : Sh w w.heap.size .u8 A l.length l) :
    Calls Try.prog 11 #[.slice A l.length l.length] w fun e w' => e = .returned (.tuple #[.int .i64 x, .int .i64 y, .int .i64 z]) ∧ w = w' := by
  have := Int_any A l.length l.length l w _ hS (byts_of hb) (Nat.le_refl _) (by omega)
  obtain ⟨h1, h2, h3⟩ := d3 h
  rwa [← h1, ← h2, ← h3] at this
theorem text_at (l : List Int) (m : Int) (x : List Int) (y z : Int) (s : ByteArray) (hs : s = strOfNums x) (hb : (l.all fun x => decide (0 ≤ x ∧ x ≤ 255)) = true) (hl : l.length ≤ 1000) (h : tex l m = (x, y, z)) (A : Option Addr) (w : World) (hS : Sh w w.heap.size .u8 A l.length l) :
    Calls Try.prog 17 #[.slice A l.length l.length, .int .i64 m] w fun e w' => e = .returned (.tuple #[.string s, .int .i64 y, .int .i64 z]) ∧ w = w' := by
  have := Text_any A l.length l.length l m w _ hS (byts_of hb) (Nat.le_refl _) (by omega)
  obtain ⟨h1, h2, h3⟩ := t3 h
  subst hs
  rwa [← h1, ← h2, ← h3] at this
theorem list_at (l : List Int) (m : Int) (x : List Int) (y z : Int) (hb : (l.all fun x => decide (0 ≤ x ∧ x ≤ 255)) = true) (hl : l.length ≤ 1000) (h : lis l m = (x, y, z)) (A : Option Addr) (w : World) (hS : Sh w w.heap.size .u8 A l.length l) :
    Calls Try.prog 21 #[.slice A l.length l.length, .int .i64 m] w fun e w' => ∃ A' c', e = .returned (.tuple #[.slice A' x.length c', .int .i64 y, .int .i64 z]) ∧ Sh w' w'.heap.size .i64 A' x.length x ∧ Below w.heap.size w w' :=
  (List_any A l.length l.length l m w hS (byts_of hb) (Nat.le_refl _) (by omega) (by omega)).mono fun e w' ⟨A', n', c', he, ho, hbl⟩ => by
    obtain ⟨h1, h2, h3⟩ := l3 h
    rw [← h1] at ho
    rw [← h2, ← h3] at he
    obtain rfl := ho.len
    exact ⟨A', c', he, ho.sh, hbl⟩
theorem Sh.al {w : World} {k : IntKind} {A : Option Addr} {n : Nat} {xs : List Int} (h : Sh w w.heap.size k A n xs) (o : Obj) : Sh (w.alloc o) (w.alloc o).heap.size k A n xs := (h.alloc (Nat.le_refl _) o).more (by simp)
theorem same_at (xs : List Int) (hl : xs.length ≤ 1000) (A A' : Option Addr) (c c' : Nat) (w : World) (hS : Sh w w.heap.size .u8 A xs.length xs) (hS' : Sh w w.heap.size .u8 A' xs.length xs) :
    Calls Try.prog 13 #[.slice A xs.length c, .slice A' xs.length c'] w fun e w' => e = .returned (.bool true) ∧ Q w w' := Same_eq A A' _ c c' xs w _ _ hS hS' (by omega)
theorem sameInts_at (xs : List Int) (hl : xs.length ≤ 1000) (A A' : Option Addr) (c c' : Nat) (w : World) (hS : Sh w w.heap.size .i64 A xs.length xs) (hS' : Sh w w.heap.size .i64 A' xs.length xs) :
    Calls Try.prog 25 #[.slice A xs.length c, .slice A' xs.length c'] w fun e w' => e = .returned (.bool true) ∧ Q w w' := SameInts_eq A A' _ c c' xs w _ _ hS hS' (by omega)
def okB (N : Int) : Bool := decide (-9223372036854775808 ≤ N ∧ N ≤ 9223372036854775807)
theorem putint_at (l : List Int) (N : Int) (z : List Int) (hN : okB N = true) (hl : l.length ≤ 1000) (h : l ++ enc N = z) (A : Option Addr) (w : World) (hS : Sh w w.heap.size .u8 A l.length l) :
    Calls Try.prog 14 #[.slice A l.length l.length, .int .i64 N] w fun e w' => ∃ A' c', e = .returned (.slice A' z.length c') ∧ Sh w' w'.heap.size .u8 A' z.length z ∧ Below w.heap.size w w' :=
  (PutInt_any A l.length l.length l N w hS (of_decide_eq_true hN).1 (of_decide_eq_true hN).2 (Nat.le_refl _) (by omega) (by omega)).mono fun e w' ⟨A', n', c', he, ho, hbl⟩ => by
    rw [h] at ho
    obtain rfl := ho.len
    exact ⟨A', c', he, ho.sh, hbl⟩
theorem puttext_at (s : ByteArray) (z : List Int) (hl : s.size ≤ 1000) (h : enc s.size ++ sb s = z) (w : World) :
    Calls Try.prog 19 #[.slice none 0 0, .string s] w fun e w' => ∃ A' c', e = .returned (.slice A' z.length c') ∧ Sh w' w'.heap.size .u8 A' z.length z ∧ Below w.heap.size w w' :=
  (PutText_any none 0 0 [] s w (Sh.nil _ _ _ _) (Nat.le_refl _) (by omega) (by omega)).mono fun e w' ⟨A', n', c', he, ho, hbl⟩ => by
    rw [List.nil_append, h] at ho
    obtain rfl := ho.len
    exact ⟨A', c', he, ho.sh, hbl⟩
theorem putlist_at (l z : List Int) (hl : l.length ≤ 1000) (hb : (l.all fun x => decide (-9223372036854775808 ≤ x ∧ x ≤ 9223372036854775807)) = true) (h : enc l.length ++ encs l = z) (A : Option Addr) (c : Nat) (w : World) (hS : Sh w w.heap.size .i64 A l.length l) :
    Calls Try.prog 23 #[.slice none 0 0, .slice A l.length c] w fun e w' => ∃ A' c', e = .returned (.slice A' z.length c') ∧ Sh w' w'.heap.size .u8 A' z.length z ∧ Below w.heap.size w w' :=
  (PutList_any none 0 0 [] A l.length c l w (Sh.nil _ _ _ _) hS (fun x hx => by simpa using List.all_eq_true.1 hb x hx) (Nat.le_refl _) (by omega) (by omega)).mono fun e w' ⟨A', n', c', he, ho, hbl⟩ => by
    rw [List.nil_append, h] at ho
    obtain rfl := ho.len
    exact ⟨A', c', he, ho.sh, hbl⟩

set_option maxRecDepth 100000 in
set_option maxHeartbeats 2000000 in
theorem awake_any (w : World) : Calls Try.prog 16 #[] w fun e w' => e = .returned (.bool true) ∧ Bl w w' := by
  have k1 := hid (int_at [128, 1, 7] 64 2 0 (by decide) (by decide) (by decide +kernel))
  have k2 := hid (int_at [128, 0] 0 0 4 (by decide) (by decide) (by decide +kernel))
  have k3 := hid (int_at [128] 0 0 5 (by decide) (by decide) (by decide +kernel))
  have k4 := hid (text_at [4, 97, 98, 99] 2 [97, 98] 3 0 ⟨#[97, 98]⟩ (by kernel_rfl) (by decide) (by decide) (by decide +kernel))
  have k5 := hid (text_at [4, 97, 98, 99] 1 [] 0 3 ⟨#[]⟩ (by kernel_rfl) (by decide) (by decide) (by decide +kernel))
  have k6 := hid (list_at [4, 2, 3, 5] 9 [1, -2] 3 0 (by decide) (by decide) (by decide +kernel))
  have k7 := hid (putint_at [9] (-1) [9, 1] (by decide) (by decide) (by decide +kernel))
  have k8 := hid (puttext_at ⟨#[97, 98]⟩ [4, 97, 98] (by decide) (by decide +kernel))
  have k9 := hid (putlist_at [1, -2] [4, 2, 3] (by decide) (by decide) (by decide +kernel))
  simp only [List.length_cons, List.length_nil, Nat.zero_add, Nat.reduceAdd] at k1 k2 k3 k4 k5 k6 k7 k8 k9
  go_enter Try.func16, Try.ntmps16
  go_wp2_with fail
  refine (k1.out _ _ ?_).mono ?_
  · exact Sh.made _ _ _ _ _ rfl (by simp)
  rintro e w' ⟨rfl, rfl⟩
  go_wp2_with fail
  refine (k2.out _ _ ?_).mono ?_
  · exact Sh.made _ _ _ _ _ rfl (by simp)
  rintro e w' ⟨rfl, rfl⟩
  go_wp2_with fail
  refine (k3.out _ _ ?_).mono ?_
  · exact Sh.made _ _ _ _ _ rfl (by simp)
  rintro e w' ⟨rfl, rfl⟩
  go_wp2_with fail
  refine (k4.out _ _ ?_).mono ?_
  · exact Sh.made _ _ _ _ _ rfl (by simp)
  rintro e w' ⟨rfl, rfl⟩
  go_wp2_with fail
  refine (k5.out _ _ ?_).mono ?_
  · exact Sh.made _ _ _ _ _ rfl (by simp)
  rintro e w' ⟨rfl, rfl⟩
  go_wp2_with fail
  refine (k6.out _ _ ?_).mono ?_
  · exact Sh.made _ _ _ _ _ rfl (by simp)
  rintro e w1 ⟨A1, c1, rfl, hs1, hb1⟩
  have B1 : Bl w w1 := ((((((Bl.refl w).alloc _).alloc _).alloc _).alloc _).alloc _).alloc _ |>.trans hb1
  clear hb1
  go_wp2_with fail
  refine (sameInts_at [1, -2] (by decide) _ _ _ _ _ ?_ ?_).mono ?_
  · exact hs1.al _
  · exact Sh.made _ _ _ _ _ rfl (by simp)
  rintro e w2 ⟨rfl, hq⟩
  have B2 := (B1.alloc _).q hq
  clear hq B1 hs1
  go_wp2_with fail
  refine (k7.out _ _ ?_).mono ?_
  · exact Sh.made _ _ _ _ _ rfl (by simp)
  rintro e w3 ⟨A3, c3, rfl, hs3, hb3⟩
  have B3 := (B2.alloc _).trans hb3
  clear hb3 B2
  go_wp2_with fail
  refine (same_at [9, 1] (by decide) _ _ _ _ _ ?_ ?_).mono ?_
  · exact hs3.al _
  · exact Sh.made _ _ _ _ _ rfl (by simp)
  rintro e w4 ⟨rfl, hq⟩
  have B4 := (B3.alloc _).q hq
  clear hq B3 hs3
  go_wp2_with fail
  refine (k8.out _).mono ?_
  rintro e w5 ⟨A5, c5, rfl, hs5, hb5⟩
  have B5 := B4.trans hb5
  clear hb5 B4
  go_wp2_with fail
  refine (same_at [4, 97, 98] (by decide) _ _ _ _ _ ?_ ?_).mono ?_
  · exact hs5.al _
  · exact Sh.made _ _ _ _ _ rfl (by simp)
  rintro e w6 ⟨rfl, hq⟩
  have B6 := (B5.alloc _).q hq
  clear hq B5 hs5
  go_wp2_with fail
  refine (k9.out _ _ _ ?_).mono ?_
  · exact Sh.made _ _ _ _ _ rfl (by simp)
  rintro e w7 ⟨A7, c7, rfl, hs7, hb7⟩
  have B7 := (B6.alloc _).trans hb7
  clear hb7 B6
  go_wp2_with fail
  refine (same_at [4, 2, 3] (by decide) _ _ _ _ _ ?_ ?_).mono ?_
  · exact hs7.al _
  · exact Sh.made _ _ _ _ _ rfl (by simp)
  rintro e w8 ⟨rfl, hq⟩
  have B8 := (B7.alloc _).q hq
  clear hq B7 hs7
  go_wp2_with fail
  go_ret
  exact ⟨rfl, B8⟩
end Go.Proofs.Ytlpljhaogmfnkaa.Wire
