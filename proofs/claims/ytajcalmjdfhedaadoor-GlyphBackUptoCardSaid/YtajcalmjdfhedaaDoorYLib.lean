/- The library's IndexFunc with strong, and Reverse of a list of lists. -/
import Derived.Test.YtajcalmjdfhedaaDoorYRow
import Derived.Test.YtajcalmjdfhedaaDoorYTab
import Derived.Deep.LoopGhost
import Derived.Shelf.RegionOpenPlain
import Derived.Lib.SlicesMore
import Derived.Sort.WalkB12
namespace Go.Proofs.YtajcalmjdfhedaaDoor.Glyph
open Go.RowKit Go.Sort
open Go.Proofs.YtajcalmjdfhedaaDoor.Wire
set_option linter.unusedVariables false

/-- the first strong one -/
def IdxOut (xs : List Int) (w : World) (e : Ending) (w' : World) : Prop :=
  ((e = .returned (.int .i64 (-1)) ∧ ∀ x ∈ xs, st x = 0) ∨ ∃ k : Nat, k < xs.length ∧ e = .returned (.int .i64 (k : Nat)) ∧ (∀ j, j < k → st (xs.getD j 0) = 0) ∧ st (xs.getD k 0) ≠ 0) ∧ Bl w w'
theorem st_zero (r : Int) : st r = 0 ↔ scr r = 0 := by have := st_cases r; omega
theorem mem_at {xs : List Int} {j : Nat} (hj : j < xs.length) : xs.getD j 0 ∈ xs := by
  have : xs.getD j 0 = xs[j] := by simp [List.getD, List.getElem?_eq_getElem hj]
  rw [this]; exact List.getElem_mem _
set_option maxHeartbeats 1000000 in
theorem Index_any (A : Option Addr) (n c : Nat) (xs : List Int) (w : World) (hS : Sh w w.heap.size .i64 A n xs) (hm : n ≤ 1048576) (hO : ∀ x ∈ xs, -9223372036854775808 ≤ x ∧ x ≤ 9223372036854775807) (hT : Tab w) :
    Calls Tryd.prog 46 #[.slice A n c, .func (.func 47) #[] #[]] w (IdxOut xs w) := by
  have hl := hS.len
  have cS := hid (fun r w' (hb : Bl w w') (h0 : -9223372036854775808 ≤ r) (h1 : r ≤ 9223372036854775807) => gstrong_any r w' h0 h1 (hT.bl hb))
  have HO := hid hO
  clear hO hT
  go_enter Tryd.func46, Tryd.ntmps46
  go_wp2_with fail
  go_loopw [8, 5] (fun i _ wr => ∃ k : Nat, i = .int .i64 (k : Nat) ∧ k ≤ n ∧ Hid (∀ j, j < k → st (xs.getD j 0) = 0) ∧ Bl w wr) (fun i _ _ => n - (intOf i).toNat)
  case atStart => exact ⟨0, rfl, by omega, hid (fun j hj => by omega), Bl.refl _⟩
  case round =>
    obtain ⟨k, rfl, hk, hz, hb⟩ := hrel
    by_cases hlt : k < n
    · obtain ⟨b, o, rfl, _, hcell⟩ := (hS.bl hb).2 (by omega)
      have hc1 := hcell k hlt
      have hx := HO.out _ (mem_at (xs := xs) (j := k) (by omega))
      have cS1 := hid (cS.out _ wr hb hx.1 hx.2)
      clear hcell hS
      have hst := hid (st_zero (xs.getD k 0))
      obtain ⟨X, hX⟩ : ∃ X, X = xs.getD k 0 := ⟨_, rfl⟩
      have HX := hid hX
      rw [← hX] at hc1 cS1 hst
      clear hX hx
      cases hs : (scr X == 0)
      · rw [hs] at cS1
        have h0 : scr X ≠ 0 := beq_eq_false_iff_ne.1 hs
        clear hs
        generalize scr X = S at *
        go_wp2_with (go_at_call 47; refine cS1.out.mono ?_; rintro e w3 ⟨rfl, hb3⟩)
        go_ret
        exact ⟨.inr ⟨k, by omega, rfl, hz.out, by rw [← HX.out]; exact fun h => h0 (hst.out.1 h)⟩, hb.trans hb3⟩
      · rw [hs] at cS1
        have h0 : scr X = 0 := eq_of_beq hs
        clear hs
        go_wp2_with (go_at_call 47; refine cS1.out.mono ?_; rintro e w3 ⟨rfl, hb3⟩)
        go_roundw
        case rel => exact ⟨k + 1, by go_num, by omega, hid (fun j hj => by rcases Nat.lt_or_ge j k with g | g; exact hz.out j g; rw [show j = k by omega, ← HX.out]; exact hst.out.2 h0), hb.trans hb3⟩
        case measure => simp [intOf]; omega
    · obtain rfl : k = n := by omega
      go_wp2_with fail
      go_ret
      refine ⟨.inl ⟨rfl, fun x hx => ?_⟩, hb⟩
      obtain ⟨i, hi, rfl⟩ := List.mem_iff_getElem.1 hx
      have := hz.out i (by omega)
      simpa [List.getD, List.getElem?_eq_getElem hi] using this

/-- a slice as a value -/
abbrev Tr := Option Addr × Nat × Nat
def sv (p : Tr) : Value := .slice p.1 p.2.1 p.2.2
set_option maxHeartbeats 1600000 in
set_option maxRecDepth 1000000 in
theorem Rev2_arr (blk cap : Nat) (d : Array Tr) (w : World) (hH : Holds sv w blk 0 d) (hsz : d.size ≤ 1048576) :
    Calls Tryd.prog 39 #[.slice (some ⟨blk, 0, none⟩) d.size cap] w fun e w' => e = .returned (.tuple #[]) ∧ ∃ n, w' = putRow sv (Sort.ahead w n) blk 0 d.reverse := by
  go_enter Tryd.func39, Tryd.ntmps39
  go_wp2
  go_loopg [2, 3] d.size (fun k s2 s3 wr => ∃ (i jn : Nat) (jz : Int) (dk : Array Tr) (n : Nat), s2 = .int .i64 i ∧ s3 = .int .i64 jz ∧ ((i : Int) < jz → jz = jn ∧ jn < d.size) ∧ (¬ (i : Int) < jz → ¬ i < jn) ∧ jn - i ≤ k ∧
    dk.size = d.size ∧ wr = putRow sv (Sort.ahead w n) blk 0 dk ∧ reverseLoop i jn dk = reverseLoop 0 (d.size - 1) d)
  case atStart => exact ⟨0, d.size - 1, (d.size : Int) - 1, d, 0, rfl, rfl, fun h => ⟨by omega, by omega⟩, fun h => by omega, by omega, rfl, (putRow_self sv w blk 0 d hH).symm, rfl⟩
  case round =>
    obtain ⟨i, jn, jz, dk, n, rfl, rfl, h1, h2, hk, hds, hwr, heq⟩ := hrel
    by_cases hlt : (i : Int) < jz
    · obtain ⟨rfl, hjn⟩ := h1 hlt
      have hij : i < jn := by omega
      have hHk : Holds sv wr blk 0 dk := by rw [hwr]; exact holds_putRow sv _ blk 0 d dk (holds_ahead sv w n blk 0 d hH) hds
      obtain ⟨ci, fi⟩ := hHk i (by omega)
      obtain ⟨cj, fj⟩ := hHk jn (by omega)
      have A : Aside (wr = putRow sv (Sort.ahead w n) blk 0 dk) := hwr
      clear hwr hHk hH h1 h2
      have hvi : sv dk[i]! = .slice dk[i]!.1 dk[i]!.2.1 dk[i]!.2.2 := rfl
      have hvj : sv dk[jn]! = .slice dk[jn]!.1 dk[jn]!.2.1 dk[jn]!.2.2 := rfl
      rw [hvi] at ci
      rw [hvj] at cj
      clear hvi hvj
      rw [Nat.zero_add] at ci cj fi fj
      go_wp2_with fail
      go_region
      go_wp2
      go_roundg (jn - 1 - (i + 1))
      case measure => omega
      case rel =>
        rw [reverseLoop, if_pos hij] at heq
        refine ⟨i + 1, jn - 1, (jn : Int) - 1, swp dk i jn, n + 1, by simp, rfl, fun h => ⟨by omega, by omega⟩, fun h => by omega, Nat.le_refl _, by rw [size_swp]; exact hds, ?_, heq⟩
        have := swap_world sv (blk := blk) (off := 0) (by omega) (by omega) A.out (x := sv dk[jn]!) (y := sv dk[i]!) rfl rfl
        rw [Nat.zero_add, Nat.zero_add, getElem!_pos dk jn (by omega)] at this
        exact this
    · have hnot := h2 hlt
      go_wp2
      go_end0
      refine ⟨rfl, n, ?_⟩
      rw [reverseLoop, if_neg hnot] at heq
      rw [← Lib.reverseLoop_reverse, ← heq]

/-- a list of lists in reverse -/
theorem rev2_any (g c B : Nat) (L : List Tr) (w : World) (h : Vw w B 22 (some ⟨g, 0, none⟩) L.length c (L.map sv)) (hm : L.length ≤ 1048576) :
    Calls Tryd.prog 39 #[.slice (some ⟨g, 0, none⟩) L.length c] w fun e w' => e = .returned (.tuple #[]) ∧ Vw w' B 22 (some ⟨g, 0, none⟩) L.length c (L.reverse.map sv) ∧ Bu g w w' := by
  have hH := Vw.holds (enc := sv) h (s := 0) (k := L.length) (by omega)
  have e1 : (List.take L.length (List.drop 0 L)) = L := by simp
  rw [e1] at hH
  have r := Rev2_arr g c L.toArray w hH (by simpa using hm)
  rw [List.size_toArray] at r
  refine r.mono ?_
  rintro e w' ⟨rfl, q, rfl⟩
  have hv := Vw.rvp (enc := sv) h (s := 0) (k := L.length) (q := q) (by omega)
  rw [e1] at hv
  have e2 : Glyph.rvp 0 L.length L = L.reverse := by unfold Glyph.rvp; simp
  rw [e2] at hv
  refine ⟨rfl, ?_, ?_⟩
  · simpa using hv
  · exact bu_put
end Go.Proofs.YtajcalmjdfhedaaDoor.Glyph
