/- Arguments of a law opened: lists of integers as what they show; how large they are together. -/
import Derived.Test.YtjdkgndecnhokaaWWords
import Derived.ProofKit
import Derived.OpenShut
import Derived.ShutString
import Derived.ChangeOld
import Derived.Below
import Derived.SizedLaws
import Derived.JoinedCond
import Derived.Deep.RegionHeld3
namespace Go.Proofs.Ytjdkgndecnhokaa.Wire
open Go.ChangeShapes Go.WideShapes Go.ChangeAt Go.RowKit
set_option linter.unusedVariables false

theorem laidOut : laidOutB Try.prog = true := by kernel_rfl
theorem own : ownKnob Try.prog.godebug = none := by kernel_rfl

theorem open_row {H : Type} {enc : TypeId × Value → H} {W : World} {base : Nat} {t e : TypeId} {k : IntKind} {v : Value} {d : DataW H} {p : List MemPlace}
    (ht : Try.prog.underlying t = some (.slice e)) (he : Try.prog.underlying e = some (.int k)) (hc : Try.prog.cellsOf e = 1)
    (hval : Value.okWide Try.prog W .any base t v) (h : DataW.Trod enc Try.prog W 0 (fun _ => true) true t v d p) :
    ∃ (a : Option Addr) (len cap : Nat) (zs : List Int), v = .slice a len cap ∧ len ≤ cap ∧ cap ≤ maxLen ∧ zs.length = cap ∧ Sh W W.heap.size k a len (zs.take len) ∧ (∀ n ∈ zs, (Lit.int k n).wf = true) ∧
      ((d = .nil ∧ cap = 0) ∨ d = .slice (lits k (zs.take len)) (lits k (zs.drop len))) ∧ ∀ x ∈ p, x.block < W.heap.size := by
  have hlt : ∀ x ∈ p, x.block < W.heap.size := by obtain ⟨m, hm⟩ := h; exact DataW.trod_lt m _ _ _ hm
  obtain ⟨a, len, cap, rfl⟩ := okWide_slice ht hval
  obtain ⟨fuel, hf⟩ := h
  rcases open_ints ht he hc hf with ⟨hcs, hx⟩ | ⟨x, l, c, zs, hcs, _, hl, hm, hz, hx, hcell, hwz⟩
  · simp [Value.cells] at hcs
    obtain ⟨rfl, rfl, rfl⟩ := hcs
    injection hx with hx1 _
    exact ⟨none, 0, 0, [], rfl, Nat.le_refl _, by decide, rfl, Sh.nil _ _ _ _, (fun n hn => by cases hn), .inl ⟨hx1, rfl⟩, hlt⟩
  · simp [Value.cells] at hcs
    obtain ⟨rfl, rfl, rfl⟩ := hcs
    injection hx with hx1 _
    simp only [if_true] at hz
    refine ⟨some x, len, cap, zs, rfl, hl, hm, hz, ?_, hwz, .inr hx1, hlt⟩
    refine ⟨by rw [List.length_take]; omega, fun hn => ?_⟩
    obtain ⟨b, o, spot⟩ := x
    have hc0 := hcell 0 (by omega)
    have hspot : spot = none := by simpa [Addr.add] using World.cell?_spot hc0
    subst hspot
    refine ⟨b, o, rfl, ?_, fun i hi => ?_⟩
    · have := World.block_lt_of_cell? _ _ hc0
      rwa [add_lit'] at this
    · have := hcell i (by omega)
      rw [add_lit'] at this
      rw [this]
      simp [List.getD, List.getElem?_take_of_lt hi]

theorem lits_len (k : IntKind) (zs : List Int) {H : Type} : (lits k zs : List (DataW H)).length = zs.length := by simp [lits]

/-- the form's own reach, of a slice -/
theorem reach_row {H : Type} {ts : List TypeId} {ds : List (DataW H)} (hsz : (DataW.weightsEach Try.prog ts ds).all (· ≤ reachBytes) = true) {j : Nat} {t e : TypeId} {k : IntKind} {len cap : Nat} {zs : List Int} {d : DataW H} (b : Nat)
    (ht : ts[j]? = some t) (hj : ds[j]? = some d) (hu : Try.prog.underlying t = some (.slice e)) (hb : Try.prog.bytesOf e = b) (hz : zs.length = cap) (hlc : len ≤ cap)
    (hd : (d = .nil ∧ cap = 0) ∨ d = .slice (lits k (zs.take len)) (lits k (zs.drop len))) : cap * b ≤ 140737488351232 := by
  rcases hd with ⟨_, rfl⟩ | rfl
  · omega
  · have := sized_slice hsz ht hj hu
    rw [hb, lits_len, lits_len, List.length_take, List.length_drop, hz, Nat.min_eq_left hlc, show len + (cap - len) = cap by omega] at this
    exact this

theorem bulk_lits (k : IntKind) {H : Type} : ∀ zs : List Int, Rows.uptoBulkAll (lits k zs : List (DataW H)) = zs.length
  | [] => by simp [lits, Rows.uptoBulkAll]
  | z :: zs => by
    have := bulk_lits k zs (H := H)
    simp only [lits, List.map_cons, Rows.uptoBulkAll, Rows.uptoBulk, List.length_cons] at this ⊢
    omega
theorem bulk_row {H : Type} {k : IntKind} {len cap : Nat} {zs : List Int} {d : DataW H} (hz : zs.length = cap) (hlc : len ≤ cap)
    (hd : (d = .nil ∧ cap = 0) ∨ d = .slice (lits k (zs.take len)) (lits k (zs.drop len))) : cap ≤ Rows.uptoBulk d := by
  rcases hd with ⟨rfl, rfl⟩ | rfl
  · omega
  · simp only [Rows.uptoBulk, bulk_lits, List.length_take, List.length_drop]
    omega
theorem bulk_str {H : Type} (s : ByteArray) : s.size ≤ Rows.uptoBulk (DataW.lit (H := H) (.string s.data.toList)) := by
  simp only [Rows.uptoBulk, Array.length_toList]
  exact Nat.le_succ _

theorem wf_i64 {n : Int} (h : (Lit.int .i64 n).wf = true) : -9223372036854775808 ≤ n ∧ n ≤ 9223372036854775807 := by
  simpa [Lit.wf, IntKind.min, IntKind.max, IntKind.signed, IntKind.bits] using h
theorem wf_u8 {n : Int} (h : (Lit.int .u8 n).wf = true) : 0 ≤ n ∧ n ≤ 255 := by
  simpa [Lit.wf, IntKind.min, IntKind.max, IntKind.signed, IntKind.bits] using h
end Go.Proofs.Ytjdkgndecnhokaa.Wire
