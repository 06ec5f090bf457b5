/- The library's SortFunc with Union's comparison, at a row of ranges of the call's own. -/
import Derived.Test.YtdfnmohgkjonfaaSDel
import Derived.Test.YtdfnmohgkjonfaaShelf
namespace Go.Proofs.Ytdfnmohgkjonfaa.Span
open Go.RowKit
open Go.Proofs.Ytdfnmohgkjonfaa.Wire
set_option linter.unusedVariables false

def clo (x y : Pr) : Int := Lib.compareInt x.1 y.1
theorem ltClo (x y : Pr) : Go.Proofs.ltOf clo x y = decide (x.1 < y.1) := by
  unfold Go.Proofs.ltOf clo Lib.compareInt
  by_cases h1 : x.1 < y.1
  · simp [h1]
  · by_cases h2 : y.1 < x.1 <;> simp [h1, h2]
theorem swoClo : Go.Sort.SWO (Go.Proofs.ltOf clo) where
  irrefl x := by rw [ltClo]; simp
  trans x y z h1 h2 := by rw [ltClo] at *; simp at *; omega
  ntrans x y z h1 h2 := by rw [ltClo] at *; simp at *; omega

set_option maxHeartbeats 1000000 in
theorem lessU_any (x y : Pr) (W : World) : Calls Try.prog 35 #[.agg #[.int .i64 x.1, .int .i64 x.2], .agg #[.int .i64 y.1, .int .i64 y.2]] W fun e w' => e = .returned (.int .i64 (clo x y)) ∧ ∃ q os', w' = Sort.grow (W.drewN q) os' := by
  have hcon := hid (fun W' => Try.cmp_Compare_int x.1 y.1 W')
  unfold clo
  generalize Lib.compareInt x.1 y.1 = r at hcon ⊢
  generalize x.1 = x1 at *
  generalize x.2 = x2 at *
  generalize y.1 = y1 at *
  generalize y.2 = y2 at *
  go_enter Try.func35, Try.ntmps35
  go_wp2_with (go_at_call 36; refine (hcon.out _).mono ?_; rintro e w' ⟨rfl, rfl⟩)
  go_ret
  exact ⟨rfl, 0, _, by rw [Sort.alloc_eq_grow, Sort.alloc_eq_grow, Sort.grow_grow]; rfl⟩

set_option maxHeartbeats 1000000 in
theorem Sort_any (g n c : Nat) (ps : List Pr) (w : World) (B : Nat) (ho : OwP w B 34 (some ⟨g, 0, none⟩) n c ps) (hm : n ≤ 8796093022208) :
    Calls Try.prog 34 #[.slice (some ⟨g, 0, none⟩) n c, .func (.func 35) #[] #[]] w fun e w' => e = .returned (.tuple #[]) ∧ ∃ qs, qs.Perm ps ∧ qs.Pairwise (fun p q => p.1 ≤ q.1) ∧ OwP w' B 34 (some ⟨g, 0, none⟩) n c qs ∧ Below B w w' := by
  have hl := ho.len
  have hblk := ho.blk
  have eg : ∀ args w, (callFunc 35 args).run Try.prog w = .ok (.enter 35 args) w := enters_of Try.func35 (by kernel_rfl) rfl
  have hcon := AnyQ.slices_SortFunc Try.sortR 2 Try.isAgg34 Try.sizeOf34 pc (fun _ => rfl) (fun x v hv => by simp [pc] at hv; rcases hv with rfl | rfl <;> rfl) clo swoClo 35 #[] g 0 c ps.toArray w eg
    (fun _ _ _ _ x y => lessU_any x y _) ho.holds hblk.2 (by simp; omega)
  change Calls Try.prog 34 _ _ _ at hcon
  rw [show ps.toArray.size = n by simpa using hl] at hcon
  refine hcon.mono ?_
  rintro e w' ⟨rfl, d, q, os, hp, hs, rfl⟩
  have hd : d.size = n := by rw [hp.1]; simpa using hl
  have hdl : d.toList.toArray = d := by simp
  have hperm : d.toList.Perm ps := by
    have h := hp.2.2
    have e1 : d.extract 0 n = d := by rw [← hd]; simp
    have e2 : ps.toArray.extract 0 n = ps.toArray := by rw [← hl]; simp
    rw [e1, e2] at h
    simpa using h
  have hle : d.toList.Pairwise (fun p q => p.1 ≤ q.1) := List.pairwise_iff_getElem.2 fun i j hi hj hij => by
    have hi' : i < d.size := by simpa using hi
    have hj' : j < d.size := by simpa using hj
    have h := hs i j (Nat.zero_le _) hij (by omega)
    rw [ltClo] at h
    have e1 : d[i]! = d.toList[i] := by simp [getElem!_pos, hi']
    have e2 : d[j]! = d.toList[j] := by simp [getElem!_pos, hj']
    rw [e1, e2] at h
    simpa using h
  have h1 := ho.sorted q d.toList os (by simp [hd, hl])
  have h2 := below_sorted (Below.refl B w) hblk.1 hblk.2 q d os
  rw [hdl] at h1
  exact ⟨rfl, d.toList, hperm, hle, h1, h2⟩
end Go.Proofs.Ytdfnmohgkjonfaa.Span
