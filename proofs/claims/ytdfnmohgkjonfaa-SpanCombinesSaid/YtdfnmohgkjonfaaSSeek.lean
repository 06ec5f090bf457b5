/- seeker and its step: the ranges of a valid list that share integers with a range. -/
import Derived.Test.YtdfnmohgkjonfaaSUni
namespace Go.Proofs.Ytdfnmohgkjonfaa.Span
open Go.RowKit
open Go.Proofs.Ytdfnmohgkjonfaa.Wire
set_option linter.unusedVariables false

/-- nothing has changed but one block; there may be new ones -/
structure Bu (r : Nat) (w w' : World) : Prop where
  os : w'.os = w.os
  tape : w'.tape = w.tape
  output : w'.output = w.output
  size : w.heap.size ≤ w'.heap.size
  block : ∀ k, k < w.heap.size → k ≠ r → w'.heap[k]? = w.heap[k]?
theorem Bu.refl (r : Nat) (w : World) : Bu r w w := ⟨rfl, rfl, rfl, Nat.le_refl _, fun _ _ _ => rfl⟩
theorem Bu.trans {r : Nat} {w w1 w2 : World} (h : Bu r w w1) (g : Bu r w1 w2) : Bu r w w2 :=
  ⟨g.os.trans h.os, g.tape.trans h.tape, g.output.trans h.output, Nat.le_trans h.size g.size, fun k hk hr => (g.block k (Nat.lt_of_lt_of_le hk h.size) hr).trans (h.block k hk hr)⟩
theorem Bu.of {r : Nat} {w w1 : World} (h : Bl w w1) : Bu r w w1 := ⟨h.os, h.tape, h.output, h.size, fun k hk _ => h.block k hk⟩
theorem Bu.set {r : Nat} {w w1 : World} (h : Bu r w w1) (v : Value) : Bu r w (w1.setCell ⟨r, 0, none⟩ v) :=
  h.trans ⟨rfl, rfl, rfl, by simp [World.setCell], fun k _ hk => Below.heap_setCell _ _ _ _ hk⟩
theorem Bu.drewN {r : Nat} {w w1 : World} (h : Bu r w w1) (n : Nat) : Bu r w (w1.drewN n) := ⟨h.os, h.tape, h.output, h.size, h.block⟩
theorem Bu.bl {r : Nat} {w w1 w2 : World} (h : Bl w w1) (g : Bu r w1 w2) (hr : w.heap.size ≤ r) : Bl w w2 :=
  Below.trans h ⟨g.os, g.tape, g.output, g.size, fun k hk => g.block k (Nat.lt_of_lt_of_le hk h.size) (by omega)⟩
theorem Bu.below {B r : Nat} {w w1 w2 : World} (h : Below B w w1) (g : Bu r w1 w2) (hr : B ≤ r) (hB : B ≤ w1.heap.size) : Below B w w2 :=
  Below.trans h ⟨g.os, g.tape, g.output, g.size, fun k hk => g.block k (by omega) (by omega)⟩
theorem Bu.cell {r : Nat} {w w' : World} (h : Bu r w w') {p : Addr} (h1 : p.block < w.heap.size) (h2 : p.block ≠ r) : w'.cell? p = w.cell? p := World.cell?_of_block (h.block p.block h1 h2)
theorem ShP.bu {w w' : World} {B n r T n' c' : Nat} {A A' : Option Addr} {xs : List Pr} {fr : Nat × Nat} (h : ShP w B A n xs) (hr : w.heap[r]? = some (.cells #[.slice A' n' c'] T fr)) (hb : Bu r w w') : ShP w' B A n xs := by
  refine ⟨h.1, fun hn => ?_⟩
  obtain ⟨b, o, e, hlt, hc⟩ := h.2 hn
  have hne : b ≠ r := by
    rintro rfl
    have := (hc 0 hn).1
    rw [cell_of_row _ _ _ _ _ _ hr] at this
    rcases Nat.eq_zero_or_pos (o + 0 * 2) with e0 | e0
    · rw [e0] at this; simp at this
    · rw [Array.getElem?_eq_none (by simp; omega)] at this; cases this
  refine ⟨b, o, e, hlt, fun i hi => ?_⟩
  have hbl : b < w.heap.size := World.block_lt_of_cell? _ _ (hc 0 hn).1
  rw [hb.cell (p := ⟨b, _, none⟩) hbl hne, hb.cell (p := ⟨b, _, none⟩) hbl hne]
  exact hc i hi
theorem OwP.bu {w w' : World} {B n c r T n' c' : Nat} {e : TypeId} {A A' : Option Addr} {xs : List Pr} {fr : Nat × Nat} (h : OwP w B e A n c xs) (hr : w.heap[r]? = some (.cells #[.slice A' n' c'] T fr)) (hT : e ≠ T) (hb : Bu r w w') : OwP w' B e A n c xs := by
  refine ⟨h.1, ?_⟩
  rcases h.2 with h0 | ⟨g, cap, cur, hv, hg, hh, rest⟩
  · exact .inl h0
  · refine .inr ⟨g, cap, cur, hv, hg, ?_, rest⟩
    have hgl : g < w.heap.size := by
      rcases Nat.lt_or_ge g w.heap.size with h' | h'
      · exact h'
      · rw [Array.getElem?_eq_none h'] at hh; cases hh
    rw [hb.block g hgl ?_, hh]
    rintro rfl
    rw [hh] at hr
    injection hr with hr
    injection hr with _ h2 _
    exact hT h2
theorem ShP.drop {w : World} {B n m : Nat} {A A' : Option Addr} {xs : List Pr} (h : ShP w B A n xs) (hm : m ≤ n) (hA : m < n → ∀ b o, A = some ⟨b, o, none⟩ → A' = some ⟨b, o + m * 2, none⟩) : ShP w B A' (n - m) (xs.drop m) :=
  ⟨by rw [List.length_drop, h.1], fun hn => by
    obtain ⟨b, o, e, hb, hc⟩ := h.2 (by omega)
    refine ⟨b, o + m * 2, hA (by omega) b o e, hb, fun i hi => ?_⟩
    have := hc (m + i) (by omega)
    rw [show o + m * 2 + i * 2 = o + (m + i) * 2 by omega]
    simpa [List.getD] using this⟩
def sizeAt (w : World) (r : Nat) : Nat := match w.cell? ⟨r, 0, none⟩ with
  | some (.slice _ n _) => n
  | _ => 0
theorem sizeAt_of {w : World} {r n c : Nat} {A : Option Addr} (h : w.cell? ⟨r, 0, none⟩ = some (.slice A n c)) : sizeAt w r = n := by unfold sizeAt; rw [h]

/-- a step, and the list that it goes along -/
def Seeks (w : World) (R : List Pr) (e : Ending) (w' : World) : Prop :=
  ∃ (r : Nat) (A : Option Addr) (c : Nat), e = .returned (.func (.func 44) #[] #[.pointer (some ⟨r, 0, none⟩)]) ∧ w.heap.size ≤ r ∧ w'.heap[r]? = some (.cells #[.slice A R.length c] 22 (0, 0)) ∧ R.length ≤ c ∧ ShP w' w'.heap.size A R.length R ∧ Bl w w'

set_option maxHeartbeats 600000 in
theorem seeker_any (A : Option Addr) (n c : Nat) (ps : List Pr) (w : World) (hS : ShP w w.heap.size A n ps) (hc : n ≤ c) (ho : okp ps) (hm : n ≤ 67108864) :
    Calls Try.prog 37 #[.slice A n c] w (Seeks w (nor ps)) := by
  have hmf : ∀ (fn : Fn) (first cap : Array Value) (w : World), (Instr.makeFunc fn first cap).run Try.prog w = .ok (.func fn first cap) w := fun _ _ _ _ => rfl
  have R := hid (Normal_any A n c ps w hS hc ho hm)
  generalize nor ps = E at *
  go_enter Try.func37, Try.ntmps37
  go_wp2_with fail
  refine R.out.mono ?_
  rintro e w1 ⟨A1, c1, rfl, hs, hc1, hb⟩
  clear R
  go_wp2_with fail
  go_ret
  exact ⟨w1.heap.size, A1, c1, rfl, hb.size, heap_alloc_new w1 _, hc1, hs.al _, hb.alloc _⟩

/-- what a step leaves -/
def Step (r B : Nat) (R : List Pr) (g : Pr) (w : World) (e : Ending) (w' : World) : Prop :=
  ∃ (A A' : Option Addr) (j m c k c' : Nat), e = .returned (.slice A' k c') ∧ k ≤ c' ∧ ShP w' B A' k (R.filter (shr g)) ∧ w'.heap[r]? = some (.cells #[.slice A m c] 22 (0, 0)) ∧ m ≤ c ∧ m ≤ 1099511627776 ∧ ShP w' B A m (R.drop j) ∧ (∀ p ∈ R.take j, p.2 ≤ g.1) ∧ Bu r w w'

set_option maxHeartbeats 4000000 in
theorem step_any (r B : Nat) (A : Option Addr) (n c j0 : Nat) (R : List Pr) (x y : Int) (w : World) (hr : w.heap[r]? = some (.cells #[.slice A n c] 22 (0, 0))) (hc : n ≤ c) (hS : ShP w B A n (R.drop j0)) (hv : vd R) (hj0 : ∀ p ∈ R.take j0, p.2 ≤ x) (hxy : x < y) (hm : n ≤ 1099511627776) (hB : B ≤ w.heap.size) :
    Calls Try.prog 44 #[.agg #[.int .i64 x, .int .i64 y], .pointer (some ⟨r, 0, none⟩)] w (Step r B R (x, y) w) := by
  have hrl := lt_of_block hr
  have hb0 : Bl w (w.alloc (.cells #[.int .i64 x, .int .i64 y] 34)) := (Bl.refl w).alloc _
  have HR := hid ((hb0.block r hrl).trans hr)
  have HB0 := hid hb0
  have HS0 := hid (hS.below (hb0.mono hB))
  have HV := hid hv
  have HJ := hid hj0
  have hXY := hid hxy
  clear hr hv hj0 hS hb0 hxy
  go_enter Try.func44, Try.ntmps44
  go_wp2_with fail
  go_loopw [5, 6] (fun _ _ wr => ∃ (A' : Option Addr) (j m c' : Nat), wr.heap[r]? = some (.cells #[.slice A' m c'] 22 (0, 0)) ∧ m ≤ c' ∧ m ≤ 1099511627776 ∧ ShP wr B A' m (R.drop j) ∧ Hid (∀ p ∈ R.take j, p.2 ≤ x) ∧ Bu r (w.alloc (.cells #[.int .i64 x, .int .i64 y] 34)) wr) (fun _ _ wr => sizeAt wr r)
  case atStart => exact ⟨A, j0, n, c, HR.out, hc, hm, HS0.out, HJ, Bu.refl _ _⟩
  case round =>
    obtain ⟨A', j, m, c', hr', hmc, hmm, hs, hlt, hb⟩ := hrel
    have hcr := cell_of_one hr'
    have hfr := free_of_one hr'
    have bx1 := (hb.cell (p := ⟨w.heap.size, 0, none⟩) (by simp) (show w.heap.size ≠ r by omega)).trans (box_after (Bl.refl (w.alloc (.cells #[.int .i64 x, .int .i64 y] 34)))).1
    have bx2 := (hb.cell (p := ⟨w.heap.size, 1, none⟩) (by simp) (show w.heap.size ≠ r by omega)).trans (box_after (Bl.refl (w.alloc (.cells #[.int .i64 x, .int .i64 y] 34)))).2
    have HR' := hid hr'
    have HBu := hid hb
    clear hr' hb
    by_cases h0 : 0 < m
    · obtain ⟨b, o, rfl, hbl, hcell⟩ := hs.2 h0
      have hc0 := (hcell 0 h0).2
      rw [Nat.zero_mul, Nat.add_zero] at hc0
      have HC := hid hcell
      clear hcell
      by_cases hx : ((R.drop j).getD 0 (0, 0)).2 ≤ x
      · have heqd : R.drop (j + 1) = (R.drop j).drop 1 := by rw [List.drop_drop]
        have hs2 := ShP.drop hs (m := 1) (by omega) (A' := some ⟨b, o + 2, none⟩) (fun _ b' o' e => by injection e with e; injection e with e1 e2; subst e1 e2; rfl)
        have hs3 : m - 1 = 0 → ShP wr B (some ⟨b, o, none⟩) (m - 1) ((R.drop j).drop 1) := fun h => ShP.drop hs (m := 1) (by omega) (A' := some ⟨b, o, none⟩) (fun h' => absurd h' (by omega))
        rw [← heqd] at hs2 hs3
        have hl2 : Hid (∀ p ∈ R.take (j + 1), p.2 ≤ x) := by
          apply hid
          intro p hp
          have hjl : j < R.length := by have := hs.len; rw [List.length_drop] at this; omega
          have e : R.getD j (0, 0) = (R.drop j).getD 0 (0, 0) := by simp [List.getD]
          rw [take_snocP hjl] at hp
          rcases List.mem_append.1 hp with h | h
          · exact hlt.out p h
          · rw [List.mem_singleton.1 h, e]; exact hx
        have HS2 := hid hs2
        have HS3 := hid hs3
        generalize ((R.drop j).getD 0 (0, 0)).2 = z at *
        have b1 : (1 : Int) ≤ (m : Int) := by omega
        clear hs2 hs3 hs heqd hlt
        by_cases hc1 : c' = 1
        · have hm1 : m = 1 := by omega
          subst hc1
          subst hm1
          go_wp2_with fail
          go_quiet (fail)
          go_wp2_with fail
          have hb2 := (HBu.out.drewN nq).set (.slice (some ⟨b, o, none⟩) 0 0)
          have hr2 := one_setCell (w := wr.drewN nq) (u := .slice (some ⟨b, o, none⟩) 0 0) HR'.out
          refine ⟨⟨some ⟨b, o, none⟩, j + 1, 0, 0, hr2, by omega, by omega, ?_, hl2, hb2⟩, ?_⟩
          · exact ShP.bu (HS3.out (by trivial)) HR'.out (((Bu.refl r wr).drewN nq).set (.slice (some ⟨b, o, none⟩) 0 0))
          · rw [sizeAt_of hcr, sizeAt_of (cell_of_one hr2)]; omega
        · go_wp2_with fail
          go_quiet (fail)
          go_wp2_with fail
          have hb2 := (HBu.out.drewN nq).set (.slice (some ⟨b, o + 2, none⟩) (m - 1) (c' - 1))
          have hr2 := one_setCell (w := wr.drewN nq) (u := .slice (some ⟨b, o + 2, none⟩) (m - 1) (c' - 1)) HR'.out
          refine ⟨⟨some ⟨b, o + 2, none⟩, j + 1, m - 1, c' - 1, hr2, by omega, by omega, ?_, hl2, hb2⟩, ?_⟩
          · exact ShP.bu HS2.out HR'.out (((Bu.refl r wr).drewN nq).set (.slice (some ⟨b, o + 2, none⟩) (m - 1) (c' - 1)))
          · rw [sizeAt_of hcr, sizeAt_of (cell_of_one hr2)]; omega
      · have HD0 := hid hx
        have hDl := hid hs.len
        have HS := hid hs
        have t1 : decide (((R.drop j).getD 0 (0, 0)).2 ≤ x) = false := by simpa using hx
        generalize hD : R.drop j = D at *
        have HDD := hid hD
        generalize hz : (D.getD 0 (0, 0)).2 = z at *
        have HZ := hid hz
        clear hx hD hz hs
        go_wp2_with fail
        go_quiet (fail)
        rename World => w1
        go_wp2_with fail
        go_loopw [4] (fun a w2 => ∃ k : Nat, a = .int .i64 k ∧ k ≤ m ∧ Hid (∀ i, i < k → (D.getD i (0, 0)).1 < y) ∧ Q w1 w2) (fun a _ => m - (intOf a).toNat)
        case atStart => exact ⟨0, rfl, by omega, hid (fun i h => by omega), (Q.refl _).drewN _⟩
        case round =>
          obtain ⟨k, rfl, hk, hlo, hq⟩ := hrel
          obtain ⟨q, rfl⟩ := hq
          by_cases hkm : k < m
          · have hck := (HC.out k hkm).1
            by_cases hy : (D.getD k (0, 0)).1 < y
            · have hlo2 := hid (show ∀ i, i < k + 1 → (D.getD i (0, 0)).1 < y from fun i hi => by
                by_cases e : i = k
                · subst e; exact hy
                · exact hlo.out i (by omega))
              generalize (D.getD k (0, 0)).1 = u at *
              go_wp2_with fail
              go_quiet (fail)
              go_wp2_with fail
              go_roundw
              case rel => exact ⟨k + 1, by go_num, by omega, hlo2, ⟨_, rfl⟩⟩
              case measure => simp [intOf]; omega
            · have fin := hid (shared_are HV.out (show (x, y).1 < (x, y).2 from hXY.out) HDD.out.symm (show k ≤ D.length by rw [hDl.out]; omega) hlt.out (fun _ => by rw [HZ.out]; have := HD0.out; show x < z; omega) hlo.out (fun _ => by show y ≤ _; omega))
              have t2 : decide ((D.getD k (0, 0)).1 < y) = false := by simpa using hy
              have hsk := hid (HS.out.take (m := k) (by omega))
              generalize (D.getD k (0, 0)).1 = u at *
              go_wp2_with fail
              go_quiet (fail)
              go_wp2_with fail
              go_ret
              exact ⟨some ⟨b, o, none⟩, some ⟨b, o, none⟩, j, m, c', k, c', rfl, by omega, by rw [fin.out]; exact hsk.out, HR'.out, hmc, hmm, by rw [HDD.out]; exact HS.out, hlt.out, ((Bu.of HB0.out).trans HBu.out).drewN _⟩
          · obtain rfl : m = k := by omega
            have fin := hid (shared_are HV.out (show (x, y).1 < (x, y).2 from hXY.out) HDD.out.symm (show m ≤ D.length by rw [hDl.out]; omega) hlt.out (fun _ => by rw [HZ.out]; have := HD0.out; show x < z; omega) hlo.out (fun h => absurd h (by rw [hDl.out]; omega)))
            have hsk := hid (HS.out.take (m := m) (by omega))
            go_wp2_with fail
            go_quiet (fail)
            go_wp2_with fail
            go_ret
            exact ⟨some ⟨b, o, none⟩, some ⟨b, o, none⟩, j, m, c', m, c', rfl, by omega, by rw [fin.out]; exact hsk.out, HR'.out, hmc, hmm, by rw [HDD.out]; exact HS.out, hlt.out, ((Bu.of HB0.out).trans HBu.out).drewN _⟩
    · obtain rfl : m = 0 := by omega
      have hDl := hid hs.len
      have HS := hid hs
      generalize hD : R.drop j = D at *
      have HDD := hid hD
      have fin := hid (shared_are HV.out (show (x, y).1 < (x, y).2 from hXY.out) HDD.out.symm (show 0 ≤ D.length by omega) hlt.out (fun h => absurd h (by rw [hDl.out]; omega)) (fun i h => absurd h (by omega)) (fun h => absurd h (by rw [hDl.out]; omega)))
      have hsk := hid (HS.out.take (m := 0) (by omega))
      clear hD hs
      go_wp2_with fail
      go_quiet (fail)
      rename World => w1
      go_wp2_with fail
      go_loopw [4] (fun a w2 => a = .int .i64 0 ∧ Q w1 w2) (fun a _ => 0)
      case atStart => exact ⟨rfl, (Q.refl _).drewN _⟩
      case round =>
        obtain ⟨rfl, hq⟩ := hrel
        obtain ⟨q, rfl⟩ := hq
        go_wp2_with fail
        go_quiet (fail)
        go_wp2_with fail
        go_ret
        exact ⟨A', A', j, 0, c', 0, c', rfl, by omega, by rw [fin.out]; exact hsk.out, HR'.out, hmc, hmm, by rw [HDD.out]; exact HS.out, hlt.out, ((Bu.of HB0.out).trans HBu.out).drewN _⟩
end Go.Proofs.Ytdfnmohgkjonfaa.Span
