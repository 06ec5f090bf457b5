/- Contracts of the statements' own functions about ranges: few, valid, near, moved. -/
import Derived.Test.YtdfnmohgkjonfaaSRefs
namespace Go.Proofs.Ytdfnmohgkjonfaa.Span
open Go.RowKit
open Go.Proofs.Ytdfnmohgkjonfaa.Wire
set_option linter.unusedVariables false

set_option maxHeartbeats 400000 in
theorem few_yes (A : Option Addr) (n c : Nat) (A1 : Option Addr) (n1 c1 : Nat) (A2 : Option Addr) (n2 c2 : Nat) (w : World) (h : n ≤ 60) (h1 : n1 ≤ 60) (h2 : n2 ≤ 60) :
    Calls Try.prog 11 #[.slice A n c, .slice A1 n1 c1, .slice A2 n2 c2] w fun e w' => e = .returned (.bool true) ∧ w = w' := by
  have t : decide ((n : Int) ≤ 60) = true := by simp; omega
  have t1 : decide ((n1 : Int) ≤ 60) = true := by simp; omega
  have t2 : decide ((n2 : Int) ≤ 60) = true := by simp; omega
  go_enter Try.func11, Try.ntmps11
  go_wp2_with fail
  go_ret
  exact ⟨rfl, rfl⟩
set_option maxHeartbeats 800000 in
theorem few_no (A : Option Addr) (n c : Nat) (A1 : Option Addr) (n1 c1 : Nat) (A2 : Option Addr) (n2 c2 : Nat) (w : World) (h : ¬ (n ≤ 60 ∧ n1 ≤ 60 ∧ n2 ≤ 60)) :
    Calls Try.prog 11 #[.slice A n c, .slice A1 n1 c1, .slice A2 n2 c2] w fun e w' => e = .returned (.bool false) ∧ w = w' := by
  rcases (show (¬ n ≤ 60) ∨ (n ≤ 60 ∧ ¬ n1 ≤ 60) ∨ (n ≤ 60 ∧ n1 ≤ 60 ∧ ¬ n2 ≤ 60) by omega) with g | ⟨g, g1⟩ | ⟨g, g1, g2⟩
  · have t : decide ((n : Int) ≤ 60) = false := by simp; omega
    go_enter Try.func11, Try.ntmps11
    go_wp2_with fail
    go_ret
    exact ⟨rfl, rfl⟩
  · have t : decide ((n : Int) ≤ 60) = true := by simp; omega
    have t1 : decide ((n1 : Int) ≤ 60) = false := by simp; omega
    go_enter Try.func11, Try.ntmps11
    go_wp2_with fail
    go_ret
    exact ⟨rfl, rfl⟩
  · have t : decide ((n : Int) ≤ 60) = true := by simp; omega
    have t1 : decide ((n1 : Int) ≤ 60) = true := by simp; omega
    have t2 : decide ((n2 : Int) ≤ 60) = false := by simp; omega
    go_enter Try.func11, Try.ntmps11
    go_wp2_with fail
    go_ret
    exact ⟨rfl, rfl⟩

/-- bounds from -2^40 to 2^40 -/
def nr (p : Pr) : Prop := (-1099511627776 ≤ p.1 ∧ p.1 ≤ 1099511627776) ∧ (-1099511627776 ≤ p.2 ∧ p.2 ≤ 1099511627776)
def nearb (l : List Pr) : Bool := l.all fun p => decide ((-1099511627776 ≤ p.1 ∧ p.1 ≤ 1099511627776) ∧ (-1099511627776 ≤ p.2 ∧ p.2 ≤ 1099511627776))
theorem nearb_iff (l : List Pr) : nearb l = true ↔ ∀ p ∈ l, nr p := by
  unfold nearb nr
  rw [List.all_eq_true]
  simp only [decide_eq_true_iff]
theorem getD_memP {l : List Pr} {k : Nat} (h : k < l.length) : l.getD k (0, 0) ∈ l := by
  have : l.getD k (0, 0) = l[k] := by simp [List.getD, List.getElem?_eq_getElem h]
  rw [this]; exact List.getElem_mem _
set_option maxHeartbeats 1000000 in
theorem near_any (A : Option Addr) (n c : Nat) (ps : List Pr) (w : World) (B : Nat) (hS : ShP w B A n ps) (hm : n ≤ 8796093022208) :
    Calls Try.prog 29 #[.slice A n c] w fun e w' => e = .returned (.bool (nearb ps)) ∧ w = w' := by
  have hl := hid hS.len
  go_enter Try.func29, Try.ntmps29
  go_wp2_with fail
  go_loop [3] (fun i => ∃ (k : Nat), i = .int .i64 k ∧ k ≤ n ∧ Hid (∀ p ∈ ps.take k, nr p)) (fun i => n - (intOf i).toNat)
  case atStart => exact ⟨0, rfl, by omega, hid (fun p hp => by simp at hp)⟩
  case round =>
    obtain ⟨k, rfl, hk, hn⟩ := hrel
    by_cases hlt : k < n
    · obtain ⟨b, o, rfl, _, hcell⟩ := hS.2 (by omega)
      obtain ⟨hc1, hc2⟩ := hcell k hlt
      have hsn := hid (take_snocP (l := ps) (i := k) (by rw [hl.out]; omega))
      have hgm := hid (getD_memP (l := ps) (k := k) (by rw [hl.out]; omega))
      clear hcell
      generalize ps.getD k (0, 0) = p at *
      obtain ⟨x, y⟩ := p
      simp only at hc1 hc2
      have no : ¬ nr (x, y) → Hid (nearb ps = false) := fun h => hid (by
        cases e : nearb ps
        · rfl
        · exact absurd ((nearb_iff ps).1 e _ hgm.out) h)
      by_cases h1 : x < -1099511627776
      · have fin := no (fun h => by have := h.1.1; simp only at this; omega)
        clear no
        go_wp2_with fail
        go_ret
        exact ⟨retB fin.out.symm, rfl⟩
      have t1 : decide (x < -1099511627776) = false := by simpa using h1
      by_cases h2 : 1099511627776 < x
      · have fin := no (fun h => by have := h.1.2; simp only at this; omega)
        clear no h1
        go_wp2_with fail
        go_ret
        exact ⟨retB fin.out.symm, rfl⟩
      have t2 : decide (1099511627776 < x) = false := by simpa using h2
      by_cases h3 : y < -1099511627776
      · have fin := no (fun h => by have := h.2.1; simp only at this; omega)
        clear no h1 h2
        go_wp2_with fail
        go_ret
        exact ⟨retB fin.out.symm, rfl⟩
      have t3 : decide (y < -1099511627776) = false := by simpa using h3
      by_cases h4 : 1099511627776 < y
      · have fin := no (fun h => by have := h.2.2; simp only at this; omega)
        clear no h1 h2 h3
        go_wp2_with fail
        go_ret
        exact ⟨retB fin.out.symm, rfl⟩
      have t4 : decide (1099511627776 < y) = false := by simpa using h4
      have hok : Hid (nr (x, y)) := hid ⟨⟨by show _ ≤ x; omega, by show x ≤ _; omega⟩, ⟨by show _ ≤ y; omega, by show y ≤ _; omega⟩⟩
      clear no h1 h2 h3 h4
      go_wp2_with fail
      go_round
      case rel => exact ⟨k + 1, by go_num, by omega, hid (by rw [hsn.out]; intro p hp; rcases List.mem_append.1 hp with hp | hp; exact hn.out p hp; obtain rfl := List.mem_singleton.1 hp; exact hok.out)⟩
      case measure => simp [intOf]; omega
    · obtain rfl : k = n := by omega
      have fin : Hid (nearb ps = true) := hid ((nearb_iff ps).2 (by have := hn.out; rwa [take_allP (by rw [hl.out]; omega)] at this))
      go_wp2_with fail
      go_ret
      exact ⟨retB fin.out.symm, rfl⟩

set_option maxHeartbeats 1000000 in
theorem valid_any (A : Option Addr) (n c : Nat) (ps : List Pr) (w : World) (B : Nat) (hS : ShP w B A n ps) (hm : n ≤ 8796093022208) :
    Calls Try.prog 28 #[.slice A n c] w fun e w' => e = .returned (.bool (vdb ps)) ∧ Q w w' := by
  have hl := hid hS.len
  go_enter Try.func28, Try.ntmps28
  go_wp2_with fail
  go_loopw [3] (fun i wr => ∃ (k : Nat), i = .int .i64 k ∧ k ≤ n ∧ Hid (∀ i, i < k → (ps.getD i (0, 0)).1 < (ps.getD i (0, 0)).2 ∧ (0 < i → (ps.getD (i - 1) (0, 0)).2 < (ps.getD i (0, 0)).1)) ∧ Q w wr) (fun i _ => n - (intOf i).toNat)
  case atStart => exact ⟨0, rfl, by omega, hid (fun i hi => by omega), Q.refl _⟩
  case round =>
    obtain ⟨k, rfl, hk, hn, hq⟩ := hrel
    by_cases hlt : k < n
    · obtain ⟨b, o, rfl, _, hcell⟩ := (hS.below (hq.below B)).2 (by omega)
      obtain ⟨hc1, hc2⟩ := hcell k hlt
      have no : ¬ ((ps.getD k (0, 0)).1 < (ps.getD k (0, 0)).2 ∧ (0 < k → (ps.getD (k - 1) (0, 0)).2 < (ps.getD k (0, 0)).1)) → Hid (vdb ps = false) := fun h => hid (by
        cases e : vdb ps
        · rfl
        · exact absurd (vd_steps.1 (vdb_iff.1 e) k (by rw [hl.out]; exact hlt)) h)
      have yes : ((ps.getD k (0, 0)).1 < (ps.getD k (0, 0)).2 ∧ (0 < k → (ps.getD (k - 1) (0, 0)).2 < (ps.getD k (0, 0)).1)) → Hid (∀ i, i < k + 1 → (ps.getD i (0, 0)).1 < (ps.getD i (0, 0)).2 ∧ (0 < i → (ps.getD (i - 1) (0, 0)).2 < (ps.getD i (0, 0)).1)) := fun h => hid (fun i hi => by
        by_cases e : i = k
        · subst e; exact h
        · exact hn.out i (by omega))
      have i0 : (0 : Int) ≤ (k : Int) := by omega
      have i1 : (k : Int) < (n : Int) := by omega
      by_cases h1 : (ps.getD k (0, 0)).1 < (ps.getD k (0, 0)).2
      · rcases Nat.eq_zero_or_pos k with h0 | h0
        · have fin := yes ⟨h1, fun g => by omega⟩
          clear yes no hcell
          generalize ps.getD k (0, 0) = p at hc1 hc2 h1
          obtain ⟨x, y⟩ := p
          simp only at hc1 hc2 h1
          have t1 : decide (y ≤ x) = false := by simp; omega
          have t2 : decide ((0 : Int) < (k : Int)) = false := by simp; omega
          have t3 : ¬ 0 < k := by omega
          clear h0
          go_wp2_with fail
          go_quiet (fail)
          go_wp2_with fail
          go_roundw
          case rel => exact ⟨k + 1, by go_num, by omega, fin, hq.drewN _⟩
          case measure => simp [intOf]; omega
        · obtain ⟨j, rfl⟩ : ∃ j, k = j + 1 := ⟨k - 1, by omega⟩
          obtain ⟨_, hc3⟩ := hcell j (by omega)
          rw [Nat.add_sub_cancel] at yes no
          have j0 : (0 : Int) ≤ (j : Int) := by omega
          have j1 : (j : Int) < (n : Int) := by omega
          by_cases h2 : (ps.getD j (0, 0)).2 < (ps.getD (j + 1) (0, 0)).1
          · have fin := yes ⟨h1, fun _ => h2⟩
            clear yes no hcell h0
            generalize ps.getD (j + 1) (0, 0) = p at hc1 hc2 h1 h2
            generalize ps.getD j (0, 0) = q at hc3 h2
            obtain ⟨x, y⟩ := p
            obtain ⟨u, v⟩ := q
            simp only at hc1 hc2 hc3 h1 h2
            have t1 : decide (y ≤ x) = false := by simp; omega
            have t2 : decide (x ≤ v) = false := by simp; omega
            go_wp2_with fail
            go_quiet (fail)
            go_wp2_with fail
            go_roundw
            case rel => exact ⟨j + 1 + 1, by go_num, by omega, fin, hq.drewN _⟩
            case measure => simp [intOf]; omega
          · have fin := no (fun h => h2 (h.2 (by omega)))
            clear yes no hcell h0
            generalize ps.getD (j + 1) (0, 0) = p at hc1 hc2 h1 h2
            generalize ps.getD j (0, 0) = q at hc3 h2
            obtain ⟨x, y⟩ := p
            obtain ⟨u, v⟩ := q
            simp only at hc1 hc2 hc3 h1 h2
            have t1 : decide (y ≤ x) = false := by simp; omega
            have t2 : x ≤ v := by omega
            go_wp2_with fail
            go_quiet (fail)
            go_wp2_with fail
            go_ret
            exact ⟨retB fin.out.symm, hq.drewN _⟩
      · have fin := no (fun h => h1 h.1)
        clear yes no hcell
        generalize ps.getD k (0, 0) = p at hc1 hc2 h1
        obtain ⟨x, y⟩ := p
        simp only at hc1 hc2 h1
        have t1 : y ≤ x := by omega
        go_wp2_with fail
        go_quiet (fail)
        go_wp2_with fail
        go_ret
        exact ⟨retB fin.out.symm, hq.drewN _⟩
    · obtain rfl : k = n := by omega
      have fin : Hid (vdb ps = true) := hid (vdb_iff.2 (vd_steps.2 (by rw [hl.out]; exact hn.out)))
      go_wp2_with fail
      go_ret
      exact ⟨retB fin.out.symm, hq⟩

theorem mv_snoc (d : Int) (l : List Pr) (p : Pr) : mv d (l ++ [p]) = mv d l ++ [(p.1 + d, p.2 + d)] := by unfold mv; rw [List.map_append]; rfl
set_option maxHeartbeats 1000000 in
theorem moved_any (A : Option Addr) (n c : Nat) (ps : List Pr) (d : Int) (w : World) (hS : ShP w w.heap.size A n ps) (hm : n ≤ 8796093022200) (hn : ∀ p ∈ ps, nr p) (hd : -1099511627776 ≤ d ∧ d ≤ 1099511627776) :
    Calls Try.prog 30 #[.slice A n c, .int .i64 d] w (OutP w (mv d ps)) := by
  have hl := hid hS.len
  have hn := hid hn
  obtain ⟨hd0, hd1⟩ := hd
  go_enter Try.func30, Try.ntmps30
  go_wp2_with fail
  go_loopw [5, 6] (fun b i wr => ∃ (A' : Option Addr) (c' k : Nat), b = .slice A' k c' ∧ i = .int .i64 k ∧ k ≤ n ∧ OwP wr w.heap.size 34 A' k c' (mv d (ps.take k)) ∧ Bl w wr) (fun _ i _ => n - (intOf i).toNat)
  case atStart => exact ⟨none, 0, 0, rfl, rfl, by omega, OwP.none_ _ _ _, Bl.refl _⟩
  case round =>
    obtain ⟨A', c', k, rfl, rfl, hk, ho, hb⟩ := hrel
    have hsz := hb.size
    by_cases hlt : k < n
    · obtain ⟨b, o, rfl, hbB, hcell⟩ := hS.2 (by omega)
      have hk1 := hid (hcell k hlt).1
      have hk2 := hid (hcell k hlt).2
      have hc1 := (Below.cell hb (p := ⟨b, o + k * 2, none⟩) hbB).trans hk1.out
      have hc2 := (Below.cell hb (p := ⟨b, o + k * 2 + 1, none⟩) hbB).trans hk2.out
      have hsn := hid (take_snocP (l := ps) (i := k) (by rw [hl.out]; omega))
      have hnn := hn.out _ (getD_memP (l := ps) (k := k) (by rw [hl.out]; omega))
      clear hcell
      generalize ps.getD k (0, 0) = p at *
      obtain ⟨x, y⟩ := p
      simp only at hc1 hc2 hk1 hk2
      obtain ⟨⟨n1, n2⟩, n3, n4⟩ := hnn
      simp only at n1 n2 n3 n4
      have fin := hid (mv_snoc d (ps.take k) (x, y))
      have v1 : IntKind.i64.wrap (x + d) = x + d := IntWalk.i64_in _ (by omega)
      have v2 : IntKind.i64.wrap (y + d) = y + d := IntWalk.i64_in _ (by omega)
      have i0 : (0 : Int) ≤ (k : Int) := by omega
      have i1 : (k : Int) < (n : Int) := by omega
      go_wp2_with fail
      go_region_held3 (fun w' => w'.cell? ⟨b, o + k * 2, none⟩ = some (.int .i64 x) ∧ w'.cell? ⟨b, o + k * 2 + 1, none⟩ = some (.int .i64 y))
        (first
          | go_keep
          | (exact ⟨(Below.cell (Below.trans (Bl.drew (hb.alloc _)) hb2) (p := ⟨b, o + k * 2, none⟩) hbB).trans hk1.out, (Below.cell (Below.trans (Bl.drew (hb.alloc _)) hb2) (p := ⟨b, o + k * 2 + 1, none⟩) hbB).trans hk2.out⟩))
        ((refine step_appP_own _ (by rfl) (.tmp 13) (.tmp 29) _ (by rfl) elR (by rfl) ((ho.alloc _).drew) (by rfl) ((ShP.one _ _ _ _).drew) (by omega) (by simp; omega) ?_; intro A2 c2 w2 ho2 hb2))
      go_wp2_with fail
      go_roundw
      case rel => exact ⟨A2, c2, k + 1, rfl, by go_num, by omega, by rw [hsn.out, fin.out]; exact ho2, Below.trans (Bl.drew (hb.alloc _)) hb2⟩
      case measure => simp [intOf]; omega
    · obtain rfl : k = n := by omega
      rw [take_allP (by rw [hl.out]; omega)] at ho
      go_wp2_with fail
      go_ret
      exact ho.out hb

theorem near_bl {l : List Pr} (h : ∀ p ∈ l, nr p) : ∀ z ∈ bl l, -1099511627776 ≤ z ∧ z ≤ 1099511627776 := by
  intro z hz
  obtain ⟨p, hp, hz⟩ := of_bl hz
  rcases hz with rfl | rfl
  · exact (h p hp).1
  · exact (h p hp).2
theorem near_mk {op : Int} {a b : List Pr} (h : ∀ p ∈ a, nr p) (g : ∀ p ∈ b, nr p) : ∀ p ∈ mk op a b, nr p := fun p hp =>
  ⟨mk_bl (near_bl h) (near_bl g) _ (mem_bl hp).1, mk_bl (near_bl h) (near_bl g) _ (mem_bl hp).2⟩
theorem ttl_near {l : List Pr} (h : ∀ p ∈ l, nr p) : ttl l = tot (nor l) ∧ 0 ≤ ttl l ∧ ttl l ≤ 2199023255552 := by
  have hb := tot_b (nor_vd l) (near_bl (near_mk (op := 0) h (fun p hp => by cases hp))) (by omega)
  have e : ttl l = tot (nor l) := by unfold ttl; rw [if_pos (by omega)]
  rw [e]
  exact ⟨rfl, by omega, by omega⟩
theorem okp_mv {l : List Pr} {d : Int} (h : ∀ p ∈ l, nr p) (hd : -1099511627776 ≤ d ∧ d ≤ 1099511627776) : okp (mv d l) := by
  intro p hp
  obtain ⟨q, hq, rfl⟩ := List.mem_map.1 hp
  obtain ⟨⟨h1, h2⟩, h3, h4⟩ := h q hq
  exact ⟨⟨by show _ ≤ q.1 + d; omega, by show q.1 + d ≤ _; omega⟩, ⟨by show _ ≤ q.2 + d; omega, by show q.2 + d ≤ _; omega⟩⟩
end Go.Proofs.Ytdfnmohgkjonfaa.Span
