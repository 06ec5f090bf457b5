/- Contracts of wire and its reference: List. -/
import Derived.Test.YtlpljhaogmfnkaaWGet
namespace Go.Proofs.Ytlpljhaogmfnkaa.Wire
open Go.RowKit
set_option linter.unusedVariables false

/-- what List answers -/
def OutL (w : World) (xs : List Int) (m : Int) (e : Ending) (w' : World) : Prop :=
  ∃ A' n' c', e = .returned (.tuple #[.slice A' n' c', .int .i64 (lu xs m), .int .i64 (le xs m)]) ∧ Ow w' w.heap.size 3 .i64 A' n' c' (ll xs m) ∧ Below w.heap.size w w'
theorem OutL.mk {w w' : World} {xs : List Int} {m : Int} {A : Option Addr} {n c : Nat} {l : List Int} {y z : Int} (h : lis xs m = (l, y, z)) (ho : Ow w' w.heap.size 3 .i64 A n c l) (hb : Below w.heap.size w w') :
    OutL w xs m (.returned (.tuple #[.slice A n c, .int .i64 y, .int .i64 z])) w' := by
  obtain ⟨h1, h2, h3⟩ := l3 h
  subst h1 h2 h3
  exact ⟨_, _, _, rfl, ho, hb⟩

set_option maxHeartbeats 1000000 in
theorem List_any (A : Option Addr) (n c : Nat) (xs : List Int) (m : Int) (w : World) (hS : Sh w w.heap.size .u8 A n xs) (hb : byts xs) (hc : n ≤ c) (hm : n ≤ 140737488355328) (hn : n ≤ 1099511627776) :
    Calls Try.prog 21 #[.slice A n c, .int .i64 m] w (OutL w xs m) := by
  have c1 := hid (fun w' hS => readCount_any A n c xs m w' w.heap.size hS hb hc hm)
  have hd := cnt_b hb m
  have HL := hid hS.len
  by_cases h0 : ce xs m = 0
  · have fin := hid (lis_k (m := m) h0)
    rw [h0] at c1 hd
    clear h0
    generalize cn xs m = N at *
    generalize cu xs m = U at *
    obtain ⟨q0, q1, q2, q3, q4, _, _, q5, _⟩ := hd
    have q6 := q5 rfl
    rw [HL.out] at q3
    obtain ⟨u, rfl⟩ := Int.eq_ofNat_of_zero_le q2
    have hA : ∃ bb oo, A = some ⟨bb, oo, none⟩ := by
      obtain ⟨bb, oo, h, _⟩ := hS.2 (by omega)
      exact ⟨bb, oo, h⟩
    obtain ⟨bb, oo, rfl⟩ := hA
    clear q5
    go_enter Try.func21, Try.ntmps21
    go_wp2_with fail
    refine (c1.out _ hS).mono ?_
    rintro e w' ⟨rfl, rfl⟩
    go_wp2_with fail
    go_loopw [4, 5, 21] (fun l s i wr => ∃ (A' : Option Addr) (c' k a : Nat) (acc : List Int), l = .slice A' k c' ∧ s = .int .i64 a ∧ i = .int .i64 k ∧ a ≤ n ∧ k ≤ a ∧ Hid ((k : Int) ≤ N) ∧
        Hid (lgo (N - k).toNat xs acc a = lis xs m) ∧ Ow wr w.heap.size 3 .i64 A' k c' acc ∧ Below w.heap.size w wr) (fun _ _ i _ => (N - intOf i).toNat)
    case atStart => exact ⟨none, 0, 0, u, [], rfl, rfl, rfl, by omega, by omega, hid q0, hid (by rw [fin.out]; congr 1; omega), Ow.none_ _ _ _ _, Below.refl _ _⟩
    case round =>
      obtain ⟨A', c', k, a, acc, rfl, rfl, rfl, ha, hka, hkN, Hgo, ho, hbel⟩ := hrel
      have hsz := hbel.size
      by_cases hlt : (k : Int) < N
      · obtain ⟨r, hr⟩ : ∃ r, (N - k).toNat = r + 1 := ⟨(N - k).toNat - 1, by omega⟩
        have hr' : Hid ((N - ((k + 1 : Nat) : Int)).toNat = r) := hid (by omega)
        rw [hr] at Hgo
        have hdd := dec_b (byts_drop hb a)
        have he := hid (fun h => (lgo_e (c := r) (b := xs) (acc := acc) (at_ := a) h).symm.trans Hgo.out)
        have hk := hid (fun h => (lgo_k (c := r) (b := xs) (acc := acc) (at_ := a) h).symm.trans Hgo.out)
        rw [Int.toNat_natCast] at he hk
        have hlen : (xs.drop a).length = n - a := by rw [List.length_drop, HL.out]
        have hdrop := fun A'' => (hS.below hbel).drop (m := a) (A' := A'') (by omega)
        clear Hgo hr
        by_cases han : a = n
        · have h5 : Hid (de (xs.drop a) = 5) := hid (by rw [List.drop_eq_nil_of_le (by have := HL.out; omega)]; rfl)
          have c2 := hid (fun A'' => Int_any A'' (n - a) (n - a) (xs.drop a) wr w.heap.size (hdrop _ (fun h => by omega)) (byts_drop hb a) (Nat.le_refl _) (by omega))
          rw [h5.out] at c2 he
          generalize dn (xs.drop a) = N1 at *
          generalize du (xs.drop a) = U1 at *
          clear hdd hlen hdrop hk h5
          subst han
          rw [Nat.sub_self] at c2
          go_wp2_with fail
          refine (c2.out _).mono ?_
          rintro e w' ⟨rfl, rfl⟩
          go_wp2_with fail
          go_ret3
          exact OutL.mk (he.out (by decide)).symm (Ow.none_ _ _ _ _) hbel
        · have han' : a < n := by omega
          have c2 := hid (Int_any (some ⟨bb, oo + a, none⟩) (n - a) (n - a) (xs.drop a) wr w.heap.size (hdrop _ (fun h b o e => by injection e with e; injection e with e1 e2; subst e1 e2; rfl)) (byts_drop hb a) (Nat.le_refl _) (by omega))
          generalize dn (xs.drop a) = N1 at *
          generalize du (xs.drop a) = U1 at *
          generalize de (xs.drop a) = E1 at *
          rw [hlen] at hdd
          clear hlen hdrop
          by_cases hE : E1 = 0
          · subst hE
            obtain ⟨p0, p1, p2, p3, _, _, p4, _⟩ := hdd
            have p5 := p4 rfl
            obtain ⟨u1, rfl⟩ := Int.eq_ofNat_of_zero_le p2
            have hk' := hid (hk.out rfl)
            clear p4 he hk
            go_wp2_with fail
            refine c2.out.mono ?_
            rintro e w' ⟨rfl, rfl⟩
            go_wp2_with (at_builtin; refine wpList_app_own _ rfl (.tmp 38) (.tmp 40) _ rfl elI rfl (ho.alloc _) rfl (Sh.one _ _ _ _) (by omega) (by omega) (by simp; omega) ?_; intro A2 c2 w2 ho2 hbl)
            go_roundw
            case rel => exact ⟨A2, c2, k + 1, a + u1, acc ++ [N1], rfl, by go_num, by go_num, by omega, by omega, hid (by omega), hid (by rw [hr'.out]; have := hk'.out; rwa [← Int.natCast_add] at this), ho2, (hbel.alloc (by omega) _).trans hbl⟩
            case measure => simp [intOf]; omega
          · have t : (E1 == 0) = false := by simpa using hE
            have he' := hid (he.out hE)
            clear he hk hE hdd
            go_wp2_with fail
            refine c2.out.mono ?_
            rintro e w' ⟨rfl, rfl⟩
            go_wp2_with fail
            go_ret3
            exact OutL.mk he'.out.symm (Ow.none_ _ _ _ _) hbel
      · have hz : Hid ((N - k).toNat = 0) := hid (by omega)
        have hg := Hgo.out
        rw [hz.out] at hg
        have HG := hid hg
        clear hg
        go_wp2_with fail
        go_ret3
        exact OutL.mk HG.out.symm ho hbel
  · have t : (ce xs m == 0) = false := by simpa using h0
    have fin := hid (lis_e (m := m) h0)
    clear h0 hd
    generalize cn xs m = N at *
    generalize cu xs m = U at *
    generalize ce xs m = E at *
    go_enter Try.func21, Try.ntmps21
    go_wp2_with fail
    refine (c1.out _ hS).mono ?_
    rintro e w' ⟨rfl, rfl⟩
    go_wp2_with fail
    go_ret3
    exact OutL.mk fin.out (Ow.none_ _ _ _ _) (Below.refl _ _)
set_option maxHeartbeats 1000000 in
theorem RList_any (A : Option Addr) (n c : Nat) (xs : List Int) (m : Int) (w : World) (hS : Sh w w.heap.size .u8 A n xs) (hb : byts xs) (hc : n ≤ c) (hm : n ≤ 140737488355328) (hn : n ≤ 1099511627776) :
    Calls Try.prog 22 #[.slice A n c, .int .i64 m] w (OutL w xs m) := by
  have c1 := hid (fun w' hS => length_any A n c xs m w' w.heap.size hS hb hc hm)
  have hd := cnt_b hb m
  have HL := hid hS.len
  by_cases h0 : ce xs m = 0
  · have fin := hid (lis_k (m := m) h0)
    rw [h0] at c1 hd
    clear h0
    generalize cn xs m = N at *
    generalize cu xs m = U at *
    obtain ⟨q0, q1, q2, q3, q4, _, _, q5, _⟩ := hd
    have q6 := q5 rfl
    rw [HL.out] at q3
    obtain ⟨u, rfl⟩ := Int.eq_ofNat_of_zero_le q2
    have hA : ∃ bb oo, A = some ⟨bb, oo, none⟩ := by
      obtain ⟨bb, oo, h, _⟩ := hS.2 (by omega)
      exact ⟨bb, oo, h⟩
    obtain ⟨bb, oo, rfl⟩ := hA
    clear q5
    go_enter Try.func22, Try.ntmps22
    go_wp2_with fail
    refine (c1.out _ hS).mono ?_
    rintro e w' ⟨rfl, rfl⟩
    go_wp2_with fail
    go_loopw [10, 8, 11] (fun l s i wr => ∃ (A' : Option Addr) (c' k a : Nat) (acc : List Int), l = .slice A' k c' ∧ s = .int .i64 a ∧ i = .int .i64 k ∧ a ≤ n ∧ k ≤ a ∧ Hid ((k : Int) ≤ N) ∧
        Hid (lgo (N - k).toNat xs acc a = lis xs m) ∧ Ow wr w.heap.size 3 .i64 A' k c' acc ∧ Below w.heap.size w wr) (fun _ _ i _ => (N - intOf i).toNat)
    case atStart => exact ⟨none, 0, 0, u, [], rfl, rfl, rfl, by omega, by omega, hid q0, hid (by rw [fin.out]; congr 1; omega), Ow.none_ _ _ _ _, Below.refl _ _⟩
    case round =>
      obtain ⟨A', c', k, a, acc, rfl, rfl, rfl, ha, hka, hkN, Hgo, ho, hbel⟩ := hrel
      have hsz := hbel.size
      by_cases hlt : (k : Int) < N
      · obtain ⟨r, hr⟩ : ∃ r, (N - k).toNat = r + 1 := ⟨(N - k).toNat - 1, by omega⟩
        have hr' : Hid ((N - ((k + 1 : Nat) : Int)).toNat = r) := hid (by omega)
        rw [hr] at Hgo
        have hdd := dec_b (byts_drop hb a)
        have he := hid (fun h => (lgo_e (c := r) (b := xs) (acc := acc) (at_ := a) h).symm.trans Hgo.out)
        have hk := hid (fun h => (lgo_k (c := r) (b := xs) (acc := acc) (at_ := a) h).symm.trans Hgo.out)
        rw [Int.toNat_natCast] at he hk
        have hlen : (xs.drop a).length = n - a := by rw [List.length_drop, HL.out]
        have hdrop := fun A'' => (hS.below hbel).drop (m := a) (A' := A'') (by omega)
        clear Hgo hr
        by_cases han : a = n
        · have h5 : Hid (de (xs.drop a) = 5) := hid (by rw [List.drop_eq_nil_of_le (by have := HL.out; omega)]; rfl)
          have c2 := hid (fun A'' => RInt_any A'' (n - a) (c - a) (xs.drop a) wr w.heap.size (hdrop _ (fun h => by omega)) (byts_drop hb a) (by omega) (by omega))
          rw [h5.out] at c2 he
          generalize dn (xs.drop a) = N1 at *
          generalize du (xs.drop a) = U1 at *
          clear hdd hlen hdrop hk h5
          subst han
          rw [Nat.sub_self] at c2
          by_cases hca : c = a
          · subst hca
            rw [Nat.sub_self] at c2
            go_wp2_with fail
            refine (c2.out _).mono ?_
            rintro e w' ⟨rfl, rfl⟩
            go_wp2_with fail
            go_ret3
            exact OutL.mk (he.out (by decide)).symm (Ow.none_ _ _ _ _) hbel
          · have hca' : a < c := by omega
            clear hca
            go_wp2_with fail
            refine (c2.out _).mono ?_
            rintro e w' ⟨rfl, rfl⟩
            go_wp2_with fail
            go_ret3
            exact OutL.mk (he.out (by decide)).symm (Ow.none_ _ _ _ _) hbel
        · have han' : a < n := by omega
          have c2 := hid (RInt_any (some ⟨bb, oo + a, none⟩) (n - a) (c - a) (xs.drop a) wr w.heap.size (hdrop _ (fun h b o e => by injection e with e; injection e with e1 e2; subst e1 e2; rfl)) (byts_drop hb a) (by omega) (by omega))
          generalize dn (xs.drop a) = N1 at *
          generalize du (xs.drop a) = U1 at *
          generalize de (xs.drop a) = E1 at *
          rw [hlen] at hdd
          clear hlen hdrop
          by_cases hE : E1 = 0
          · subst hE
            obtain ⟨p0, p1, p2, p3, _, _, p4, _⟩ := hdd
            have p5 := p4 rfl
            obtain ⟨u1, rfl⟩ := Int.eq_ofNat_of_zero_le p2
            have hk' := hid (hk.out rfl)
            clear p4 he hk
            go_wp2_with fail
            refine c2.out.mono ?_
            rintro e w' ⟨rfl, rfl⟩
            go_wp2_with (at_builtin; refine wpList_app_own _ rfl (.tmp 41) (.tmp 43) _ rfl elI rfl (ho.alloc _) rfl (Sh.one _ _ _ _) (by omega) (by omega) (by simp; omega) ?_; intro A2 c2 w2 ho2 hbl)
            go_roundw
            case rel => exact ⟨A2, c2, k + 1, a + u1, acc ++ [N1], rfl, by go_num, by go_num, by omega, by omega, hid (by omega), hid (by rw [hr'.out]; have := hk'.out; rwa [← Int.natCast_add] at this), ho2, (hbel.alloc (by omega) _).trans hbl⟩
            case measure => simp [intOf]; omega
          · have t : (E1 == 0) = false := by simpa using hE
            have he' := hid (he.out hE)
            clear he hk hE hdd
            go_wp2_with fail
            refine c2.out.mono ?_
            rintro e w' ⟨rfl, rfl⟩
            go_wp2_with fail
            go_ret3
            exact OutL.mk he'.out.symm (Ow.none_ _ _ _ _) hbel
      · have hz : Hid ((N - k).toNat = 0) := hid (by omega)
        have hg := Hgo.out
        rw [hz.out] at hg
        have HG := hid hg
        clear hg
        go_wp2_with fail
        go_ret3
        exact OutL.mk HG.out.symm ho hbel
  · have t : (ce xs m == 0) = false := by simpa using h0
    have fin := hid (lis_e (m := m) h0)
    clear h0 hd
    generalize cn xs m = N at *
    generalize cu xs m = U at *
    generalize ce xs m = E at *
    go_enter Try.func22, Try.ntmps22
    go_wp2_with fail
    refine (c1.out _ hS).mono ?_
    rintro e w' ⟨rfl, rfl⟩
    go_wp2_with fail
    go_ret3
    exact OutL.mk fin.out (Ow.none_ _ _ _ _) (Below.refl _ _)
end Go.Proofs.Ytlpljhaogmfnkaa.Wire
