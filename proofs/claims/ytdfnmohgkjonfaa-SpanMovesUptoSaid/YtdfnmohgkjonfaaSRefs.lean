/- Contracts of the reference of span: Normal, Union, Inter, Minus, Same, Valid, Total. -/
import Derived.Test.YtdfnmohgkjonfaaSMk
import Derived.Test.YtdfnmohgkjonfaaSPlain2
namespace Go.Proofs.Ytdfnmohgkjonfaa.Span
open Go.RowKit
open Go.Proofs.Ytdfnmohgkjonfaa.Wire
set_option linter.unusedVariables false

def eqb (xs ys : List Pr) : Bool := decide (xs = ys)
theorem eqb_yes {xs ys : List Pr} (h : xs = ys) : eqb xs ys = true := by simp [eqb, h]
theorem eqb_no {xs ys : List Pr} (h : xs ≠ ys) : eqb xs ys = false := by simp [eqb, h]
/-- valid, as a test -/
def vdb (l : List Pr) : Bool := decide (∀ i, i < l.length → (l.getD i (0, 0)).1 < (l.getD i (0, 0)).2 ∧ (0 < i → (l.getD (i - 1) (0, 0)).2 < (l.getD i (0, 0)).1))
theorem vd_steps {l : List Pr} : vd l ↔ ∀ i, i < l.length → (l.getD i (0, 0)).1 < (l.getD i (0, 0)).2 ∧ (0 < i → (l.getD (i - 1) (0, 0)).2 < (l.getD i (0, 0)).1) := by
  constructor
  · intro h i hi
    have hg : ∀ j (hj : j < l.length), l.getD j (0, 0) = l[j] := fun j hj => by simp [List.getD, List.getElem?_eq_getElem hj]
    refine ⟨by rw [hg i hi]; exact h.1 _ (List.getElem_mem _), fun h0 => ?_⟩
    rw [hg i hi, hg (i - 1) (by omega)]
    exact List.pairwise_iff_getElem.1 h.2 (i - 1) i (by omega) hi (by omega)
  · intro h
    have hg : ∀ j (hj : j < l.length), l.getD j (0, 0) = l[j] := fun j hj => by simp [List.getD, List.getElem?_eq_getElem hj]
    refine ⟨fun p hp => ?_, List.pairwise_iff_getElem.2 fun i j hi hj hij => ?_⟩
    · obtain ⟨i, hi, rfl⟩ := List.getElem_of_mem hp
      have := (h i hi).1
      rwa [hg i hi] at this
    · have step : ∀ d i, i + d + 1 < l.length → (l.getD i (0, 0)).2 < (l.getD (i + d + 1) (0, 0)).1 := by
        intro d
        induction d with
        | zero => intro i hi; have := (h (i + 1) (by omega)).2 (by omega); simpa using this
        | succ d ih =>
          intro i hi
          have h1 := ih i (by omega)
          have h2 := (h (i + d + 1) (by omega)).1
          have h3 := (h (i + (d + 1) + 1) hi).2 (by omega)
          have e : i + (d + 1) + 1 - 1 = i + d + 1 := by omega
          rw [e] at h3
          omega
      have := step (j - i - 1) i (by omega)
      rw [show i + (j - i - 1) + 1 = j by omega, hg i hi, hg j hj] at this
      exact this
theorem vdb_iff {l : List Pr} : vdb l = true ↔ vd l := by unfold vdb; rw [decide_eq_true_iff, vd_steps]
theorem vdb_yes {l : List Pr} (h : vd l) : vdb l = true := vdb_iff.2 h
theorem eqb_nor (l : List Pr) : eqb l (nor l) = vdb l := by
  by_cases h : vd l
  · rw [vdb_yes h, eqb_yes (nor_set h).symm]
  · have h1 : vdb l = false := by cases e : vdb l; rfl; exact absurd (vdb_iff.1 e) h
    rw [h1]
    exact eqb_no fun e => h (by rw [e]; exact nor_vd l)

set_option maxHeartbeats 600000 in
theorem Same_any (A A' : Option Addr) (n n' c c' : Nat) (xs ys : List Pr) (w : World) (B B' : Nat) (hS : ShP w B A n xs) (hS' : ShP w B' A' n' ys) (hm : n ≤ 8796093022208) (hm' : n' ≤ 8796093022208) :
    Calls Try.prog 15 #[.slice A n c, .slice A' n' c'] w fun e w' => e = .returned (.bool (eqb xs ys)) ∧ Q w w' := by
  have hl := hid hS.len
  have hl' := hid hS'.len
  by_cases hn : n = n'
  · subst hn
    go_enter Try.func15, Try.ntmps15
    go_wp2_with fail
    go_loopw [5] (fun i wr => ∃ (k : Nat), i = .int .i64 k ∧ k ≤ n ∧ Hid (xs.take k = ys.take k) ∧ Q w wr) (fun i _ => n - (intOf i).toNat)
    case atStart => exact ⟨0, rfl, by omega, hid rfl, Q.refl _⟩
    case round =>
      obtain ⟨k, rfl, hk, he, hq⟩ := hrel
      by_cases hlt : k < n
      · obtain ⟨b, o, rfl, _, hcell⟩ := (hS.below (hq.below B)).2 (by omega)
        obtain ⟨b', o', rfl, _, hcell'⟩ := (hS'.below (hq.below B')).2 (by omega)
        obtain ⟨hc1, hc2⟩ := hcell k hlt
        obtain ⟨hc3, hc4⟩ := hcell' k hlt
        have t1 := hid (take_snocP (l := xs) (i := k) (by rw [hl.out]; omega))
        have t2 := hid (take_snocP (l := ys) (i := k) (by rw [hl'.out]; omega))
        have i0 : (0 : Int) ≤ (k : Int) := by omega
        have i1 : (k : Int) < (n : Int) := by omega
        clear hcell hcell'
        by_cases hxy : xs.getD k (0, 0) = ys.getD k (0, 0)
        · rw [hxy] at hc1 hc2 t1
          generalize ys.getD k (0, 0) = y at *
          obtain ⟨y1, y2⟩ := y
          simp only at hc1 hc2 hc3 hc4
          clear hxy
          go_wp2_with fail
          go_quiet (fail)
          go_wp2_with fail
          go_roundw
          case rel => exact ⟨k + 1, by go_num, by omega, hid (by rw [t1.out, t2.out, he.out]), hq.drewN _⟩
          case measure => simp [intOf]; omega
        · have hne : xs ≠ ys := fun e => hxy (by rw [e])
          have fin := hid (eqb_no hne)
          clear hne
          generalize xs.getD k (0, 0) = x at *
          generalize ys.getD k (0, 0) = y at *
          obtain ⟨x1, x2⟩ := x
          obtain ⟨y1, y2⟩ := y
          simp only at hc1 hc2 hc3 hc4
          by_cases e1 : x1 = y1
          · subst e1
            have t : (x2 == y2) = false := by
              have : x2 ≠ y2 := fun e => hxy (by rw [e])
              simpa using this
            clear hxy
            go_wp2_with fail
            go_quiet (fail)
            go_wp2_with fail
            go_ret
            exact ⟨retB fin.out.symm, hq.drewN _⟩
          · have t : (x1 == y1) = false := by simpa using e1
            clear hxy
            go_wp2_with fail
            go_quiet (fail)
            go_wp2_with fail
            go_ret
            exact ⟨retB fin.out.symm, hq.drewN _⟩
      · obtain rfl : k = n := by omega
        go_wp2_with fail
        go_ret
        have := he.out
        rw [take_allP (by rw [hl.out]; omega), take_allP (by rw [hl'.out]; omega)] at this
        exact ⟨retB (eqb_yes this).symm, hq⟩
  · have hne : xs ≠ ys := fun e => hn (by rw [← hl.out, ← hl'.out, e])
    have fin := hid (eqb_no hne)
    clear hne
    have t : ((n : Int) == (n' : Int)) = false := by simp; omega
    go_enter Try.func15, Try.ntmps15
    go_wp2_with fail
    go_ret
    exact ⟨retB fin.out.symm, Q.refl _⟩
theorem Same_yes (A A' : Option Addr) (n n' c c' : Nat) (xs ys : List Pr) (w : World) (hS : ShP w w.heap.size A n xs) (hS' : ShP w w.heap.size A' n' ys) (hm : n ≤ 8796093022208) (hm' : n' ≤ 8796093022208) (h : xs = ys) :
    Calls Try.prog 15 #[.slice A n c, .slice A' n' c'] w fun e w' => e = .returned (.bool true) ∧ Q w w' := by
  have := Same_any A A' n n' c c' xs ys w _ _ hS hS' hm hm'
  rwa [eqb_yes h] at this

set_option maxHeartbeats 400000 in
theorem RNormal_any (A : Option Addr) (n c : Nat) (ps : List Pr) (w : World) (hS : ShP w w.heap.size A n ps) (hm : n ≤ 68719476736) :
    Calls Try.prog 17 #[.slice A n c] w (OutP w (nor ps)) := by
  have r := hid (build_any A n c ps none 0 0 [] 0 w hS (ShP.nil _ _ _) (by omega))
  have e := hid (show nor ps = mk 0 ps [] from rfl)
  rw [← e.out] at r
  generalize nor ps = R at *
  go_enter Try.func17, Try.ntmps17
  go_wp2_with fail
  refine r.out.mono ?_
  rintro e w2 ⟨A2, c2, rfl, hs2, hc2, hb2⟩
  go_wp2_with fail
  go_ret
  exact ⟨A2, c2, rfl, hs2, hc2, hb2⟩
set_option maxHeartbeats 400000 in
theorem RUnion_any (A : Option Addr) (n c : Nat) (ps : List Pr) (A1 : Option Addr) (n1 c1 : Nat) (qs : List Pr) (w : World) (hS : ShP w w.heap.size A n ps) (hS1 : ShP w w.heap.size A1 n1 qs) (hm : n + n1 ≤ 68719476736) :
    Calls Try.prog 23 #[.slice A n c, .slice A1 n1 c1] w (OutP w (uni ps qs)) := by
  have r := hid (build_any A n c ps A1 n1 c1 qs 0 w hS hS1 hm)
  have e := hid (show uni ps qs = mk 0 ps qs from rfl)
  rw [← e.out] at r
  generalize uni ps qs = R at *
  go_enter Try.func23, Try.ntmps23
  go_wp2_with fail
  refine r.out.mono ?_
  rintro e w2 ⟨A2, c2, rfl, hs2, hc2, hb2⟩
  go_wp2_with fail
  go_ret
  exact ⟨A2, c2, rfl, hs2, hc2, hb2⟩
set_option maxHeartbeats 400000 in
theorem RInter_any (A : Option Addr) (n c : Nat) (ps : List Pr) (A1 : Option Addr) (n1 c1 : Nat) (qs : List Pr) (w : World) (hS : ShP w w.heap.size A n ps) (hS1 : ShP w w.heap.size A1 n1 qs) (hm : n + n1 ≤ 68719476736) :
    Calls Try.prog 25 #[.slice A n c, .slice A1 n1 c1] w (OutP w (int ps qs)) := by
  have r := hid (build_any A n c ps A1 n1 c1 qs 1 w hS hS1 hm)
  have e := hid (show int ps qs = mk 1 ps qs from rfl)
  rw [← e.out] at r
  generalize int ps qs = R at *
  go_enter Try.func25, Try.ntmps25
  go_wp2_with fail
  refine r.out.mono ?_
  rintro e w2 ⟨A2, c2, rfl, hs2, hc2, hb2⟩
  go_wp2_with fail
  go_ret
  exact ⟨A2, c2, rfl, hs2, hc2, hb2⟩
set_option maxHeartbeats 400000 in
theorem RMinus_any (A : Option Addr) (n c : Nat) (ps : List Pr) (A1 : Option Addr) (n1 c1 : Nat) (qs : List Pr) (w : World) (hS : ShP w w.heap.size A n ps) (hS1 : ShP w w.heap.size A1 n1 qs) (hm : n + n1 ≤ 68719476736) :
    Calls Try.prog 27 #[.slice A n c, .slice A1 n1 c1] w (OutP w (mns ps qs)) := by
  have r := hid (build_any A n c ps A1 n1 c1 qs 2 w hS hS1 hm)
  have e := hid (show mns ps qs = mk 2 ps qs from rfl)
  rw [← e.out] at r
  generalize mns ps qs = R at *
  go_enter Try.func27, Try.ntmps27
  go_wp2_with fail
  refine r.out.mono ?_
  rintro e w2 ⟨A2, c2, rfl, hs2, hc2, hb2⟩
  go_wp2_with fail
  go_ret
  exact ⟨A2, c2, rfl, hs2, hc2, hb2⟩

set_option maxHeartbeats 400000 in
theorem RValid_any (A : Option Addr) (n c : Nat) (ps : List Pr) (w : World) (hS : ShP w w.heap.size A n ps) (hm : n ≤ 4294967296) :
    Calls Try.prog 14 #[.slice A n c] w fun e w' => e = .returned (.bool (vdb ps)) ∧ Bl w w' := by
  have r := hid (RNormal_any A n c ps w hS (by omega))
  have hn := nor_len ps
  rw [hS.len] at hn
  have s := hid (fun w' A' c' (h' : ShP w' w'.heap.size A' (nor ps).length (nor ps)) (h : Bl w w') => Same_any A A' n (nor ps).length c c' ps (nor ps) w' _ _ (hS.bl h) h' (by omega) (by omega))
  rw [eqb_nor] at s
  generalize nor ps = R at *
  generalize vdb ps = V at *
  go_enter Try.func14, Try.ntmps14
  go_wp2_with fail
  refine r.out.mono ?_
  rintro e w2 ⟨A2, c2, rfl, hs2, hc2, hb2⟩
  go_wp2_with fail
  refine (s.out _ _ _ hs2 hb2).mono ?_
  rintro e w3 ⟨rfl, hq⟩
  go_wp2_with fail
  go_ret
  exact ⟨rfl, hb2.q hq⟩

theorem okp_bl {ps : List Pr} (h : okp ps) : ∀ z ∈ bl ps, -9223372036854775808 ≤ z ∧ z ≤ 9223372036854775807 := by
  intro z hz
  obtain ⟨p, hp, hz⟩ := of_bl hz
  rcases hz with rfl | rfl
  · exact (h p hp).1
  · exact (h p hp).2
theorem okp_of {ps : List Pr} (h : ∀ z ∈ bl ps, -9223372036854775808 ≤ z ∧ z ≤ 9223372036854775807) : okp ps := fun p hp => ⟨h _ (mem_bl hp).1, h _ (mem_bl hp).2⟩
theorem okp_mk {op : Int} {a b : List Pr} (h : okp a) (g : okp b) : okp (mk op a b) := okp_of (mk_bl (okp_bl h) (okp_bl g))
theorem okp_nil : okp [] := fun p hp => by cases hp
theorem oks_uni {a b : List Pr} (h : okp a) (g : okp b) : okp (uni a b) := okp_mk h g
theorem oks_int {a b : List Pr} (h : okp a) (g : okp b) : okp (int a b) := okp_mk h g
theorem oks_mns {a b : List Pr} (h : okp a) (g : okp b) : okp (mns a b) := okp_mk h g
theorem oks_nor {a : List Pr} (h : okp a) : okp (nor a) := okp_mk h okp_nil
theorem vd_take {l : List Pr} (h : vd l) (k : Nat) : vd (l.take k) := by
  have : vd (l.take k ++ l.drop k) := by rw [List.take_append_drop]; exact h
  exact (vd_app.1 this).1
theorem okp_take {l : List Pr} (h : okp l) (k : Nat) : okp (l.take k) := fun p hp => h p (List.mem_of_mem_take hp)
theorem tot_b64 {l : List Pr} (hv : vd l) (h : okp l) : 0 ≤ tot l ∧ tot l ≤ 18446744073709551615 := by
  have := tot_b hv (okp_bl h) (by omega)
  omega
theorem wrap_add (N x y : Int) : IntKind.u64.wrap (N + IntKind.u64.wrap (IntKind.u64.wrap y - IntKind.u64.wrap x)) = IntKind.u64.wrap (N + (y - x)) := by
  simp only [IntKind.wrap_u64]; omega

set_option maxHeartbeats 800000 in
theorem RTotal_any (A : Option Addr) (n c : Nat) (ps : List Pr) (w : World) (hS : ShP w w.heap.size A n ps) (ho : okp ps) (hm : n ≤ 4294967296) :
    Calls Try.prog 21 #[.slice A n c] w fun e w' => e = .returned (.int .i64 (ttl ps)) ∧ Bl w w' := by
  have r := hid (RNormal_any A n c ps w hS (by omega))
  have hn := nor_len ps
  rw [hS.len] at hn
  have hv := hid (nor_vd ps)
  have hok := hid (oks_nor ho)
  have ht := hid (show ttl ps = if tot (nor ps) ≤ 9223372036854775807 then tot (nor ps) else 0 from rfl)
  generalize ttl ps = T at *
  generalize nor ps = R at *
  go_enter Try.func21, Try.ntmps21
  go_wp2_with fail
  refine r.out.mono ?_
  rintro e w0 ⟨A2, c2, rfl, hs, hc2, hb⟩
  clear r
  go_wp2_with fail
  go_loopw [4, 5] (fun v i wr => ∃ (k : Nat) (N : Int), i = .int .i64 k ∧ v = .int .u64 N ∧ k ≤ R.length ∧ 0 ≤ N ∧ N ≤ 18446744073709551615 ∧ Hid (N = tot (R.take k)) ∧ Q w0 wr) (fun _ i _ => R.length - (intOf i).toNat)
  case atStart => exact ⟨0, 0, rfl, rfl, by omega, by decide, by decide, hid rfl, Q.refl _⟩
  case round =>
    obtain ⟨k, N, rfl, rfl, hk, h0, h1, hN, hq⟩ := hrel
    by_cases hlt : k < R.length
    · obtain ⟨b, o, rfl, _, hcell⟩ := (hs.bl hq.bl).2 (by omega)
      obtain ⟨hc1, hc3⟩ := hcell k hlt
      have hsn := take_snocP (l := R) (i := k) hlt
      have hb1 := tot_b64 (vd_take hv.out (k + 1)) (okp_take hok.out (k + 1))
      rw [hsn, tot_app] at hb1
      simp only [tot] at hb1
      have fin := hid (show N + ((R.getD k (0, 0)).2 - (R.getD k (0, 0)).1) = tot (R.take (k + 1)) by rw [hsn, tot_app, hN.out]; simp only [tot]; omega)
      have hb2 : 0 ≤ N + ((R.getD k (0, 0)).2 - (R.getD k (0, 0)).1) ∧ N + ((R.getD k (0, 0)).2 - (R.getD k (0, 0)).1) ≤ 18446744073709551615 := by have := hN.out; omega
      clear hsn hcell hb1
      generalize R.getD k (0, 0) = p at *
      obtain ⟨x, y⟩ := p
      simp only at hc1 hc3 fin hb2
      have hwr := wrap_add N x y
      rw [IntKind.wrap_u64 (N + (y - x)), Int.emod_eq_of_lt hb2.1 (by omega)] at hwr
      generalize N + (y - x) = M at *
      have i0 : (0 : Int) ≤ (k : Int) := by omega
      have i1 : (k : Int) < (R.length : Int) := by omega
      go_wp2_with fail
      go_quiet (fail)
      go_wp2_with fail
      go_roundw
      case rel => exact ⟨k + 1, M, by go_num, by go_num, by omega, hb2.1, hb2.2, fin, hq.drewN _⟩
      case measure => simp [intOf]; omega
    · obtain rfl : k = R.length := by omega
      have hN2 : Hid (N = tot R) := hid (by have := hN.out; rwa [take_allP (Nat.le_refl _)] at this)
      by_cases hbig : N ≤ 9223372036854775807
      · have hT : Hid (T = N) := hid (by rw [ht.out, ← hN2.out, if_pos hbig])
        go_wp2_with fail
        go_ret
        exact ⟨ret1 hT.out.symm, hb.q hq⟩
      · have hT : Hid (T = 0) := hid (by rw [ht.out, ← hN2.out, if_neg hbig])
        go_wp2_with fail
        go_ret
        exact ⟨ret1 hT.out.symm, hb.q hq⟩
end Go.Proofs.Ytdfnmohgkjonfaa.Span
