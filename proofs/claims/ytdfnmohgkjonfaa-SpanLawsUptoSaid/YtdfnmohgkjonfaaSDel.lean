/- The library's IndexFunc and DeleteFunc with span's empty: the ranges that are not empty. -/
import Derived.Test.YtdfnmohgkjonfaaSRef
import Derived.Test.YtdfnmohgkjonfaaSPlain3
import Derived.Test.YtdfnmohgkjonfaaGRow
namespace Go.Proofs.Ytdfnmohgkjonfaa.Span
open Go.RowKit
open Go.Proofs.Ytdfnmohgkjonfaa.Wire
set_option linter.unusedVariables false

abbrev RT : TypeId := 34
abbrev emF : Value := .func (.func 31) #[] #[]
theorem zeroR : ∀ w, (zeroValue 34).run Try.prog w = .ok (.agg #[.int .i64 0, .int .i64 0]) w := fun w => by kernel_rfl

theorem empty_any (p : Pr) (w : World) :
    Calls Try.prog 31 #[.agg #[.int .i64 p.1, .int .i64 p.2]] w fun e w' => e = .returned (.bool (!ne p)) ∧ Bl w w' := by
  obtain ⟨x, y⟩ := p
  have t : Hid (decide (y ≤ x) = !ne (x, y)) := hid (by unfold ne; simp)
  show Calls Try.prog 31 #[.agg #[.int .i64 x, .int .i64 y]] w _
  go_enter Try.func31, Try.ntmps31
  go_wp2_with fail
  go_ret
  exact ⟨retB t.out, (Bl.refl _).alloc _⟩

theorem filter_snoc {l : List Pr} {p : Pr} (h : ne p = true) : (l ++ [p]).filter ne = l.filter ne ++ [p] := by rw [List.filter_append, List.filter_cons, if_pos h]; rfl
theorem filter_skip {l : List Pr} {p : Pr} (h : ne p = false) : (l ++ [p]).filter ne = l.filter ne := by rw [List.filter_append, List.filter_cons, if_neg (by rw [h]; decide)]; simp

/-- where the first empty range stands, or -1 -/
def First (ps : List Pr) (r : Int) : Prop := (r = -1 ∧ ps.filter ne = ps) ∨ ∃ j : Nat, r = j ∧ j < ps.length ∧ ps.take j = (ps.take j).filter ne ∧ ne (ps.getD j (0, 0)) = false

set_option maxHeartbeats 1000000 in
theorem Index_any (g n c : Nat) (ps : List Pr) (w : World) (B : Nat) (hS : ShP w w.heap.size (some ⟨g, 0, none⟩) n ps) (hm : n ≤ 8796093022208) :
    Calls Try.prog 40 #[.slice (some ⟨g, 0, none⟩) n c, emF] w fun e w' => ∃ r, e = .returned (.int .i64 r) ∧ First ps r ∧ Bl w w' := by
  have hl := hid hS.len
  go_enter Try.func40, Try.ntmps40
  go_wp2_with fail
  go_loopw [8] (fun i wr => ∃ (k : Nat), i = .int .i64 k ∧ k ≤ n ∧ Hid (ps.take k = (ps.take k).filter ne) ∧ Bl w wr) (fun i _ => n - (intOf i).toNat)
  case atStart => exact ⟨0, rfl, by omega, hid rfl, Bl.refl _⟩
  case round =>
    obtain ⟨k, rfl, hk, he, hb⟩ := hrel
    by_cases hlt : k < n
    · obtain ⟨b, o, hA, _, hcell⟩ := (hS.bl hb).2 (by omega)
      injection hA with hA
      injection hA with hA hA2
      subst hA hA2
      have hc1 := (hcell k hlt).1
      have hc2 := (hcell k hlt).2
      rw [Nat.zero_add] at hc1 hc2
      have hsn := hid (take_snocP (l := ps) (i := k) (by rw [hl.out]; omega))
      have hem' := fun w' => empty_any (ps.getD k (0, 0)) w'
      clear hcell
      cases hx : ne (ps.getD k (0, 0))
      · rw [hx] at hem'
        have hem := hid hem'
        have fin := hid (show First ps k from .inr ⟨k, rfl, by rw [hl.out]; omega, he.out, hx⟩)
        clear hx hem' hsn
        generalize (ps.getD k (0, 0)).1 = x at *
        generalize (ps.getD k (0, 0)).2 = y at *
        go_wp2_with (go_at_call 31; refine (hem.out _).mono ?_; rintro e w2 ⟨rfl, hb2⟩)
        go_wp2_with fail
        go_ret
        exact ⟨k, rfl, fin.out, hb.trans hb2⟩
      · rw [hx] at hem'
        have hem := hid hem'
        have fin := hid (show ps.take (k + 1) = (ps.take (k + 1)).filter ne by rw [hsn.out, filter_snoc hx, ← he.out])
        clear hx hem' hsn
        generalize (ps.getD k (0, 0)).1 = x at *
        generalize (ps.getD k (0, 0)).2 = y at *
        go_wp2_with (go_at_call 31; refine (hem.out _).mono ?_; rintro e w2 ⟨rfl, hb2⟩)
        go_wp2_with fail
        go_roundw
        case rel => exact ⟨k + 1, by go_num, by omega, fin, hb.trans hb2⟩
        case measure => simp [intOf]; omega
    · obtain rfl : n = k := by omega
      go_wp2_with fail
      go_ret
      exact ⟨-1, rfl, .inl ⟨rfl, by have := he.out; rw [take_allP (by rw [hl.out]; omega)] at this; exact this.symm⟩, hb⟩

theorem take_set_snoc {L : List Pr} {i : Nat} (hi : i < L.length) (p : Pr) : (L.set i p).take (i + 1) = L.take i ++ [p] := by
  rw [take_snocP (by rw [List.length_set]; exact hi)]
  congr 1
  · rw [List.take_set_of_le (Nat.le_refl _)]
  · simp [List.getD, hi]
theorem drop_set_past {L : List Pr} {i j : Nat} (hij : i < j) (p : Pr) : (L.set i p).drop j = L.drop j := List.drop_set_of_lt hij

set_option maxHeartbeats 2000000 in
theorem Delete_any (g n : Nat) (ps : List Pr) (w : World) (B : Nat) (ho : OwP w B 34 (some ⟨g, 0, none⟩) n n ps) (hm : n ≤ 8796093022208) :
    Calls Try.prog 33 #[.slice (some ⟨g, 0, none⟩) n n, emF] w fun e w' => ∃ m, e = .returned (.slice (some ⟨g, 0, none⟩) m n) ∧ OwP w' B 34 (some ⟨g, 0, none⟩) m n (ps.filter ne) ∧ Below B w w' := by
  have hlen := ho.len
  have hl := hid hlen
  obtain ⟨hBg, hgw⟩ := ho.blk
  have R := hid (Index_any g n n ps w 0 ho.sh hm)
  have HO := hid ho
  clear ho hlen
  go_enter Try.func33, Try.ntmps33
  go_wp2_with fail
  refine R.out.mono ?_
  rintro e w1 ⟨r, rfl, hr, hb1⟩
  have hB1 : Below B w w1 := hb1.mono (by omega)
  have ho1 := OwP.below HO.out hb1
  clear R
  rcases hr with ⟨rfl, hall⟩ | ⟨j0, rfl, hj0, htk, hne⟩
  · have HA := hid hall
    clear hall
    go_wp2_with fail
    go_ret
    exact ⟨n, rfl, by rw [HA.out]; exact ho1, hB1⟩
  · have t0 : ((j0 : Int) == -1) = false := by simp
    rw [hl.out] at hj0
    have hst := hid (show ps.take j0 = (ps.take (j0 + 1)).filter ne by rw [take_snocP (by rw [hl.out]; exact hj0), filter_skip hne, ← htk])
    clear htk hne
    go_wp2_with fail
    go_loopw [5, 6] (fun a b wr => ∃ (i j : Nat) (L : List Pr), a = .int .i64 i ∧ b = .int .i64 j ∧ i < j ∧ j ≤ n ∧ Hid (L.take i = (ps.take j).filter ne) ∧ Hid (L.drop j = ps.drop j) ∧ OwP wr B 34 (some ⟨g, 0, none⟩) n n L ∧ Below B w wr) (fun _ b _ => n - (intOf b).toNat)
    case atStart => exact ⟨j0, j0 + 1, ps, rfl, by go_num, by omega, by omega, hst, hid rfl, ho1, hB1⟩
    case round =>
      clear ho1 hst
      obtain ⟨i, j, L, rfl, rfl, hij, hj, hti, hdj, hoL, hbL⟩ := hrel
      have hLl := hoL.len
      have HLl := hid hLl
      clear hLl
      by_cases hlt : j < n
      · have hc1 := hoL.lo hlt
        have hc2 := hoL.hi hlt
        have hpj := hid (show L.getD j (0, 0) = ps.getD j (0, 0) by
          have h1 : (L.drop j).getD 0 (0, 0) = (ps.drop j).getD 0 (0, 0) := by rw [hdj.out]
          simpa [List.getD] using h1)
        have hsn := hid (take_snocP (l := ps) (i := j) (by rw [hl.out]; exact hlt))
        have hdn := hid (show L.drop (j + 1) = ps.drop (j + 1) by
          have h1 : (L.drop j).drop 1 = (ps.drop j).drop 1 := by rw [hdj.out]
          simpa [List.drop_drop] using h1)
        have hem' := fun w' => empty_any (L.getD j (0, 0)) w'
        rw [← hpj.out] at hsn
        clear hpj
        cases hx : ne (L.getD j (0, 0))
        · rw [hx] at hem'
          have hem := hid hem'
          have fin := hid (show L.take i = (ps.take (j + 1)).filter ne by rw [hsn.out, filter_skip hx, hti.out])
          clear hx hem' hsn
          generalize (L.getD j (0, 0)).1 = x at *
          generalize (L.getD j (0, 0)).2 = y at *
          have HOL := hid hoL
          clear hoL
          go_wp2_with (go_at_call 31; refine (hem.out _).mono ?_; rintro e w2 ⟨rfl, hb2⟩)
          go_wp2_with fail
          have hb3 := (Bl.refl wr).alloc (.cells #[.int .i64 x, .int .i64 y] 34) |>.trans hb2
          go_roundw
          case rel => exact ⟨i, j + 1, L, rfl, by go_num, by omega, by omega, fin, hdn, HOL.out.below hb3, hbL.trans (hb3.mono HOL.out.base)⟩
          case measure => simp [intOf]; omega
        · rw [hx] at hem'
          have hem := hid hem'
          have fin := hid (show (L.set i (L.getD j (0, 0))).take (i + 1) = (ps.take (j + 1)).filter ne by rw [take_set_snoc (by rw [HLl.out]; omega), hsn.out, filter_snoc hx, hti.out])
          have fin2 := hid (show (L.set i (L.getD j (0, 0))).drop (j + 1) = ps.drop (j + 1) by rw [drop_set_past (by omega), hdn.out])
          clear hx hem' hsn
          generalize L.getD j (0, 0) = q at *
          obtain ⟨x, y⟩ := q
          simp only at hc1 hc2 hem
          have HOL := hid hoL
          clear hoL
          go_wp2_with (go_at_call 31; refine (hem.out _).mono ?_; rintro e w2 ⟨rfl, hb2⟩; have hbx := box_after hb2; have hbx1 := hbx.1; have hbx2 := hbx.2; clear hbx; have hb3 := ((Bl.refl wr).alloc (.cells #[.int .i64 x, .int .i64 y] 34)).trans hb2; have HO2 := hid (HOL.out.below hb3); have q1 := HO2.out.lo (j := i) (by omega); have q2 := HO2.out.hi (j := i) (by omega); have q3 := HO2.out.free (i * 2); have q4 := HO2.out.free (i * 2 + 1))
          go_wp2_with fail
          have hi : i < n := by omega
          exact ⟨⟨i + 1, j + 1, L.set i (x, y), by go_num, by go_num, by omega, by omega, fin, fin2, HO2.out.put hi x y, Below.put (hbL.trans (hb3.mono HOL.out.base)) HOL.out.blk.1 _ _ _ _⟩, by simp [intOf]; omega⟩
      · obtain rfl : n = j := by omega
        have hoc := hoL.cut (k := i) (by omega)
        have e1 : L.take i = ps.filter ne := by rw [hti.out, take_allP (by rw [hl.out]; omega)]
        have E1 := hid e1
        have HOL := hid hoL
        clear hoc hoL e1
        go_wp2_with ((with_reducible show wpList _ _ _ (⟨none, Op.call { callee := Callee.builtin Builtin.clear, args := _, argTypes := _ }, _, _, _, _⟩ :: _) _ _); refine wpList_clearP _ rfl (.tmp 38) 22 34 rfl Try.underlying22 zeroR rfl HOL.out (fun _ => rfl) (by omega) ?_; intro w3 ho3 hb3)
        go_wp2_with fail
        go_ret
        exact ⟨i, rfl, by rw [← E1.out]; exact ho3, hbL.trans hb3⟩
end Go.Proofs.Ytdfnmohgkjonfaa.Span
