/- Contracts of the reference of wire: PutInt, PutText, PutList, Same, SameInts. -/
import Derived.Test.YtlpljhaogmfnkaaWPut
namespace Go.Proofs.Ytlpljhaogmfnkaa.Wire
open Go.RowKit
set_option linter.unusedVariables false

theorem rfold_pos (n : Int) (h1 : 0 ≤ n) (h2 : n ≤ 9223372036854775807) : n * 2 = zig n := by unfold zig; rw [if_neg (by omega)]; omega

/-- only draws -/
def Q (w w' : World) : Prop := ∃ n, w' = w.drewN n
theorem Q.refl (w : World) : Q w w := ⟨0, rfl⟩
theorem Q.drewN {w w1 : World} (h : Q w w1) (n : Nat) : Q w (w1.drewN n) := by
  obtain ⟨m, rfl⟩ := h
  exact ⟨m + n, by rw [World.drewN_drewN]⟩
theorem Q.below {w w' : World} (h : Q w w') (B : Nat) : Below B w w' := by
  obtain ⟨n, rfl⟩ := h
  exact below_drewN (Below.refl _ _) n

theorem rbyte (u : Int) (h0 : 0 ≤ u) : IntKind.u8.wrap (IntKind.u8.wrap (u % 128) + 128) = u % 128 + 128 := by
  rw [IntKind.wrap_u8', IntKind.wrap_u8']; omega

set_option maxHeartbeats 1000000 in
theorem RPutInt_any (A : Option Addr) (n c : Nat) (xs : List Int) (N : Int) (w : World) (hS : Sh w w.heap.size .u8 A n xs)
    (h1 : -9223372036854775808 ≤ N) (h2 : N ≤ 9223372036854775807) (hn : n + 10 ≤ 140737488355328) :
    Calls Try.prog 15 #[.slice A n c, .int .i64 N] w (Outs w (xs ++ enc N)) := by
  have hz := zig_b h1 h2
  have hz9 := hid (zig_c h1 h2)
  obtain ⟨U, hU⟩ : ∃ U, zig N = U := ⟨_, rfl⟩
  have hE := hid (show dig 9 U = enc N by unfold enc; rw [hU])
  have HU := hid hU
  rw [hU] at hz hz9
  clear hU
  by_cases hneg : N < 0
  all_goals
    go_enter Try.func15, Try.ntmps15
    go_wp2_with (at_builtin; refine wpList_app_own _ rfl (.tmp 18) (.tmp 19) _ rfl el8 rfl (Ow.new w _ _) rfl (hS.alloc (Nat.le_refl _) _) (by omega) (by omega) (by simp) ?_; intro A2 c2 w2 ho hbl)
    have hbel := ((Below.refl w.heap.size w).alloc (Nat.le_refl _) _).trans hbl
    clear hbl
    go_loopw [6, 5] (fun b u wr => ∃ (A' : Option Addr) (n' c' f : Nat) (u' : Int) (pre : List Int), b = .slice A' n' c' ∧ u = .int .u64 u' ∧ 0 ≤ u' ∧ u' ≤ 18446744073709551615 ∧ Hid (u' < 2 * 128 ^ f) ∧ f ≤ 9 ∧ n' + f = n + 9 ∧
        Hid (pre ++ dig f u' = enc N) ∧ Ow wr w.heap.size 5 .u8 A' n' c' (xs ++ pre) ∧ Below w.heap.size w wr) (fun _ u _ => (intOf u).toNat)
    case atStart =>
      refine ⟨A2, n, c2, 9, U, [], rfl, ?_, hz.1, hz.2, hz9, by omega, rfl, hE, by simpa using ho, hbel⟩
      rw [← HU.out]
      unfold zig
      first | (rw [if_pos (by omega)]; go_num) | (rw [if_neg (by omega)])
    case round =>
      clear ho hbel
      obtain ⟨A', n', c', f, u', pre, rfl, rfl, hu0, hu1, hub, hf, hnf, hpre, hT', hbel⟩ := hrel
      have hsz := hbel.size
      have hl1 := hT'.len
      have hl2 := hS.len
      rw [List.length_append] at hl1
      by_cases hlt : u' < 128
      · go_wp2_with (at_builtin; refine wpList_app_own _ rfl (.tmp 32) (.tmp 35) _ rfl el8 rfl (hT'.alloc _) rfl (Sh.one _ _ _ _) (by omega) (by omega) (by simp; omega) ?_; intro A2 c2 w2 ho hbl)
        go_ret
        have he : pre ++ [u'] = enc N := by rw [← hpre.out, dig_small _ hlt]
        refine ⟨A2, n' + 1, c2, rfl, ?_, (hbel.alloc (by omega) _).trans hbl⟩
        rw [← he, ← List.append_assoc]; exact ho
      · have hor := rbyte u' hu0
        go_wp2_with (at_builtin; refine wpList_app_own _ rfl (.tmp 23) (.tmp 28) _ rfl el8 rfl (hT'.alloc _) rfl (Sh.one _ _ _ _) (by omega) (by omega) (by simp; omega) ?_; intro A2 c2 w2 ho hbl)
        go_roundw
        case rel =>
          have hub' := hub.out
          have hpre' := hpre.out
          obtain ⟨g, rfl⟩ : ∃ g, f = g + 1 := ⟨f - 1, by
            rcases Nat.eq_zero_or_pos f with h0 | h0
            · subst h0; simp at hub'; omega
            · omega⟩
          rw [pow_s] at hub'
          rw [dig_big _ hlt] at hpre'
          exact ⟨A2, n' + 1, c2, g, u' / 128, pre ++ [u' % 128 + 128], rfl, rfl, by omega, by omega, hid (by omega), by omega, by omega, hid (by rw [List.append_assoc]; exact hpre'), (by rw [← List.append_assoc]; exact ho), (hbel.alloc (by omega) _).trans hbl⟩
        case measure => simp [intOf]; omega

set_option maxHeartbeats 400000 in
theorem RPutText_any (A : Option Addr) (n c : Nat) (xs : List Int) (s : ByteArray) (w : World) (hS : Sh w w.heap.size .u8 A n xs) (hn : n + 10 + s.size ≤ 140737488355328) :
    Calls Try.prog 20 #[.slice A n c, .string s] w (Outs w (xs ++ enc s.size ++ sb s)) := by
  have hel := (enc_len s.size).2
  have hxl := hS.len
  go_enter Try.func20, Try.ntmps20
  go_wp2_with fail
  refine (RPutInt_any A n c xs s.size w hS (by omega) (by omega) (by omega)).mono ?_
  rintro e w' ⟨A', n', c', rfl, ho, hb⟩
  have hsz := hb.size
  have hl := ho.len
  rw [List.length_append] at hl
  generalize hE : enc (s.size : Int) = E at *
  clear hE
  go_wp2_with (at_builtin; refine wpList_app_str _ rfl (.tmp 8) (.tmp 9) _ _ rfl Try.underlying9 el8 rfl ho rfl (by omega) hsz ?_; intro A2 c2 w2 ho2 hbl)
  go_ret
  exact ⟨_, _, _, rfl, ho2, hb.trans hbl⟩

set_option maxHeartbeats 1000000 in
theorem RPutList_any (A : Option Addr) (n c : Nat) (xs : List Int) (A1 : Option Addr) (n1 c1 : Nat) (l : List Int) (w : World) (hS : Sh w w.heap.size .u8 A n xs) (hL : Sh w w.heap.size .i64 A1 n1 l)
    (hl : ∀ x ∈ l, -9223372036854775808 ≤ x ∧ x ≤ 9223372036854775807) (hn : n + 10 + 10 * n1 ≤ 140737488355328) :
    Calls Try.prog 24 #[.slice A n c, .slice A1 n1 c1] w (Outs w (xs ++ enc n1 ++ encs l)) := by
  have hel := (enc_len n1).2
  have hxl := hS.len
  have hll := hL.len
  go_enter Try.func24, Try.ntmps24
  go_wp2_with fail
  refine (RPutInt_any A n c xs n1 w hS (by omega) (by omega) (by omega)).mono ?_
  rintro e w' ⟨A', m, c', rfl, ho, hb⟩
  have HZ := hid ho.len
  generalize hE : enc (n1 : Int) = E at *
  clear hE
  go_wp2_with fail
  go_loopw [5, 6] (fun b i wr => ∃ (A' : Option Addr) (m' c' k : Nat), b = .slice A' m' c' ∧ i = .int .i64 k ∧ k ≤ n1 ∧ m' ≤ m + 10 * k ∧ Ow wr w.heap.size 5 .u8 A' m' c' (xs ++ E ++ encs (l.take k)) ∧ Below w.heap.size w wr) (fun _ i _ => n1 - (intOf i).toNat)
  case atStart => exact ⟨A', m, c', 0, rfl, rfl, by omega, by omega, by simpa [encs] using ho, hb⟩
  case round =>
    obtain ⟨A2, m2, c2, k, rfl, rfl, hk, hm2, ho2, hb2⟩ := hrel
    have hsz := hb2.size
    have hZ := HZ.out
    rw [List.length_append] at hZ
    by_cases hlt : k < n1
    · obtain ⟨bb, oo, rfl, hbb, hcell⟩ := hL.2 (by omega)
      have hck := (hb2.cell (p := ⟨bb, oo + k, none⟩) hbb).trans (hcell k hlt)
      have hx : -9223372036854775808 ≤ l.getD k 0 ∧ l.getD k 0 ≤ 9223372036854775807 := by
        have : l.getD k 0 = l[k]'(by omega) := by simp [List.getD, List.getElem?_eq_getElem (show k < l.length by omega)]
        rw [this]; exact hl _ (List.getElem_mem _)
      have hsn := hid (encs_snoc (l := l) (i := k) (by omega))
      have hex := enc_len (l.getD k 0)
      generalize l.getD k 0 = x at *
      have HZ2 := hid hZ
      clear hZ
      go_wp2_with fail
      refine (RPutInt_any none 0 0 [] x wr (Sh.nil _ _ _ _) hx.1 hx.2 (by omega)).mono ?_
      rintro e w' ⟨A3, m3, c3, rfl, ho3, hb3⟩
      rw [List.nil_append] at ho3
      have HL3 := ho3.len
      have hsz3 := hb3.size
      generalize hE2 : enc x = ex at *
      clear hE2
      have hm3 : m3 ≤ 10 := by omega
      have HL := hid HL3
      clear HL3
      go_wp2_with (at_builtin; refine wpList_app_own _ rfl (.tmp 17) (.tmp 22) _ rfl el8 rfl (ho2.below hb3) rfl ho3.sh (by have := HZ2.out; omega) (by have := HZ2.out; omega) (by omega) ?_; intro A4 c4 w4 ho4 hb4)
      go_roundw
      case rel => exact ⟨A4, m2 + m3, c4, k + 1, rfl, by go_num, by omega, by omega, by rw [hsn.out, ← List.append_assoc]; exact ho4, (hb2.trans (hb3.mono (by omega))).trans hb4⟩
      case measure => simp [intOf]; omega
    · obtain rfl : k = n1 := by omega
      go_wp2_with fail
      go_ret
      exact ⟨_, _, _, rfl, by rw [List.take_of_length_le (by omega)] at ho2; exact ho2, hb2⟩
end Go.Proofs.Ytlpljhaogmfnkaa.Wire
