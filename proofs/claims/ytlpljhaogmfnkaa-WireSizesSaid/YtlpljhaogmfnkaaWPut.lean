/- Contracts of wire: fold, full, appendInt, PutInt. -/
import Derived.Test.YtlpljhaogmfnkaaWWords
import Derived.Test.YtlpljhaogmfnkaaWPlain3
import Derived.Laws.BitsAllLaws
namespace Go.Proofs.Ytlpljhaogmfnkaa.Wire
open Go.RowKit
set_option linter.unusedVariables false

theorem el8 : El Try.prog 22 5 .u8 1 := ⟨Try.underlying22, info_parts (by kernel_rfl)⟩
theorem elI : El Try.prog 34 3 .i64 8 := ⟨Try.underlying34, info_parts (by kernel_rfl)⟩

theorem retU {k : IntKind} {a b : Int} (h : a = b) : Ending.returned (.int k a) = .returned (.int k b) := by rw [h]

theorem compl64 (x : Int) (h0 : 0 ≤ x) (h : x < 18446744073709551616) : bits .xor .u64 IntKind.u64.max x = 18446744073709551615 - x := by
  have hm : IntKind.u64.max = 18446744073709551615 := by decide
  rw [hm, u64_xor _ _ (by omega) (by omega) h0 h]
  have e : (18446744073709551615 : Int).toNat = (BitVec.allOnes 64).toNat := by decide
  have e2 : x.toNat = (BitVec.ofNat 64 x.toNat).toNat := by rw [BitVec.toNat_ofNat]; omega
  rw [e, e2, ← BitVec.toNat_xor, ← BitVec.not_def, BitVec.toNat_not, ← e2]
  omega
theorem fold_neg (n : Int) (h1 : -9223372036854775808 ≤ n) (h2 : n ≤ 9223372036854775807) (h : n < 0) :
    bits .xor .u64 IntKind.u64.max (IntKind.u64.wrap (IntKind.u64.wrap n * 2)) = zig n := by
  rw [compl64]
  · rw [IntKind.wrap_u64, IntKind.wrap_u64]; unfold zig; rw [if_pos h]; omega
  · rw [IntKind.wrap_u64]; omega
  · rw [IntKind.wrap_u64]; omega

set_option maxHeartbeats 400000 in
theorem fold_any (n : Int) (w : World) (h1 : -9223372036854775808 ≤ n) (h2 : n ≤ 9223372036854775807) :
    Calls Try.prog 31 #[.int .i64 n] w fun e w' => e = .returned (.int .u64 (zig n)) ∧ w = w' := by
  by_cases h : n < 0
  · go_enter Try.func31, Try.ntmps31
    go_wp2
    go_ret
    exact ⟨retU (fold_neg n h1 h2 ‹n < 0›), rfl⟩
  · go_enter Try.func31, Try.ntmps31
    go_wp2
    go_ret
    exact ⟨retU (by unfold zig; rw [if_neg (by omega)]; omega), rfl⟩

set_option maxHeartbeats 400000 in
theorem full_any (A : Option Addr) (n c : Nat) (w : World) (hc : n ≤ c) (hm : n ≤ 140737488355328) :
    Calls Try.prog 28 #[.slice A n c] w fun e w' => e = .returned (.slice A n n) ∧ w = w' := by
  go_enter Try.func28, Try.ntmps28
  go_wp2
  go_ret
  exact ⟨rfl, rfl⟩

theorem or128 (u : Int) (h0 : 0 ≤ u) : bits .or .u8 (u % 256) 128 = u % 128 + 128 := by
  rw [u8_or _ _ (by omega) (by omega) (by omega) (by omega)]
  have h : ∀ x : Fin 256, x.val ||| 128 = x.val % 128 + 128 := by decide +kernel
  have := h ⟨(u % 256).toNat, by omega⟩
  simp only at this
  rw [show (128 : Int).toNat = 128 by rfl, this]
  omega

set_option maxHeartbeats 1000000 in
theorem appendInt_any (A : Option Addr) (n c : Nat) (xs : List Int) (N : Int) (w : World) (B : Nat) (hB : B ≤ w.heap.size) (hT : Tip w B 5 .u8 A n c xs)
    (h1 : -9223372036854775808 ≤ N) (h2 : N ≤ 9223372036854775807) (hn : n + 10 ≤ 140737488355328) :
    Calls Try.prog 27 #[.slice A n c, .int .i64 N] w fun e w' => ∃ A' c', e = .returned (.slice A' (n + (enc N).length) c') ∧
      Ow w' B 5 .u8 A' (n + (enc N).length) c' (xs ++ enc N) ∧ Below B w w' := by
  have hz := zig_b h1 h2
  have hz9 := hid (zig_c h1 h2)
  obtain ⟨U, hU⟩ : ∃ U, zig N = U := ⟨_, rfl⟩
  have hE := hid (show dig 9 U = enc N by unfold enc; rw [hU])
  have c1 := hid (fun w => fold_any N w h1 h2)
  rw [hU] at hz hz9 c1
  clear hU
  go_enter Try.func27, Try.ntmps27
  go_wp2_with fail
  refine (c1.out _).mono ?_
  rintro e w' ⟨rfl, rfl⟩
  go_wp2_with fail
  go_loopw [0, 5] (fun b u wr => ∃ (A' : Option Addr) (n' c' f : Nat) (u' : Int) (pre : List Int), b = .slice A' n' c' ∧ u = .int .u64 u' ∧ 0 ≤ u' ∧ u' ≤ 18446744073709551615 ∧ Hid (u' < 2 * 128 ^ f) ∧ f ≤ 9 ∧ n' + f = n + 9 ∧
      Hid (pre ++ dig f u' = enc N) ∧ Tip wr B 5 .u8 A' n' c' (xs ++ pre) ∧ Below B w wr) (fun _ u _ => (intOf u).toNat)
  case atStart => exact ⟨A, n, c, 9, U, [], rfl, rfl, hz.1, hz.2, hz9, by omega, rfl, hE, by simpa using hT, Below.refl _ _⟩
  case round =>
    obtain ⟨A', n', c', f, u', pre, rfl, rfl, hu0, hu1, hub, hf, hnf, hpre, hT', hbel⟩ := hrel
    have hsz := hbel.size
    have hl1 := hT'.len
    have hl2 := hT.len
    rw [List.length_append] at hl1
    by_cases hlt : u' < 128
    · go_wp2_with (at_builtin; refine wpList_app_tip _ rfl (.tmp 18) (.tmp 21) _ rfl el8 rfl (hT'.alloc (by omega) _) rfl (Sh.one _ _ _ _) (by omega) (by omega) (by omega) (by simp; omega) ?_; intro A2 c2 w2 ho hbl)
      go_ret
      have he : pre ++ [u'] = enc N := by rw [← hpre.out, dig_small _ hlt]
      have hlen : n' + 1 = n + (enc N).length := by rw [← he, List.length_append, List.length_singleton]; omega
      refine ⟨A2, c2, ?_, ?_, (hbel.alloc (by omega) _).trans hbl⟩
      · show Ending.returned (.slice A2 (n' + 1) c2) = _
        rw [hlen]
      · rw [← hlen, ← he, ← List.append_assoc]; exact ho
    · have hor := or128 u' hu0
      go_wp2_with (at_builtin; refine wpList_app_tip _ rfl (.tmp 10) (.tmp 14) _ rfl el8 rfl (hT'.alloc (by omega) _) rfl (Sh.one _ _ _ _) (by omega) (by omega) (by omega) (by simp; omega) ?_; intro A2 c2 w2 ho hbl)
      go_roundw
      case rel =>
        have hub' := hub.out
        have hpre' := hpre.out
        obtain ⟨g, rfl⟩ : ∃ g, f = g + 1 := ⟨f - 1, by
          rcases Nat.eq_zero_or_pos f with h0 | h0
          · subst h0; simp at hub'; omega
          · omega⟩
        rw [pow_s] at hub'
        rw [dig_big _ hlt] at hpre'
        exact ⟨A2, n' + 1, c2, g, u' / 128, pre ++ [u' % 128 + 128], rfl, rfl, by omega, by omega, hid (by omega), by omega, by omega, hid (by rw [List.append_assoc]; exact hpre'), .inl (by rw [← List.append_assoc]; exact ho), (hbel.alloc (by omega) _).trans hbl⟩
      case measure => simp [intOf]; omega

/-- what a function that appends bytes answers: the bytes zs, in memory of its own -/
def Outs (w : World) (zs : List Int) (e : Ending) (w' : World) : Prop :=
  ∃ A' n' c', e = .returned (.slice A' n' c') ∧ Ow w' w.heap.size 5 .u8 A' n' c' zs ∧ Below w.heap.size w w'

set_option maxHeartbeats 400000 in
theorem PutInt_any (A : Option Addr) (n c : Nat) (xs : List Int) (N : Int) (w : World) (hS : Sh w w.heap.size .u8 A n xs)
    (h1 : -9223372036854775808 ≤ N) (h2 : N ≤ 9223372036854775807) (hc : n ≤ c) (hm : n ≤ 140737488355328) (hn : n + 10 ≤ 140737488355328) :
    Calls Try.prog 14 #[.slice A n c, .int .i64 N] w (Outs w (xs ++ enc N)) := by
  go_enter Try.func14, Try.ntmps14
  go_wp2_with fail
  refine (full_any A n c w hc hm).mono ?_
  rintro e w' ⟨rfl, rfl⟩
  go_wp2_with fail
  refine (appendInt_any A n n xs N w w.heap.size (Nat.le_refl _) (.inr ⟨rfl, hS⟩) h1 h2 hn).mono ?_
  rintro e w' ⟨A', c', rfl, ho, hb⟩
  go_wp2_with fail
  go_ret
  exact ⟨_, _, _, rfl, ho, hb⟩

set_option maxHeartbeats 400000 in
theorem PutText_any (A : Option Addr) (n c : Nat) (xs : List Int) (s : ByteArray) (w : World) (hS : Sh w w.heap.size .u8 A n xs)
    (hc : n ≤ c) (hm : n ≤ 140737488355328) (hn : n + 10 + s.size ≤ 140737488355328) :
    Calls Try.prog 19 #[.slice A n c, .string s] w (Outs w (xs ++ enc s.size ++ sb s)) := by
  have hel := (enc_len s.size).2
  go_enter Try.func19, Try.ntmps19
  go_wp2_with fail
  refine (full_any A n c w hc hm).mono ?_
  rintro e w' ⟨rfl, rfl⟩
  go_wp2_with fail
  refine (appendInt_any A n n xs s.size w w.heap.size (Nat.le_refl _) (.inr ⟨rfl, hS⟩) (by omega) (by omega) (by omega)).mono ?_
  rintro e w' ⟨A', c', rfl, ho, hb⟩
  have hsz := hb.size
  generalize hE : enc (s.size : Int) = E at *
  clear hE
  go_wp2_with (at_builtin; refine wpList_app_str _ rfl (.tmp 10) (.tmp 11) _ _ rfl Try.underlying9 el8 rfl ho rfl (by omega) hsz ?_; intro A2 c2 w2 ho2 hbl)
  go_ret
  exact ⟨_, _, _, rfl, ho2, hb.trans hbl⟩

theorem encs_snoc {l : List Int} {i : Nat} (h : i < l.length) : encs (l.take (i + 1)) = encs (l.take i) ++ enc (l.getD i 0) := by
  unfold encs
  rw [take_snoc h, List.flatMap_append]; simp
theorem encs_len : ∀ l : List Int, (encs l).length ≤ 10 * l.length
  | [] => by simp [encs]
  | x :: l => by
    have := encs_len l
    have h := enc_len x
    unfold encs at this ⊢
    rw [List.flatMap_cons, List.length_append, List.length_cons]
    omega

set_option maxHeartbeats 1000000 in
theorem PutList_any (A : Option Addr) (n c : Nat) (xs : List Int) (A1 : Option Addr) (n1 c1 : Nat) (l : List Int) (w : World) (hS : Sh w w.heap.size .u8 A n xs) (hL : Sh w w.heap.size .i64 A1 n1 l)
    (hl : ∀ x ∈ l, -9223372036854775808 ≤ x ∧ x ≤ 9223372036854775807)
    (hc : n ≤ c) (hm : n ≤ 140737488355328) (hn : n + 10 + 10 * n1 ≤ 140737488355328) :
    Calls Try.prog 23 #[.slice A n c, .slice A1 n1 c1] w (Outs w (xs ++ enc n1 ++ encs l)) := by
  have hel := (enc_len n1).2
  have hxl := hS.len
  have hll := hL.len
  go_enter Try.func23, Try.ntmps23
  go_wp2_with fail
  refine (full_any A n c w hc hm).mono ?_
  rintro e w' ⟨rfl, rfl⟩
  go_wp2_with fail
  refine (appendInt_any A n n xs n1 w w.heap.size (Nat.le_refl _) (.inr ⟨rfl, hS⟩) (by omega) (by omega) (by omega)).mono ?_
  rintro e w' ⟨A', c', rfl, ho, hb⟩
  generalize hE : enc (n1 : Int) = E at *
  clear hE
  generalize hZ : n + E.length = m at *
  have HZ := hid hZ
  clear hZ
  go_wp2_with fail
  go_loopw [4, 14] (fun b i wr => ∃ (A' : Option Addr) (m' c' k : Nat), b = .slice A' m' c' ∧ i = .int .i64 k ∧ k ≤ n1 ∧ m' ≤ m + 10 * k ∧ Ow wr w.heap.size 5 .u8 A' m' c' (xs ++ E ++ encs (l.take k)) ∧ Below w.heap.size w wr) (fun _ i _ => n1 - (intOf i).toNat)
  case atStart => exact ⟨A', m, c', 0, rfl, rfl, by omega, by omega, by simpa [encs] using ho, hb⟩
  case round =>
    obtain ⟨A2, m2, c2, k, rfl, rfl, hk, hm2, ho2, hb2⟩ := hrel
    have hsz := hb2.size
    have hZ := HZ.out
    by_cases hlt : k < n1
    · obtain ⟨bb, oo, rfl, hbb, hcell⟩ := hL.2 (by omega)
      have hck := (hb2.cell (p := ⟨bb, oo + k, none⟩) hbb).trans (hcell k hlt)
      have hx : -9223372036854775808 ≤ l.getD k 0 ∧ l.getD k 0 ≤ 9223372036854775807 := by
        have : l.getD k 0 = l[k]'(by omega) := by simp [List.getD, List.getElem?_eq_getElem (show k < l.length by omega)]
        rw [this]; exact hl _ (List.getElem_mem _)
      have hsn := hid (encs_snoc (l := l) (i := k) (by omega))
      have hex := (enc_len (l.getD k 0)).2
      generalize l.getD k 0 = x at *
      go_wp2_with fail
      refine (appendInt_any A2 m2 c2 _ x wr w.heap.size (by omega) (.inl ho2) hx.1 hx.2 (by omega)).mono ?_
      rintro e w' ⟨A3, c3, rfl, ho3, hb3⟩
      generalize hE2 : (enc x).length = ex at *
      clear hE2
      go_wp2_with fail
      go_roundw
      case rel => exact ⟨A3, m2 + ex, c3, k + 1, rfl, by go_num, by omega, by omega, by rw [hsn.out, ← List.append_assoc]; exact ho3, hb2.trans hb3⟩
      case measure => simp [intOf]; omega
    · obtain rfl : k = n1 := by omega
      go_wp2_with fail
      go_ret
      exact ⟨_, _, _, rfl, by rw [List.take_of_length_le (by omega)] at ho2; exact ho2, hb2⟩
end Go.Proofs.Ytlpljhaogmfnkaa.Wire
