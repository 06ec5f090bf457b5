/- Contracts of digest and its reference: Hex. -/
import Derived.Test.YtnlkpnpjmbpgbaaDoorDMix
namespace Go.Proofs.YtnlkpnpjmbpgbaaDoor.Digest
open Go.RowKit
open Go.Proofs.YtnlkpnpjmbpgbaaDoor.Wire
set_option linter.unusedVariables false

/-- the digits, as integers -/
def ihex (d : Int) : List Int := (hex 16 d.toNat).map fun (c : Nat) => (c : Int)
theorem ihex_len (d : Int) : (ihex d).length = 16 := by unfold ihex; rw [List.length_map, hex_len]
theorem hex_get : ∀ (k d j : Nat), j < k → (hex k d).getD j 0 = hdig (d / 16 ^ (k - 1 - j) % 16)
  | 0, _, _, h => by omega
  | k + 1, d, j, h => by
    rw [hex]
    by_cases hj : j < k
    · have := hex_get k (d / 16) j hj
      have e : (hex k (d / 16) ++ [hdig (d % 16)]).getD j 0 = (hex k (d / 16)).getD j 0 := by
        simp only [List.getD]
        rw [List.getElem?_append_left (by rw [hex_len]; exact hj)]
      rw [e, this, Nat.div_div_eq_div_mul]
      congr 3
      rw [Nat.mul_comm, ← Nat.pow_succ]
      congr 1
      omega
    · obtain rfl : j = k := by omega
      simp only [List.getD]
      rw [List.getElem?_append_right (by rw [hex_len]; omega), hex_len]
      simp
theorem ihex_get {d : Int} {j : Nat} (h : j < 16) : (ihex d).getD j 0 = (hdig (d.toNat / 16 ^ (15 - j) % 16) : Nat) := by
  have := hex_get 16 d.toNat j h
  unfold ihex
  have e : ((hex 16 d.toNat).map fun (c : Nat) => (c : Int)).getD j 0 = (((hex 16 d.toNat).getD j 0 : Nat) : Int) := by
    simp only [List.getD, List.getElem?_map]
    cases (hex 16 d.toNat)[j]? <;> rfl
  rw [e, this]
theorem ihex_b (d : Int) : byts (ihex d) := by
  intro x hx
  obtain ⟨c, hc, rfl⟩ := List.mem_map.1 hx
  have := hex_b 16 d.toNat c hc
  omega

/-- block g holds the numbers L -/
def Row (w : World) (g : Nat) (t : TypeId) (L : List Int) : Prop := w.heap[g]? = some (.cells (iv .u8 L).toArray t (0, 0))
theorem Row.cell {w : World} {g : Nat} {t : TypeId} {L : List Int} (h : Row w g t L) {j : Nat} (hj : j < L.length) : w.cell? ⟨g, j, none⟩ = some (.int .u8 (L.getD j 0)) := by
  rw [cell_of_row w g j _ t (0, 0) h]
  have := iv_at (k := .u8) hj
  simpa using this
theorem Row.free {w : World} {g : Nat} {t : TypeId} {L : List Int} (h : Row w g t L) (j : Nat) : w.frozen? ⟨g, j, none⟩ = false := frozen_of_row w g j _ t h
theorem Row.set {w : World} {g : Nat} {t : TypeId} {L : List Int} (h : Row w g t L) (j : Nat) (x : Int) : Row (w.setCell ⟨g, j, none⟩ (.int .u8 x)) g t (L.set j x) := by
  have := heap_setCell_same w g j _ t (.int .u8 x) h
  unfold Row
  rw [this]
  simp [iv, List.map_set]

theorem hexs (q : Nat) (h : q < 16) (h' : q < (⟨#[48, 49, 50, 51, 52, 53, 54, 55, 56, 57, 97, 98, 99, 100, 101, 102]⟩ : ByteArray).size) :
    ((⟨#[48, 49, 50, 51, 52, 53, 54, 55, 56, 57, 97, 98, 99, 100, 101, 102]⟩ : ByteArray)[q]'h').toNat = hdig q := by
  have : ∀ q : Fin 16, ((⟨#[48, 49, 50, 51, 52, 53, 54, 55, 56, 57, 97, 98, 99, 100, 101, 102]⟩ : ByteArray)[q.val]'(show q.val < 16 from q.isLt)).toNat = hdig q.val := by decide +kernel
  exact this ⟨q, h⟩
theorem hexx (q : Nat) (h : q < 16) : (⟨#[48, 49, 50, 51, 52, 53, 54, 55, 56, 57, 97, 98, 99, 100, 101, 102]⟩ : ByteArray).extract q (q + 1) = strOfNums [(hdig q : Int)] := by
  have : ∀ q : Fin 16, (⟨#[48, 49, 50, 51, 52, 53, 54, 55, 56, 57, 97, 98, 99, 100, 101, 102]⟩ : ByteArray).extract q.val (q.val + 1) = strOfNums [(hdig q.val : Int)] := by decide +kernel
  exact this ⟨q, h⟩
theorem strOf_app (a b : List Int) : strOfNums a ++ strOfNums b = strOfNums (a ++ b) := by
  apply ByteArray.ext
  simp [strOfNums]
theorem take_set {L : List Int} {k : Nat} (x : Int) (h : k < L.length) : (L.set k x).take (k + 1) = L.take k ++ [x] := by
  rw [List.take_succ_eq_append_getElem (by simpa using h), List.take_set, List.set_eq_of_length_le (by rw [List.length_take]; omega)]
  simp
theorem pow16 (k : Nat) (h : k < 16) : (16 : Nat) ^ (15 - k) = 2 ^ (60 - 4 * k) := by
  rw [show (16 : Nat) = 2 ^ 4 by decide, ← Nat.pow_mul]
  congr 1; omega
theorem nib (d : Int) (k : Nat) (h0 : 0 ≤ d) (h : d ≤ 18446744073709551615) (hk : k < 16) : bits .and .u64 (d / 2 ^ (60 - 4 * k)) 15 = ((d.toNat / 16 ^ (15 - k) % 16 : Nat) : Int) := by
  rw [pow16 k hk]
  generalize 60 - 4 * k = e
  obtain ⟨n, rfl⟩ : ∃ n : Nat, d = n := ⟨d.toNat, by omega⟩
  rw [Int.toNat_natCast]
  have hc : (n : Int) / 2 ^ e = ((n / 2 ^ e : Nat) : Int) := by
    rw [Int.natCast_ediv, Int.natCast_pow]; rfl
  have hle : n / 2 ^ e ≤ n := Nat.div_le_self _ _
  rw [hc]
  generalize n / 2 ^ e = x at *
  rw [u64_and _ _ (by omega) (by omega) (by omega) (by omega), Int.toNat_natCast]
  congr 1
  exact Nat.and_two_pow_sub_one_eq_mod _ 4

set_option maxHeartbeats 1000000 in
theorem Hex_any (d : Int) (w : World) (h0 : 0 ≤ d) (h : d ≤ 18446744073709551615) :
    Calls Tryd.prog 18 #[.int .u64 d] w fun e w' => e = .returned (.string (strOfNums (ihex d))) ∧ Bl w w' := by
  have hH := hid (ihex_len d)
  have hG := hid (fun j => ihex_get (d := d) (j := j))
  generalize ihex d = H at *
  go_enter Tryd.func18, Tryd.ntmps18
  go_wp2_with fail
  have hR : Row (w.alloc (.cells (iv .u8 [0, 0, 0, 0, 0, 0, 0, 0, 0, 0, 0, 0, 0, 0, 0, 0]).toArray 43)) w.heap.size 43 [0, 0, 0, 0, 0, 0, 0, 0, 0, 0, 0, 0, 0, 0, 0, 0] := heap_alloc_new w _
  go_loopw [5] (fun i wr => ∃ (k : Nat) (L : List Int), i = .int .i64 k ∧ k ≤ 16 ∧ L.length = 16 ∧ Hid (L.take k = H.take k) ∧ Row wr w.heap.size 43 L ∧ Bl w wr) (fun i _ => 16 - (intOf i).toNat)
  case atStart => exact ⟨0, [0, 0, 0, 0, 0, 0, 0, 0, 0, 0, 0, 0, 0, 0, 0, 0], rfl, by omega, rfl, hid rfl, hR, (Bl.refl w).alloc _⟩
  case round =>
    clear hR
    obtain ⟨k, L, rfl, hk, hL, he, hrow, hb⟩ := hrel
    have HL := hid hL
    clear hL
    by_cases hlt : k < 16
    · have hcl := hrow.cell (j := k) (by rw [HL.out]; exact hlt)
      have hfr := hrow.free k
      have ha := nib d k h0 h hlt
      have hGk := hid (hG.out k hlt)
      have hq : d.toNat / 16 ^ (15 - k) % 16 < 16 := Nat.mod_lt _ (by omega)
      generalize d.toNat / 16 ^ (15 - k) % 16 = q at *
      have hdg := hid (hexs q hq hq)
      have hsn := hid (take_snoc (l := H) (i := k) (by rw [hH.out]; omega))
      go_wp2_with fail
      go_roundw
      case rel => exact ⟨k + 1, L.set k _, by go_num, by omega, by rw [List.length_set, HL.out], hid (by rw [take_set _ (by rw [HL.out]; exact hlt), hsn.out, he.out, hGk.out, hdg.out]), hrow.set _ _, Below.setCell hb (Nat.le_refl _) _⟩
      case measure => simp [intOf]; omega
    · obtain rfl : k = 16 := by omega
      have e : L = H := by
        have := he.out
        rwa [take_all (by rw [HL.out]; omega), take_all (by rw [hH.out]; omega)] at this
      subst e
      have hcv := run_convert_bytes_arg (P := Tryd.prog) wr 22 5 Tryd.underlying22 Tryd.underlying5 w.heap.size 0 16 16 L HL.out (fun i hi => by rw [Nat.zero_add]; exact hrow.cell (by rw [HL.out]; exact hi)) 9 Tryd.underlying9
      go_wp2_with fail
      go_ret
      exact ⟨rfl, hb⟩

set_option maxHeartbeats 1000000 in
theorem RHex_any (d : Int) (w : World) (h0 : 0 ≤ d) (h : d ≤ 18446744073709551615) :
    Calls Tryd.prog 19 #[.int .u64 d] w fun e w' => e = .returned (.string (strOfNums (ihex d))) ∧ w = w' := by
  have hH := hid (ihex_len d)
  have hG := hid (fun j => ihex_get (d := d) (j := j))
  generalize ihex d = H at *
  go_enter Tryd.func19, Tryd.ntmps19
  go_wp2_with fail
  go_loop [0, 3, 4] (fun x s i => ∃ (k : Nat) (D : Int) (S : ByteArray), i = .int .i64 k ∧ k ≤ 16 ∧ x = .int .u64 D ∧ 0 ≤ D ∧ D ≤ 18446744073709551615 ∧ Hid (D = (d.toNat / 16 ^ k : Nat)) ∧ s = .string S ∧ S.size ≤ k ∧ Hid (S = strOfNums (H.drop (16 - k)))) (fun _ _ i => 16 - (intOf i).toNat)
  case atStart => exact ⟨0, d, _, rfl, by omega, rfl, h0, h, hid (by simp; omega), rfl, by decide, hid (by rw [List.drop_eq_nil_of_le (by rw [hH.out]; omega)]; rfl)⟩
  case round =>
    obtain ⟨k, D, S, rfl, hk, rfl, g0, g1, hD, rfl, hsz, hS⟩ := hrel
    by_cases hlt : k < 16
    · obtain ⟨q, hq⟩ : ∃ q : Nat, D % 16 = q := ⟨(D % 16).toNat, by omega⟩
      have hq16 : q < 16 := by omega
      have e1 := hexx q hq16
      have hsx : (strOfNums [(hdig q : Int)]).size = 1 := by rw [strOfNums_size]; rfl
      have hap := hid (strOf_app [(hdig q : Int)] (H.drop (16 - k)))
      have hdr : Hid (H.drop (16 - (k + 1)) = [(hdig q : Int)] ++ H.drop (16 - k)) := by
        apply hid
        have hg := hG.out (15 - k) (by omega)
        have hl := hH.out
        rw [show 16 - (k + 1) = 15 - k by omega, show 16 - k = (15 - k) + 1 by omega, List.drop_eq_getElem_cons (show 15 - k < H.length by omega)]
        have hge : H[15 - k]'(by omega) = H.getD (15 - k) 0 := by simp [List.getD, List.getElem?_eq_getElem (show 15 - k < H.length by omega)]
        rw [hge, hg, show 15 - (15 - k) = k by omega]
        have hD' := hD.out
        have : d.toNat / 16 ^ k % 16 = q := by omega
        rw [this]; rfl
      generalize strOfNums [(hdig q : Int)] = X at *
      have hDk := hid (show D / 16 = (d.toNat / 16 ^ (k + 1) : Nat) by rw [hD.out, Nat.pow_succ, ← Nat.div_div_eq_div_mul]; omega)
      have hsx1 : X.size ≤ 1 := by omega
      clear hsx
      go_wp2_with fail
      go_round
      case rel => exact ⟨k + 1, D / 16, _, by go_num, by omega, rfl, by omega, by omega, hDk, rfl, by rw [ByteArray.size_append]; omega, hid (by rw [hS.out, hap.out, hdr.out])⟩
      case measure => simp [intOf]; omega
    · obtain rfl : k = 16 := by omega
      have hS' : Hid (S = strOfNums H) := hid hS.out
      go_wp2_with fail
      go_ret
      exact ⟨retS hS'.out, rfl⟩
end Go.Proofs.YtnlkpnpjmbpgbaaDoor.Digest
