/- Contracts of digest and its reference: equality of bytes, Seal, Open. -/
import Derived.Test.YtnlkpnpjmbpgbaaDoorDMix
namespace Go.Proofs.YtnlkpnpjmbpgbaaDoor.Digest
open Go.RowKit
open Go.Proofs.YtnlkpnpjmbpgbaaDoor.Wire
set_option linter.unusedVariables false

/-- two lists are equal -/
def eqb (xs ys : List Int) : Bool := decide (xs = ys)
theorem eqb_same (xs : List Int) : eqb xs xs = true := by simp [eqb]
theorem eqb_yes {xs ys : List Int} (h : xs = ys) : eqb xs ys = true := by simp [eqb, h]
theorem eqb_no {xs ys : List Int} (h : xs ≠ ys) : eqb xs ys = false := by simp [eqb, h]

theorem conv_empty (w : World) (A : Option Addr) (c : Nat) : (convert 22 9 (.slice A 0 c)).run Tryd.prog w = .ok (.string ⟨#[]⟩) w := by
  rcases A with _ | a
  · exact run_convert_bytes_nil w 22 5 Tryd.underlying22 Tryd.underlying5 0 c 9 Tryd.underlying9
  · rw [run_convert_bytes_string w 22 9 5 _ 0 c Tryd.underlying22 Tryd.underlying5 Tryd.underlying9,
      run_bytesToString w a 0 c [] (run_loadCells_list (P := Tryd.prog) w a [] (fun j v hj => by simp at hj))]
    rfl
theorem conv_any {w : World} {B n c : Nat} {A : Option Addr} {xs : List Int} (hS : Sh w B .u8 A n xs) : (convert 22 9 (.slice A n c)).run Tryd.prog w = .ok (.string (strOfNums xs)) w := by
  by_cases h0 : n = 0
  · subst h0
    obtain rfl : xs = [] := List.eq_nil_of_length_eq_zero hS.len
    exact conv_empty w A c
  · obtain ⟨b, o, rfl, _, hcell⟩ := hS.2 (by omega)
    exact run_convert_bytes_arg w 22 5 Tryd.underlying22 Tryd.underlying5 b o n c xs hS.len hcell 9 Tryd.underlying9
theorem strOf_inj {xs ys : List Int} (hx : byts xs) (hy : byts ys) (h : strOfNums xs = strOfNums ys) : xs = ys := by
  have h1 : (strOfNums xs).data.toList = (strOfNums ys).data.toList := by rw [h]
  rw [strOfNums_data, strOfNums_data] at h1
  have hl : xs.length = ys.length := by have := congrArg List.length h1; simpa using this
  apply List.ext_getElem hl
  intro i hi hi'
  have h2 : (xs.map fun n => UInt8.ofNat n.toNat)[i]? = (ys.map fun n => UInt8.ofNat n.toNat)[i]? := by rw [h1]
  simp only [List.getElem?_map, List.getElem?_eq_getElem hi, List.getElem?_eq_getElem hi', Option.map_some, Option.some.injEq] at h2
  have h3 := congrArg UInt8.toNat h2
  rw [UInt8.toNat_ofNat', UInt8.toNat_ofNat'] at h3
  have b1 := hx _ (List.getElem_mem hi)
  have b2 := hy _ (List.getElem_mem hi')
  omega
theorem strOf_eqb {xs ys : List Int} (hx : byts xs) (hy : byts ys) : ((strOfNums xs).toList == (strOfNums ys).toList) = eqb xs ys := by
  rw [ByteArray.toList_eq, ByteArray.toList_eq]
  have e : ((strOfNums xs).data.toList == (strOfNums ys).data.toList) = decide (strOfNums xs = strOfNums ys) := by
    by_cases h : strOfNums xs = strOfNums ys
    · simp [h]
    · have : ¬ (strOfNums xs).data.toList = (strOfNums ys).data.toList := fun e => h (by
        have := congrArg List.toArray e
        simp only [Array.toArray_toList] at this
        exact congrArg ByteArray.mk this)
      rw [decide_eq_false h]
      exact beq_eq_false_iff_ne.2 this
  rw [e]
  unfold eqb
  by_cases h : xs = ys
  · simp [h]
  · have : ¬ strOfNums xs = strOfNums ys := fun e => h (strOf_inj hx hy e)
    rw [decide_eq_false h, decide_eq_false this]

set_option maxHeartbeats 400000 in
theorem Equal_any (A A' : Option Addr) (n n' c c' : Nat) (xs ys : List Int) (w : World) (B B' : Nat) (hS : Sh w B .u8 A n xs) (hS' : Sh w B' .u8 A' n' ys) (hx : byts xs) (hy : byts ys) :
    Calls Tryd.prog 28 #[.slice A n c, .slice A' n' c'] w fun e w' => e = .returned (.bool (eqb xs ys)) ∧ w = w' := by
  have h1 := conv_any (c := c) hS
  have h2 := conv_any (c := c') hS'
  have fin := hid (strOf_eqb hx hy)
  generalize strOfNums xs = S at *
  generalize strOfNums ys = T at *
  clear hx hy hS hS'
  go_enter Tryd.func28, Tryd.ntmps28
  go_wp2_with fail
  go_ret
  exact ⟨retB fin.out, rfl⟩

set_option maxHeartbeats 600000 in
theorem Same_any (A A' : Option Addr) (n n' c c' : Nat) (xs ys : List Int) (w : World) (B B' : Nat) (hS : Sh w B .u8 A n xs) (hS' : Sh w B' .u8 A' n' ys) (hm : n ≤ 140737488355328) (hm' : n' ≤ 140737488355328) :
    Calls Tryd.prog 22 #[.slice A n c, .slice A' n' c'] w fun e w' => e = .returned (.bool (eqb xs ys)) ∧ Q w w' := by
  have hl := hid hS.len
  have hl' := hid hS'.len
  by_cases hn : n = n'
  · subst hn
    go_enter Tryd.func22, Tryd.ntmps22
    go_wp2_with fail
    go_loopw [5] (fun i wr => ∃ (k : Nat), i = .int .i64 k ∧ k ≤ n ∧ Hid (xs.take k = ys.take k) ∧ Q w wr) (fun i _ => n - (intOf i).toNat)
    case atStart => exact ⟨0, rfl, by omega, hid rfl, Q.refl _⟩
    case round =>
      obtain ⟨k, rfl, hk, he, hq⟩ := hrel
      by_cases hlt : k < n
      · obtain ⟨b, o, rfl, _, hcell⟩ := (hS.below (hq.below B)).2 (by omega)
        obtain ⟨b', o', rfl, _, hcell'⟩ := (hS'.below (hq.below B')).2 (by omega)
        have hc1 := hcell k hlt
        have hc2 := hcell' k hlt
        have t1 := hid (take_snoc (l := xs) (i := k) (by rw [hl.out]; omega))
        have t2 := hid (take_snoc (l := ys) (i := k) (by rw [hl'.out]; omega))
        clear hcell hcell'
        by_cases hxy : xs.getD k 0 = ys.getD k 0
        · rw [hxy] at hc1 t1
          generalize ys.getD k 0 = y at *
          clear hxy
          go_wp2_with fail
          go_quiet (fail)
          go_wp2_with fail
          go_roundw
          case rel => exact ⟨k + 1, by go_num, by omega, hid (by rw [t1.out, t2.out, he.out]), hq.drewN _⟩
          case measure => simp [intOf]; omega
        · have hne : xs ≠ ys := fun e => hxy (by rw [e])
          have fin := hid (eqb_no hne)
          clear hne
          generalize xs.getD k 0 = x at *
          generalize ys.getD k 0 = y at *
          have t : (x == y) = false := by simpa using hxy
          go_wp2_with fail
          go_quiet (fail)
          go_wp2_with fail
          go_ret
          exact ⟨retB fin.out.symm, hq.drewN _⟩
      · obtain rfl : k = n := by omega
        go_wp2_with fail
        go_ret
        have := he.out
        rw [take_all (by rw [hl.out]; omega), take_all (by rw [hl'.out]; omega)] at this
        exact ⟨retB (eqb_yes this).symm, hq⟩
  · have hne : xs ≠ ys := fun e => hn (by rw [← hl.out, ← hl'.out, e])
    have fin := hid (eqb_no hne)
    clear hne
    have t : ((n : Int) == (n' : Int)) = false := by simp; omega
    go_enter Tryd.func22, Tryd.ntmps22
    go_wp2_with fail
    go_ret
    exact ⟨retB fin.out.symm, Q.refl _⟩

/-- what is sealed -/
def isld (xs : List Int) : List Int := xs ++ ibeb 4 (icrc xs)
theorem isld_len (xs : List Int) : (isld xs).length = xs.length + 4 := by rw [isld, List.length_append, ibeb_len]
theorem isld_b {xs : List Int} (h : byts xs) : byts (isld xs) := byts_app h (ibeb_b _ _)
theorem beb4 {C : Int} (h0 : 0 ≤ C ∧ C ≤ 4294967295) : ibeb 4 C = [C / 16777216, C / 65536 % 256, C / 256 % 256, C % 256] := by
  unfold ibeb
  simp only [beb, Nat.reducePow, List.cons.injEq, and_true]
  omega

set_option maxHeartbeats 1000000 in
theorem Seal_any (A : Option Addr) (n c : Nat) (xs : List Int) (w : World) (hS : Sh w w.heap.size .u8 A n xs) (hb : byts xs) (hT : Tab w) (hn : n + 4 ≤ 140737488355328) :
    Calls Tryd.prog 20 #[.slice A n c] w (Out2 w .u8 (isld xs)) := by
  have hC := icrc_b hb
  have hxs := hid (show xs ++ ibeb 4 (icrc xs) = isld xs from rfl)
  have c1 := hid (fun w' (h : Bl w w') => Crc_any A n c xs w' _ (hS.bl h) hb (hT.bl h) (by omega))
  generalize icrc xs = C at *
  have hq := hid (beb4 hC)
  obtain ⟨i0, hi, hz0, hz1, hz2⟩ := info_parts (show (Tryd.prog.info? 5).map (fun i => (i.zero, i.size, i.bytes)) = some (some (.int .u8 0), 1, 1) by kernel_rfl)
  go_enter Tryd.func20, Tryd.ntmps20
  go_wp2_with (first
    | (at_make; refine wpList_make_own _ rfl _ _ 22 rfl w.heap.size 5 i0 (.int .u8 0) 1 Tryd.underlying22 hi hz0 hz1 _ _ _ (n + 4) rfl rfl (by omega) (by rw [hz2]; omega) (by unfold maxLen; omega) (Nat.le_refl _) ?_; intro w0 hown0 hgrow0; have hb0 : Bl w w0 := (Below.refl w.heap.size w).grown hgrow0 (Nat.le_refl _) (fun g hk => by cases hk))
    | (at_builtin; refine wpList_app_own _ rfl (.tmp 8) (.tmp 9) _ rfl el8 (B := w.heap.size) (xs := []) rfl hown0 rfl (hS.bl hb0) (by omega) (by omega) hb0.size ?_; intro A2 c2 w2 ho2 hb2))
  have hb02 := Below.trans hb0 hb2
  simp only [List.nil_append, Nat.zero_add] at ho2
  clear hown0 hgrow0 hb0 hb2
  refine (c1.out _ hb02).mono ?_
  rintro e w' ⟨rfl, rfl⟩
  go_wp2_with (at_builtin; refine wpList_app_own _ rfl (.tmp 14) (.tmp 26) _ rfl el8 rfl (ho2.alloc _) rfl (Sh.made _ .u8 _ [C / 16777216, C / 65536 % 256, C / 256 % 256, C % 256] _ rfl rfl) (by simp; omega) (by simp; omega) (by have := hb02.size; simp; omega) ?_; intro A3 c3 w3 ho3 hb3)
  go_ret
  rw [← hq.out, hxs.out] at ho3
  exact ho3.out (Below.trans (Bl.alloc (show Bl w w2 from hb02) _) hb3)
end Go.Proofs.YtnlkpnpjmbpgbaaDoor.Digest
