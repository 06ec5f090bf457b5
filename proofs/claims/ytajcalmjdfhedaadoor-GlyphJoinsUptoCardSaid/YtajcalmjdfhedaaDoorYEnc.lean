/- Contract of glyph: Encode, by way of strings.Builder. -/
import Derived.Test.YtajcalmjdfhedaaDoorYRef6
import Derived.Test.YtajcalmjdfhedaaDoorYTab
import Derived.Test.YtajcalmjdfhedaaDoorShelf
import Derived.Laws.BitsAllLaws
import Derived.Lib.Builder
namespace Go.Proofs.YtajcalmjdfhedaaDoor.Glyph
open Go.RowKit
open Go.Proofs.YtajcalmjdfhedaaDoor.Wire
open Go.Lib (run_neq_ptr_same run_to_unsafe run_from_unsafe run_noEscape)
set_option linter.unusedVariables false

theorem elB : El Tryd.prog 44 5 .u8 1 := ⟨Tryd.underlying44, info_parts (by kernel_rfl)⟩
/-- a builder of the call's own in block b: its address, its bytes -/
def Bd (w : World) (b : Nat) (p : Value) (A : Option Addr) (n c : Nat) (zs : List Int) : Prop :=
  w.heap[b]? = some (.cells #[p, .slice A n c] 46 (0, 0)) ∧ Ow w (b + 1) 5 .u8 A n c zs

set_option maxHeartbeats 1000000 in
theorem non_any (A : Option Addr) (n c B : Nat) (zs : List Int) (r : Int) (w : World) (hr : 0 ≤ scr r) (h8 : 128 ≤ r) (ho : Ow w B 5 .u8 A n c zs) (hm : n ≤ 70368744177664) (hB : B ≤ w.heap.size) :
    Calls Tryd.prog 56 #[.slice A n c, .int .i32 r] w fun e w' => ∃ A' n' c', e = .returned (.slice A' n' c') ∧ n' ≤ n + 3 ∧ Ow w' B 5 .u8 A' n' c' (zs ++ un r) ∧ Below B w w' := by
  obtain ⟨h1, h2, h3⟩ := scr_range hr
  have hl := ho.len
  clear hr
  have hu : Hid (un r = if r < 128 then [r] else if r < 2048 then [192 + r / 64, 128 + r % 64] else [224 + r / 4096, 128 + r / 64 % 64, 128 + r % 64]) := hid rfl
  generalize un r = U at *
  by_cases h16 : r < 2048
  · have hu := hid (hu.out.trans ((if_neg (by omega)).trans (if_pos h16)))
    go_enter Tryd.func56, Tryd.ntmps56
    go_wp2_with (at_builtin; refine wpList_app_own _ rfl (.tmp 14) (.tmp 23) _ rfl elB rfl (ho.alloc _) rfl (Sh.made _ _ _ [192 + r / 64, 128 + r % 64] _ rfl rfl) (by omega) (by simp; omega) (by simp; omega) ?_; intro A2 c2 w4 ho4 hb4)
    go_ret
    refine ⟨A2, _, c2, rfl, by simp, by rw [hu.out]; exact ho4, Below.trans ((Below.refl B w).alloc hB _) hb4⟩
  · have hu := hid (hu.out.trans ((if_neg (by omega)).trans (if_neg h16)))
    have h5 : r < 55296 := by omega
    go_enter Tryd.func56, Tryd.ntmps56
    go_wp2_with (at_builtin; refine wpList_app_own _ rfl (.tmp 34) (.tmp 48) _ rfl elB rfl (ho.alloc _) rfl (Sh.made _ _ _ [224 + r / 4096, 128 + r / 64 % 64, 128 + r % 64] _ rfl rfl) (by omega) (by simp; omega) (by simp; omega) ?_; intro A2 c2 w4 ho4 hb4)
    go_ret
    refine ⟨A2, _, c2, rfl, by simp, by rw [hu.out]; exact ho4, Below.trans ((Below.refl B w).alloc hB _) hb4⟩
set_option maxHeartbeats 1000000 in
theorem app_any (A : Option Addr) (n c B : Nat) (zs : List Int) (r : Int) (w : World) (hr : 0 ≤ scr r) (ho : Ow w B 5 .u8 A n c zs) (hm : n ≤ 70368744177664) (hB : B ≤ w.heap.size) :
    Calls Tryd.prog 45 #[.slice A n c, .int .i32 r] w fun e w' => ∃ A' n' c', e = .returned (.slice A' n' c') ∧ n' ≤ n + 3 ∧ Ow w' B 5 .u8 A' n' c' (zs ++ un r) ∧ Below B w w' := by
  obtain ⟨h1, h2, h3⟩ := scr_range hr
  have hl := ho.len
  by_cases h8 : r < 128
  · have hu : Hid (un r = [r]) := hid (by unfold un; rw [if_pos h8])
    clear hr
    generalize un r = U at *
    go_enter Tryd.func45, Tryd.ntmps45
    go_wp2_with (at_builtin; refine wpList_app_own _ rfl (.tmp 8) (.tmp 11) _ rfl elB rfl (ho.alloc _) rfl (Sh.made _ _ _ [r] _ rfl rfl) (by omega) (by simp; omega) (by simp; omega) ?_; intro A2 c2 w4 ho4 hb4)
    go_ret
    refine ⟨A2, _, c2, rfl, by simp, by rw [hu.out]; exact ho4, Below.trans ((Below.refl B w).alloc hB _) hb4⟩
  · have c0 := hid (non_any A n c B zs r w hr (by omega) ho hm hB)
    clear ho hr
    generalize un r = U at *
    go_enter Tryd.func45, Tryd.ntmps45
    go_wp2_with fail
    refine c0.out.mono ?_
    rintro e w' ⟨A2, n2, c2, rfl, hn2, ho2, hb2⟩
    go_wp2_with fail
    go_ret
    exact ⟨A2, n2, c2, rfl, hn2, ho2, hb2⟩

theorem liesBd : liesAt Tryd.prog Tryd.prog.depth 46 (2 / Tryd.prog.cellsOf 46) 0 46 1 = true := by kernel_rfl
theorem infoBd : ∃ j, Tryd.prog.info? 46 = some j ∧ j.size ≠ 0 := by
  have h : ((Tryd.prog.info? 46).map fun i => i.size) = some 2 := by kernel_rfl
  obtain ⟨j, hj, hs⟩ := Option.map_eq_some_iff.1 h
  exact ⟨j, hj, by omega⟩
theorem Bd.shape {w : World} {b n c : Nat} {p : Value} {A : Option Addr} {zs : List Int} (h : Bd w b p A n c zs) : w.shape? b = some (46, 2) := by
  simp [World.shape?, h.1]
theorem Bd.lt {w : World} {b n c : Nat} {p : Value} {A : Option Addr} {zs : List Int} (h : Bd w b p A n c zs) : b < w.heap.size := (Array.getElem?_eq_some_iff.1 h.1).1
theorem Ow.put {w : World} {B n c b : Nat} {k : IntKind} {A : Option Addr} {xs : List Int} {e : TypeId} (h : Ow w B e k A n c xs) (hb : b < B) (j : Nat) (v : Value) : Ow (w.setCell ⟨b, j, none⟩ v) B e k A n c xs := by
  refine ⟨h.1, ?_⟩
  rcases h.2 with h0 | ⟨g, cap, cur, hv, hg, hh, rest⟩
  · exact .inl h0
  · exact .inr ⟨g, cap, cur, hv, hg, (heap_setCell_other w ⟨b, j, none⟩ g v (show g ≠ b by omega)).trans hh, rest⟩
theorem Bd.set0 {w : World} {b n c : Nat} {p q : Value} {A : Option Addr} {zs : List Int} (h : Bd w b p A n c zs) : Bd (w.setCell ⟨b, 0, none⟩ q) b q A n c zs :=
  ⟨by rw [heap_setCell_same w b 0 _ _ q h.1]; rfl, Ow.put h.2 (Nat.lt_succ_self b) _ _⟩
theorem Bd.set1 {w : World} {b n c n' c' : Nat} {p : Value} {A A' : Option Addr} {zs' : List Int} (h : w.heap[b]? = some (.cells #[p, .slice A n c] 46 (0, 0))) (ho : Ow w (b + 1) 5 .u8 A' n' c' zs') : Bd (w.setCell ⟨b, 1, none⟩ (.slice A' n' c')) b p A' n' c' zs' :=
  ⟨by rw [heap_setCell_same w b 1 _ _ _ h]; rfl, Ow.put ho (Nat.lt_succ_self b) _ _⟩
theorem Bd.bl {w w' : World} {b n c : Nat} {p : Value} {A : Option Addr} {zs : List Int} (h : Bd w b p A n c zs) (hb : Bl w w') : Bd w' b p A n c zs := ⟨(hb.block b h.lt).trans h.1, h.2.below hb⟩
set_option maxHeartbeats 1000000 in
theorem copy_any (b n c : Nat) (p : Value) (A : Option Addr) (zs : List Int) (w : World) (hp : p = .pointer none ∨ p = .pointer (some ⟨b, 0, none⟩)) (h : Bd w b p A n c zs) :
    Calls Tryd.prog 44 #[.pointer (some ⟨b, 0, none⟩)] w fun e w' => e = .returned (.tuple #[]) ∧ Bd w' b (.pointer (some ⟨b, 0, none⟩)) A n c zs ∧ Below b w w' := by
  have hc0 : w.cell? ⟨b, 0, none⟩ = some p := by rw [cell_of_row _ _ _ _ _ _ h.1]; rfl
  have hf0 : w.frozen? ⟨b, 0, none⟩ = false := by simp [World.frozen?, h.1]
  have hsh := h.shape
  obtain ⟨j, hj, hj0⟩ := infoBd
  have H := hid h
  clear h
  rcases hp with rfl | rfl
  · have k1 := run_to_unsafe (P := Tryd.prog) w (src := 43) (dst := 75) ⟨b, 0, none⟩ Tryd.underlying43 Tryd.underlying75 hj hj0 hsh (Nat.zero_lt_succ 1)
    have k2 := run_from_unsafe (P := Tryd.prog) w (src := 75) (dst := 43) ⟨b, 0, none⟩ Tryd.underlying75 Tryd.underlying43 hj hsh liesBd
    go_enter Tryd.func44, Tryd.ntmps44
    go_wp2
    rw [run_callFunc_extern Tryd.func55 (by kernel_rfl) (by kernel_rfl) (by kernel_rfl) (e := Extern.AbiNoEscape.same) (by kernel_rfl)]
    rw [run_noEscape]
    simp only [Result.andThen]
    rw [Oper.upon_value]
    go_wp2
    go_end0
    exact ⟨rfl, H.out.set0, (Below.refl b w).setCell (p := ⟨b, 0, none⟩) (Nat.le_refl _) _⟩
  · have k3 := run_neq_ptr_same (P := Tryd.prog) w (tp := 43) ⟨b, 0, none⟩ Tryd.underlying43 hj
    go_enter Tryd.func44, Tryd.ntmps44
    go_wp2
    go_end0
    exact ⟨rfl, H.out, Below.refl b w⟩
set_option maxHeartbeats 1000000 in
theorem write_any (b n c : Nat) (p : Value) (A : Option Addr) (zs : List Int) (r : Int) (w : World) (hp : p = .pointer none ∨ p = .pointer (some ⟨b, 0, none⟩)) (h : Bd w b p A n c zs) (hr : 0 ≤ scr r) (hm : n ≤ 70368744177664) :
    Calls Tryd.prog 30 #[.pointer (some ⟨b, 0, none⟩), .int .i32 r] w fun e w' => ∃ v A' n' c', e = .returned v ∧ n' ≤ n + 3 ∧ Bd w' b (.pointer (some ⟨b, 0, none⟩)) A' n' c' (zs ++ un r) ∧ Below b w w' := by
  have c0 := hid (copy_any b n c p A zs w hp h)
  have hsc := scr_range hr
  have ca := hid (fun w1 (h1 : Bd w1 b (.pointer (some ⟨b, 0, none⟩)) A n c zs) => app_any A n c (b + 1) zs r w1 hr h1.2 hm h1.lt)
  obtain ⟨s1, s2, _⟩ := hsc
  clear hp h hr
  generalize un r = U at *
  go_enter Tryd.func30, Tryd.ntmps30
  go_wp2_with fail
  refine c0.out.mono ?_
  rintro e w1 ⟨rfl, h1, b1⟩
  have hc1 : w1.cell? ⟨b, 1, none⟩ = some (.slice A n c) := by rw [cell_of_row _ _ _ _ _ _ h1.1]; rfl
  have ca1 := hid (ca.out w1 h1)
  have H1 := hid h1
  clear h1 ca c0
  go_wp2_with fail
  refine ca1.out.mono ?_
  rintro e w2 ⟨A2, n2, c2, rfl, hn2, ho2, b2⟩
  have hh2 := (b2.block b (Nat.lt_succ_self b)).trans H1.out.1
  have hc2 : w2.cell? ⟨b, 1, none⟩ = some (.slice A n c) := by rw [cell_of_row _ _ _ _ _ _ hh2]; rfl
  have hf2 : w2.frozen? ⟨b, 1, none⟩ = false := by simp [World.frozen?, hh2]
  have HH2 := hid hh2
  clear hh2 hc1
  go_wp2_with fail
  go_ret2
  exact ⟨_, A2, n2, c2, rfl, hn2, Bd.set1 HH2.out ho2, (b1.trans (b2.mono (Nat.le_succ b))).setCell (p := ⟨b, 1, none⟩) (Nat.le_refl _) _⟩

theorem byteCells_of {zs : List Int} (h : ∀ x ∈ zs, 0 ≤ x ∧ x ≤ 255) : Lib.byteCells (zs.map fun n => UInt8.ofNat n.toNat) = iv .u8 zs := by
  unfold Lib.byteCells iv
  rw [List.map_map]
  apply List.map_congr_left
  intro x hx
  have := h x hx
  simp only [Function.comp]
  rw [show (UInt8.ofNat x.toNat).toNat = x.toNat by rw [UInt8.toNat_ofNat']; exact Nat.mod_eq_of_lt (by omega), Int.toNat_of_nonneg (by omega)]
theorem Bd.is {w : World} {b n c : Nat} {p : Value} {A : Option Addr} {zs : List Int} (h : Bd w b p A n c zs) (hp : p = .pointer none ∨ p = .pointer (some ⟨b, 0, none⟩)) (hz : ∀ x ∈ zs, 0 ≤ x ∧ x ≤ 255) :
    Lib.IsBuilder 46 5 b b (Lib.byteCells (zs.map fun n => UInt8.ofNat n.toNat)) w := by
  rw [byteCells_of hz]
  have hl := h.2.len
  have key : b ≤ b ∧ ∃ v, w.heap[b]? = some (.cells #[p, v] 46 (0, 0)) ∧ w.ownsRow b 5 1 v (iv .u8 zs).length (iv .u8 zs) ∧ v.ownBlock ≠ some b := by
    refine ⟨Nat.le_refl _, _, h.1, ?_, ?_⟩
    · rw [iv_len, hl]; exact h.2.less (Nat.le_succ b)
    · intro hk
      rcases h.2.2 with ⟨h0, _⟩ | ⟨g, cap, cur, hv, hg, _⟩
      · rw [h0] at hk; cases hk
      · rw [hv] at hk
        have : g = b := by simpa [Value.ownBlock] using hk
        omega
  rcases hp with rfl | rfl
  · exact .inl key
  · exact .inr key
theorem string_any (b n c : Nat) (p : Value) (A : Option Addr) (zs : List Int) (w : World) (hp : p = .pointer none ∨ p = .pointer (some ⟨b, 0, none⟩)) (h : Bd w b p A n c zs) (hz : ∀ x ∈ zs, 0 ≤ x ∧ x ≤ 255) :
    Calls Tryd.prog 31 #[.pointer (some ⟨b, 0, none⟩)] w fun e w' => e = .returned (.string (strOfNums zs)) ∧ Below b w w' :=
  Tryd.Builder_String_any b b _ w (h.is hp hz) (Nat.le_of_lt h.lt)

set_option maxHeartbeats 1000000 in
theorem Encode_any (A : Option Addr) (n c : Nat) (xs : List Int) (w : World) (hS : Sh w w.heap.size .i64 A n xs) (hO : ok64 xs) (hm : n ≤ 17592186044416) (hT : Tab w) :
    Calls Tryd.prog 16 #[.slice A n c] w fun e w' => e = .returned (.tuple #[.string (encS xs), .int .i64 (encE xs)]) ∧ Bl w w' := by
  have hl := hid hS.len
  have cS := hid (fun (r : Int) w' (hb : Bl w w') (h0 : -9223372036854775808 ≤ r) (h1 : r ≤ 9223372036854775807) => Script_any r w' h0 h1 (hT.bl hb))
  clear hT
  go_enter Tryd.func16, Tryd.ntmps16
  go_wp2_with fail
  obtain ⟨g, hg⟩ : ∃ g, g = w.heap.size := ⟨_, rfl⟩
  rw [← hg]
  have HG := hid hg
  clear hg
  go_loopw [9, 6] (fun i _ wr => ∃ (k m c' : Nat) (p : Value) (A' : Option Addr), i = .int .i64 k ∧ k ≤ n ∧ m ≤ 3 * k ∧ (p = .pointer none ∨ p = .pointer (some ⟨g, 0, none⟩)) ∧ Bd wr g p A' m c' (enc (xs.take k)) ∧ Hid (okl (xs.take k)) ∧ Bl w wr) (fun i _ _ => n - (intOf i).toNat)
  case atStart => exact ⟨0, 0, 0, .pointer none, none, rfl, by omega, by omega, .inl rfl, ⟨by rw [HG.out]; exact heap_alloc_new w _, Ow.none_ _ _ _ _⟩, hid okl_nil, (Bl.refl w).alloc _⟩
  case round =>
    obtain ⟨k, m, c', p, A', rfl, hk, hmk, hp, hB, ho, hb⟩ := hrel
    by_cases hlt : k < n
    · obtain ⟨b, o, rfl, _, hcell⟩ := (hS.bl hb).2 (by omega)
      have hc1 := hcell k hlt
      have hsn := hid (take_snoc (l := xs) (i := k) (by rw [hl.out]; omega))
      have hmem := hid (show xs.getD k 0 ∈ xs by
        have : xs.getD k 0 = xs[k]'(by rw [hl.out]; exact hlt) := by simp [List.getD, List.getElem?_eq_getElem (show k < xs.length by rw [hl.out]; exact hlt)]
        rw [this]; exact List.getElem_mem _)
      clear hcell
      generalize xs.getD k 0 = x at *
      have cS1 := hid (cS.out x wr hb (hO x hmem.out).1 (hO x hmem.out).2)
      have HB := hid hB
      have HP := hid hp
      clear hB hp
      by_cases hx : scr x < 0
      · have hno : ¬ okl xs := fun h => by have := h x hmem.out; omega
        have f1 := hid (show encS xs = ⟨#[]⟩ by unfold encS; rw [if_neg hno])
        have f2 := hid (show encE xs = 4 by unfold encE; rw [if_neg hno])
        generalize scr x = S at *
        go_wp2_with fail
        refine cS1.out.mono ?_
        rintro e w5 ⟨rfl, hb5⟩
        go_wp2_with fail
        go_ret2
        rw [f1.out, f2.out]
        exact ⟨rfl, hb.trans hb5⟩
      · have hx0 : 0 ≤ scr x := by omega
        have hsr := scr_range hx0
        obtain ⟨s1, s2, _⟩ := hsr
        have hw32 : wrap32 x = x := by unfold wrap32; omega
        have cW := hid (fun w5 (hb5 : Bl wr w5) => write_any g m c' p A' (enc (xs.take k)) x w5 HP.out (HB.out.bl hb5) hx0 (by omega))
        have E1 := hid (show enc (xs.take (k + 1)) = enc (xs.take k) ++ un x by rw [hsn.out, enc_snoc])
        have K1 := hid (show okl (xs.take (k + 1)) by rw [hsn.out]; exact okl_snoc.2 ⟨ho.out, hx0⟩)
        have hS0 : decide (scr x < 0) = false := decide_eq_false hx
        clear hx0 hx
        generalize un x = U at *
        generalize scr x = S at *
        go_wp2_with fail
        refine cS1.out.mono ?_
        rintro e w5 ⟨rfl, hb5⟩
        have hb6 := hid (hb.trans hb5)
        have cW5 := hid (cW.out w5 hb5)
        clear hb5 cW cS1
        go_wp2_with fail
        refine cW5.out.mono ?_
        rintro e w6 ⟨v6, A6, n6, c6, rfl, hn6, hB6, hbb6⟩
        go_wp2_with fail
        go_roundw
        case rel => exact ⟨k + 1, n6, c6, _, A6, by go_num, by omega, by omega, .inr rfl, by rw [E1.out]; exact hB6, K1, Below.trans hb6.out (hbb6.mono (by rw [HG.out]; exact Nat.le_refl _))⟩
        case measure => simp [intOf]; omega
    · obtain rfl : k = n := by omega
      have hall : xs.take k = xs := take_all (by rw [hl.out]; exact Nat.le_refl _)
      rw [hall] at ho hB
      have f1 := hid (show encS xs = strOfNums (enc xs) by unfold encS; rw [if_pos ho.out])
      have f2 := hid (show encE xs = 0 by unfold encE; rw [if_pos ho.out])
      have cT := hid (string_any g m c' p A' (enc xs) wr hp hB (enc_byts ho.out))
      clear hall
      generalize strOfNums (enc xs) = SS at *
      have HB := hid hB
      clear hB
      go_wp2_with fail
      refine cT.out.mono ?_
      rintro e w6 ⟨rfl, hb6⟩
      go_wp2_with fail
      go_ret2
      rw [f1.out, f2.out]
      exact ⟨rfl, Below.trans hb (hb6.mono (by rw [HG.out]; exact Nat.le_refl _))⟩
end Go.Proofs.YtajcalmjdfhedaaDoor.Glyph
