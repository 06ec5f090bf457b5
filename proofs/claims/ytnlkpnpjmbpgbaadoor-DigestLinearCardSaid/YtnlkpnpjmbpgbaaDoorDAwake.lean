/- awake of the statements about digest: it returns true. -/
import Derived.Test.YtnlkpnpjmbpgbaaDoorDROpen
import Derived.Test.YtnlkpnpjmbpgbaaDoorDHex
import Derived.Lib.SlBytesConst
import Derived.Lib.SmallJoins
namespace Go.Proofs.YtnlkpnpjmbpgbaaDoor.Digest
open Go.RowKit
open Go.Proofs.YtnlkpnpjmbpgbaaDoor.Wire
set_option linter.unusedVariables false

theorem seal_at (l z : List Int) (hb : (l.all fun x => decide (0 ≤ x ∧ x ≤ 255)) = true) (hl : l.length ≤ 1000) (h : isld l = z) (A : Option Addr) (w : World) (hS : Sh w w.heap.size .u8 A l.length l) (hT : Tab w) :
    Calls Tryd.prog 20 #[.slice A l.length l.length] w (OutN w .u8 z.length z) := by
  subst h
  exact (Seal_any A l.length l.length l w hS (byts_of hb) hT (by omega)).mono fun _ _ g => g.at rfl
theorem open_at (l : List Int) (E : Int) (hb : (l.all fun x => decide (0 ≤ x ∧ x ≤ 255)) = true) (hl : l.length ≤ 1000) (h : oe l = E) (h' : oc l = []) (A : Option Addr) (w : World) (hS : Sh w w.heap.size .u8 A l.length l) (hT : Tab w) :
    Calls Tryd.prog 21 #[.slice A l.length l.length] w (OpenOut w [] E) := by
  subst h
  have := Open_any A l.length l.length l w hS (byts_of hb) hT (Nat.le_refl _) (by omega)
  rwa [h'] at this
theorem crc_at (l : List Int) (C : Int) (hb : (l.all fun x => decide (0 ≤ x ∧ x ≤ 255)) = true) (hl : l.length ≤ 1000) (h : icrc l = C) (A : Option Addr) (w : World) (hS : Sh w w.heap.size .u8 A l.length l) (hT : Tab w) :
    Calls Tryd.prog 10 #[.slice A l.length l.length] w fun e w' => e = .returned (.int .i64 C) ∧ w = w' := by
  subst h
  exact Crc_any A l.length l.length l w _ hS (byts_of hb) hT (by omega)
theorem fnv_at (l : List Int) (C : Int) (hb : (l.all fun x => decide (0 ≤ x ∧ x ≤ 255)) = true) (hl : l.length ≤ 1000) (h : ifnv fnv0 l = C) (A : Option Addr) (w : World) (hS : Sh w w.heap.size .u8 A l.length l) :
    Calls Tryd.prog 12 #[.slice A l.length l.length] w fun e w' => e = .returned (.int .u64 C) ∧ w = w' := by
  subst h
  exact Fnv_any A l.length l.length l w _ hS (byts_of hb) (by omega)
theorem hex_at (d : Int) (s : ByteArray) (h0 : 0 ≤ d) (h1 : d ≤ 18446744073709551615) (h : strOfNums (ihex d) = s) (w : World) :
    Calls Tryd.prog 18 #[.int .u64 d] w fun e w' => e = .returned (.string s) ∧ Bl w w' := by
  subst h
  exact Hex_any d w h0 h1

set_option maxRecDepth 100000 in
set_option maxHeartbeats 2000000 in
theorem awake_any (w : World) (hT : Tab w) : Calls Tryd.prog 14 #[] w fun e w' => e = .returned (.bool true) ∧ Bl w w' := by
  have k1 := hid (seal_at [49, 50, 51, 52, 53, 54, 55, 56, 57] [49, 50, 51, 52, 53, 54, 55, 56, 57, 203, 244, 57, 38] (by decide) (by decide) (by decide +kernel))
  have k2 := hid (open_at [0, 0, 0, 0, 0] 6 (by decide) (by decide) (by decide +kernel) (by decide +kernel))
  have k3 := hid (open_at [0, 0, 0] 5 (by decide) (by decide) (by decide +kernel) (by decide +kernel))
  have k4 := hid (crc_at [49, 50, 51, 52, 53, 54, 55, 56, 57] 3421780262 (by decide) (by decide) (by decide +kernel))
  have k5 := hid (fnv_at [97] 12638187200555641996 (by decide) (by decide) (by decide +kernel))
  have k6 := hid (hex_at 255 ⟨#[48, 48, 48, 48, 48, 48, 48, 48, 48, 48, 48, 48, 48, 48, 102, 102]⟩ (by decide) (by decide) (by decide +kernel))
  simp only [List.length_cons, List.length_nil, Nat.zero_add, Nat.reduceAdd] at k1 k2 k3 k4 k5
  have hT := hid hT
  have kc := fun (w : World) (C : Array Value) (n c : Nat) => Lib.run_convert_bytes_const (P := Tryd.prog) w 22 5 C n c Tryd.underlying22 Tryd.underlying5
  go_enter Tryd.func14, Tryd.ntmps14
  go_wp2_with fail
  refine (k1.out _ _ ?_ (hT.out.al _)).mono ?_
  · exact Sh.madeF _ _ _ _ _ _ rfl (by simp)
  rintro e w1 ⟨A1, c1, rfl, hs1, hc1, hb1⟩
  have B1 : Bl w w1 := ((Bl.refl w).alloc _).trans hb1
  clear hb1
  go_wp2_with fail
  refine (k2.out _ _ ?_ ((hT.out.bl B1).al _)).mono ?_
  · exact Sh.made _ _ _ _ _ rfl (by simp)
  rintro e w2 ⟨A2, c2, rfl, hs2, hc2, hb2⟩
  have B2 := (B1.alloc _).trans hb2
  have S2 := (hs1.al _).bl hb2
  clear hb2 hs2 hc2 B1 hs1
  go_wp2_with fail
  refine (k3.out _ _ ?_ ((hT.out.bl B2).al _)).mono ?_
  · exact Sh.made _ _ _ _ _ rfl (by simp)
  rintro e w3 ⟨A3, c3, rfl, hs3, hc3, hb3⟩
  have B3 := (B2.alloc _).trans hb3
  have S3 := (S2.al _).bl hb3
  clear hb3 hs3 hc3 B2 S2
  go_wp2_with fail
  refine (k4.out _ _ ?_ ((hT.out.bl B3).al _)).mono ?_
  · exact Sh.madeF _ _ _ _ _ _ rfl (by simp)
  rintro e w' ⟨rfl, rfl⟩
  have kd := fun (C D : Array Value) (n c : Nat) (fr : Nat × Nat) => Joins.run_convert_bytes_const_at (P := Tryd.prog) (w3.alloc (.cells D 5 fr)) 22 5 C n c (w3.heap.size + 1) (by simp) Tryd.underlying22 Tryd.underlying5
  go_wp2_with fail
  refine (k5.out _ _ ?_).mono ?_
  · exact Sh.madeF _ _ _ _ _ _ rfl (by simp)
  rintro e w' ⟨rfl, rfl⟩
  go_wp2_with fail
  refine (k6.out _).mono ?_
  rintro e w6 ⟨rfl, hb6⟩
  have B6 := ((B3.alloc _).alloc _).trans hb6
  have S6 := ((S3.al _).al _).bl hb6
  obtain ⟨b, o, rfl, _, hcell⟩ := S6.2 (by decide)
  have q9 : w6.cell? ⟨b, o + 9, none⟩ = some (.int .u8 203) := hcell 9 (by decide)
  have q12 : w6.cell? ⟨b, o + 12, none⟩ = some (.int .u8 38) := hcell 12 (by decide)
  clear hcell S6 S3 B3 hb6
  go_wp2_with fail
  go_ret
  exact ⟨rfl, B6⟩
end Go.Proofs.YtnlkpnpjmbpgbaaDoor.Digest
