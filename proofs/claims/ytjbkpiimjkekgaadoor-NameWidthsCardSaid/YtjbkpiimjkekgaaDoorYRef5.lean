/- Contracts of the reference of glyph: unit, value. -/
import Derived.Test.YtjbkpiimjkekgaaDoorYRef
import Derived.Deep.RegionHeld3
namespace Go.Proofs.YtjbkpiimjkekgaaDoor.Glyph
open Go.RowKit
open Go.Proofs.YtjbkpiimjkekgaaDoor.Wire
set_option linter.unusedVariables false

theorem strOf_app (a b : List Int) : strOfNums a ++ strOfNums b = strOfNums (a ++ b) := by
  apply ByteArray.ext
  simp [strOfNums]
def encS (xs : List Int) : ByteArray := if okl xs then strOfNums (enc xs) else ⟨#[]⟩
def encE (xs : List Int) : Int := if okl xs then 0 else 4
theorem enc_snoc (l : List Int) (r : Int) : enc (l ++ [r]) = enc l ++ un r := by rw [enc_app, enc_one]
theorem okl_snoc {l : List Int} {r : Int} : okl (l ++ [r]) ↔ okl l ∧ 0 ≤ scr r := by rw [okl_app, okl_cons]; simp [okl_nil]
theorem ret2 {a c : ByteArray} {b d : Int} (h : a = c) (g : b = d) : Ending.returned (.tuple #[.string a, .int .i64 b]) = .returned (.tuple #[.string c, .int .i64 d]) := by rw [h, g]

theorem conv_made (w : World) (xs : List Int) (n : Nat) (hn : xs.length = n) (cs : Array Value) (h : cs = (iv .u8 xs).toArray) :
    (convert 65 9 (.slice (some ⟨w.heap.size, 0, none⟩) n n)).run Tryd.prog (w.alloc (.cells cs 5)) = .ok (.string (strOfNums xs)) (w.alloc (.cells cs 5)) := by
  subst hn
  refine run_convert_bytes_arg (P := Tryd.prog) _ 65 5 Tryd.underlying65 Tryd.underlying5 w.heap.size 0 _ _ xs rfl (fun i hi => ?_) 9 Tryd.underlying9
  obtain ⟨b, o, e, _, hc⟩ := (Sh.made w .u8 5 xs cs h rfl).2 (by omega)
  injection e with e
  injection e with e1 e2
  subst e1 e2
  exact hc i hi
theorem un1 {r : Int} (h : r < 128) : un r = [r] := by unfold un; rw [if_pos h]
theorem un2 {r : Int} (h : ¬ r < 128) (g : r < 2048) : un r = [192 + r / 64, 128 + r % 64] := by unfold un; rw [if_neg h, if_pos g]
theorem un3 {r : Int} (h : ¬ r < 128) (g : ¬ r < 2048) : un r = [224 + r / 4096, 128 + r / 64 % 64, 128 + r % 64] := by unfold un; rw [if_neg h, if_neg g]

set_option maxHeartbeats 1000000 in
theorem unit_any (r : Int) (w : World) (h0 : 0 ≤ r) (h : r ≤ 65535) :
    Calls Tryd.prog 47 #[.int .i64 r] w fun e w' => e = .returned (.string (strOfNums (un r))) ∧ Bl w w' := by
  by_cases h1 : r < 128
  · have e := hid (un1 h1)
    generalize un r = U at *
    have hcv := conv_made w [r] 1 rfl #[.int .u8 r] rfl
    go_enter Tryd.func47, Tryd.ntmps47
    go_wp2_with fail
    go_ret
    exact ⟨retS (by rw [e.out]), (Bl.refl w).alloc _⟩
  by_cases h2 : r < 2048
  · have e := hid (un2 h1 h2)
    generalize un r = U at *
    have hcv := conv_made w [192 + r / 64, 128 + r % 64] 2 rfl #[.int .u8 (192 + r / 64), .int .u8 (128 + r % 64)] rfl
    go_enter Tryd.func47, Tryd.ntmps47
    go_wp2_with fail
    go_ret
    exact ⟨retS (by rw [e.out]), (Bl.refl w).alloc _⟩
  · have e := hid (un3 h1 h2)
    generalize un r = U at *
    have hcv := conv_made w [224 + r / 4096, 128 + r / 64 % 64, 128 + r % 64] 3 rfl #[.int .u8 (224 + r / 4096), .int .u8 (128 + r / 64 % 64), .int .u8 (128 + r % 64)] rfl
    go_enter Tryd.func47, Tryd.ntmps47
    go_wp2_with fail
    go_ret
    exact ⟨retS (by rw [e.out]), (Bl.refl w).alloc _⟩

theorem sb_get {s : ByteArray} {i : Nat} (h : i < s.size) : (sb s).getD i 0 = ((s[i]'h).toNat : Int) := by
  have hl : i < (sb s).length := by rw [sb_len]; exact h
  simp only [List.getD, List.getElem?_eq_getElem hl, Option.getD_some]
  simp [sb]
  rfl
theorem val1 {l : List Int} (h : l.length = 1) : val l = l.getD 0 0 := by
  match l, h with
  | [a], _ => rfl
theorem val2 {l : List Int} (h : l.length = 2) : val l = l.getD 0 0 % 32 * 64 + l.getD 1 0 % 64 := by
  match l, h with
  | [a, b], _ => rfl
theorem val3 {l : List Int} (h : l.length = 3) : val l = l.getD 0 0 % 16 * 4096 + l.getD 1 0 % 64 * 64 + l.getD 2 0 % 64 := by
  match l, h with
  | [a, b, c], _ => rfl
set_option maxHeartbeats 1000000 in
theorem value_any (s : ByteArray) (w : World) (h0 : 1 ≤ s.size) (h : s.size ≤ 3) :
    Calls Tryd.prog 45 #[.string s] w fun e w' => e = .returned (.int .i64 (val (sb s))) ∧ Q w w' := by
  have hb : Hid (∀ (i : Nat) (g : i < s.size), ((s[i]'g).toNat : Int) < 256) := hid (fun i g => by have := (s[i]'g).toNat_lt; omega)
  by_cases h1 : s.size = 1
  · have e := hid (val1 (l := sb s) (by rw [sb_len]; exact h1))
    generalize hv : val (sb s) = V at *
    rw [sb_get (by omega)] at e
    have b0 := hb.out 0 (by omega)
    clear hv
    go_enter Tryd.func45, Tryd.ntmps45
    go_wp2_with fail
    go_ret
    exact ⟨ret1 (by rw [e.out]), Q.refl _⟩
  by_cases h2 : s.size = 2
  · have e := hid (val2 (l := sb s) (by rw [sb_len]; exact h2))
    generalize hv : val (sb s) = V at *
    rw [sb_get (by omega), sb_get (by omega)] at e
    have b0 := hb.out 0 (by omega)
    have b1 := hb.out 1 (by omega)
    have g0 : 0 < s.size := by omega
    have g1 : 1 < s.size := by omega
    clear hv
    go_enter Tryd.func45, Tryd.ntmps45
    go_wp2_with fail
    go_quiet (fail)
    go_wp2_with fail
    go_ret
    exact ⟨ret1 (by rw [e.out]), (Q.refl w).drewN _⟩
  · have h3 : s.size = 3 := by omega
    have e := hid (val3 (l := sb s) (by rw [sb_len]; exact h3))
    generalize hv : val (sb s) = V at *
    rw [sb_get (by omega), sb_get (by omega), sb_get (by omega)] at e
    have b0 := hb.out 0 (by omega)
    have b1 := hb.out 1 (by omega)
    have b2 := hb.out 2 (by omega)
    have g0 : 0 < s.size := by omega
    have g1 : 1 < s.size := by omega
    have g2 : 2 < s.size := by omega
    clear hv
    go_enter Tryd.func45, Tryd.ntmps45
    go_wp2_with fail
    go_quiet (fail)
    go_wp2_with fail
    go_ret
    exact ⟨ret1 (by rw [e.out]), (Q.refl w).drewN _⟩
end Go.Proofs.YtjbkpiimjkekgaaDoor.Glyph
