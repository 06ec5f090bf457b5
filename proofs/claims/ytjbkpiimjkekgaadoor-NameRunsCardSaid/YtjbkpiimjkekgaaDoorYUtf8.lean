/- The runes that a range over a string meets, and the code points of names; a step of the range. No function of the program. -/
import Derived.Test.YtjbkpiimjkekgaaDoorGKit
import Derived.Test.YtjbkpiimjkekgaaDoorYPlain
import Derived.Laws.RangeAny
namespace Go.Proofs.YtjbkpiimjkekgaaDoor.Glyph
open Go.RowKit
open Go.Proofs.YtjbkpiimjkekgaaDoor.Wire
set_option linter.unusedVariables false

theorem get_sb (s : ByteArray) (j : Nat) : (sb s).getD j 0 = ((s.get! j).toNat : Int) := by
  unfold sb
  by_cases h : j < s.size
  · have hl : j < s.data.toList.length := by simpa using h
    have e : s.get! j = s.data.toList[j] := by
      show s.data[j]! = _
      rw [getElem!_pos s.data j (by simpa using h)]
      simp
    rw [e]
    simp [List.getD, List.getElem?_map, List.getElem?_eq_getElem hl]
  · have e : s.get! j = default := by
      show s.data[j]! = _
      rw [getElem!_neg s.data j (by simpa using h)]
    rw [e]
    have : (s.data.toList.map fun b => (b.toNat : Int))[j]? = none := List.getElem?_eq_none (by simpa using h)
    simp only [List.getD, this]
    rfl
theorem dropD (l : List Int) (i k : Nat) : (l.drop i).getD k 0 = l.getD (i + k) 0 := by simp [List.getD]
theorem get_lt (s : ByteArray) (j : Nat) : (s.get! j).toNat < 256 := (s.get! j).toNat_lt

/-- decode, of the four bytes that it may look at -/
def decN (c1 c2 c3 : Bool) (b0 b1 b2 b3 : Nat) : Nat × Nat :=
  if b0 < 128 then (b0, 1)
  else if (b0 / 32 == 6 && c1) = true then if 128 ≤ b0 % 32 * 64 + b1 % 64 then (b0 % 32 * 64 + b1 % 64, 2) else (65533, 1)
  else if (b0 / 16 == 14 && c1 && c2) = true then if (decide (2048 ≤ b0 % 16 * 4096 + b1 % 64 * 64 + b2 % 64) && Utf8.valid ((b0 % 16 * 4096 + b1 % 64 * 64 + b2 % 64 : Nat) : Int)) = true then (b0 % 16 * 4096 + b1 % 64 * 64 + b2 % 64, 3) else (65533, 1)
  else if (b0 / 8 == 30 && c1 && c2 && c3) = true then if (decide (65536 ≤ b0 % 8 * 262144 + b1 % 64 * 4096 + b2 % 64 * 64 + b3 % 64) && Utf8.valid ((b0 % 8 * 262144 + b1 % 64 * 4096 + b2 % 64 * 64 + b3 % 64 : Nat) : Int)) = true then (b0 % 8 * 262144 + b1 % 64 * 4096 + b2 % 64 * 64 + b3 % 64, 4) else (65533, 1)
  else (65533, 1)
theorem decode_N (s : ByteArray) (i : Nat) : Utf8.decode s i = decN (decide (i + 1 < s.size) && (s.get! (i + 1)).toNat / 64 == 2) (decide (i + 2 < s.size) && (s.get! (i + 2)).toNat / 64 == 2) (decide (i + 3 < s.size) && (s.get! (i + 3)).toNat / 64 == 2)
    (s.get! (i + 0)).toNat (s.get! (i + 1)).toNat (s.get! (i + 2)).toNat (s.get! (i + 3)).toNat := rfl
theorem dec1 {s : ByteArray} {i b0 : Nat} (h0 : (s.get! (i + 0)).toNat = b0) (h : b0 < 128) : Utf8.decode s i = (b0, 1) := by
  simp only [Utf8.decode, h0, if_pos h]
theorem dec2 {s : ByteArray} {i b0 b1 : Nat} (h0 : (s.get! (i + 0)).toNat = b0) (h1 : (s.get! (i + 1)).toNat = b1) (hs : i + 1 < s.size) (g : 194 ≤ b0) (g' : b0 ≤ 223) (k : 128 ≤ b1) (k' : b1 ≤ 191) :
    Utf8.decode s i = (b0 % 32 * 64 + b1 % 64, 2) := by
  have a1 : ¬ b0 < 128 := by omega
  have a2 : b0 / 32 = 6 := by omega
  have a3 : b1 / 64 = 2 := by omega
  have a4 : 128 ≤ b0 % 32 * 64 + b1 % 64 := by omega
  simp only [Utf8.decode, h0, h1, if_neg a1, a2, a3]
  simp [hs, a4]
theorem dec3 {s : ByteArray} {i b0 b1 b2 : Nat} (h0 : (s.get! (i + 0)).toNat = b0) (h1 : (s.get! (i + 1)).toNat = b1) (h2 : (s.get! (i + 2)).toNat = b2) (hs : i + 2 < s.size) (g : 224 ≤ b0) (g' : b0 ≤ 239) (k : 128 ≤ b1) (k' : b1 ≤ 191) (m : 128 ≤ b2) (m' : b2 ≤ 191)
    (c : 2048 ≤ b0 % 16 * 4096 + b1 % 64 * 64 + b2 % 64) (c' : b0 % 16 * 4096 + b1 % 64 * 64 + b2 % 64 < 55296) :
    Utf8.decode s i = (b0 % 16 * 4096 + b1 % 64 * 64 + b2 % 64, 3) := by
  have a1 : ¬ b0 < 128 := by omega
  have a2 : ¬ b0 / 32 = 6 := by omega
  have a5 : b0 / 16 = 14 := by omega
  have a3 : b1 / 64 = 2 := by omega
  have a4 : b2 / 64 = 2 := by omega
  have hs1 : i + 1 < s.size := by omega
  have hv : Utf8.valid ((b0 : Int) % 16 * 4096 + (b1 : Int) % 64 * 64 + (b2 : Int) % 64) = true := by
    unfold Utf8.valid
    simp only [Bool.or_eq_true, Bool.and_eq_true, decide_eq_true_eq]
    left; omega
  simp only [Utf8.decode, h0, h1, h2, if_neg a1, a3, a4, a5]
  simp [hs, hs1, a2, c, hv]
  
theorem un_1 {r : Int} (h : r < 128) : un r = [r] := by unfold un; rw [if_pos h]
theorem un_2 {r : Int} (h : ¬ r < 128) (g : r < 2048) : un r = [192 + r / 64, 128 + r % 64] := by unfold un; rw [if_neg h, if_pos g]
theorem un_3 {r : Int} (h : ¬ r < 128) (g : ¬ r < 2048) : un r = [224 + r / 4096, 128 + r / 64 % 64, 128 + r % 64] := by unfold un; rw [if_neg h, if_neg g]

/-- where a code point of a name begins, the range meets it -/
theorem decode_fit {s : ByteArray} {i : Nat} {r : Int} {u : List Int} (h0 : 0 ≤ scr r) (h : (sb s).drop i = un r ++ u) : Utf8.decode s i = (r.toNat, (un r).length) := by
  obtain ⟨r1, r2, r3⟩ := scr_range h0
  have hl := congrArg List.length h
  rw [List.length_drop, sb_len, List.length_append] at hl
  have g0 := get_sb s (i + 0)
  have g1 := get_sb s (i + 1)
  have g2 := get_sb s (i + 2)
  rw [← dropD, h] at g0 g1 g2
  by_cases c1 : r < 128
  · rw [un_1 c1] at g0 ⊢
    have e : r = ((s.get! (i + 0)).toNat : Int) := g0
    rw [dec1 (b0 := r.toNat) (by omega) (by omega)]; rfl
  · by_cases c2 : r < 2048
    · rw [un_2 c1 c2] at g0 g1 hl ⊢
      have e0 : 192 + r / 64 = ((s.get! (i + 0)).toNat : Int) := g0
      have e1 : 128 + r % 64 = ((s.get! (i + 1)).toNat : Int) := g1
      simp only [List.length_cons, List.length_nil] at hl
      rw [dec2 rfl rfl (by omega) (by omega) (by omega) (by omega) (by omega)]
      refine Prod.ext ?_ rfl
      show _ = r.toNat
      omega
    · rw [un_3 c1 c2] at g0 g1 g2 hl ⊢
      have e0 : 224 + r / 4096 = ((s.get! (i + 0)).toNat : Int) := g0
      have e1 : 128 + r / 64 % 64 = ((s.get! (i + 1)).toNat : Int) := g1
      have e2 : 128 + r % 64 = ((s.get! (i + 2)).toNat : Int) := g2
      simp only [List.length_cons, List.length_nil] at hl
      rw [dec3 rfl rfl rfl (by omega) (by omega) (by omega) (by omega) (by omega) (by omega) (by omega) (by omega) (by omega)]
      refine Prod.ext ?_ rfl
      show _ = r.toNat
      omega
set_option maxRecDepth 100000 in
/-- and what it meets, if it is a code point of a name, begins there -/
theorem decode_inv {s : ByteArray} {i : Nat} (hi : i < s.size) (h : 0 ≤ scr ((Utf8.decode s i).1 : Int)) :
    (sb s).drop i = un ((Utf8.decode s i).1 : Int) ++ (sb s).drop (i + (Utf8.decode s i).2) ∧ (Utf8.decode s i).2 = (un ((Utf8.decode s i).1 : Int)).length := by
  obtain ⟨r1, r2, r3⟩ := scr_range h
  have g0 := get_sb s (i + 0)
  have g1 := get_sb s (i + 1)
  have g2 := get_sb s (i + 2)
  have l0 := get_lt s (i + 0)
  have l1 := get_lt s (i + 1)
  have l2 := get_lt s (i + 2)
  have dr : ∀ j, j < s.size → (sb s).drop j = (sb s).getD j 0 :: (sb s).drop (j + 1) := fun j hj => by
    rw [List.drop_eq_getElem_cons (by rw [sb_len]; exact hj)]
    simp [List.getD, List.getElem?_eq_getElem (show j < (sb s).length by rw [sb_len]; exact hj)]
  have key : ∀ (c n : Nat), Utf8.decode s i = (c, n) → 32 ≤ c → c ≤ 40959 → (sb s).drop i = un (c : Int) ++ (sb s).drop (i + n) ∧ n = (un (c : Int)).length := by
    intro c n hd q1 q2
    clear h r1 r2 r3
    rw [decode_N] at hd
    generalize (s.get! (i + 0)).toNat = b0 at hd g0 l0
    generalize (s.get! (i + 1)).toNat = b1 at hd g1 l1
    generalize (s.get! (i + 2)).toNat = b2 at hd g2 l2
    generalize (s.get! (i + 3)).toNat = b3 at hd
    rw [Nat.add_zero] at g0
    unfold decN at hd
    split at hd
    · rename_i hb
      injection hd with e1 e2
      subst e1 e2
      rw [un_1 (by omega), dr i hi, g0]
      exact ⟨rfl, rfl⟩
    · split at hd
      · rename_i hb hc
        simp only [Bool.and_eq_true, decide_eq_true_eq, beq_iff_eq] at hc
        split at hd
        · injection hd with e1 e2
          subst e1 e2
          rw [un_2 (by omega) (by omega), dr i hi, dr (i + 1) hc.2.1, g0, g1]
          refine ⟨?_, rfl⟩
          rw [show (192 + ((b0 % 32 * 64 + b1 % 64 : Nat) : Int) / 64) = (b0 : Int) by omega, show (128 + ((b0 % 32 * 64 + b1 % 64 : Nat) : Int) % 64) = (b1 : Int) by omega]
          rfl
        · obtain ⟨e1, e2⟩ := Prod.mk.inj hd; omega
      · split at hd
        · rename_i hb hc0 hc
          simp only [Bool.and_eq_true, decide_eq_true_eq, beq_iff_eq] at hc
          split at hd
          · rename_i hv
            simp only [Bool.and_eq_true, decide_eq_true_eq] at hv
            injection hd with e1 e2
            subst e1 e2
            rw [un_3 (by omega) (by omega), dr i hi, dr (i + 1) hc.1.2.1, dr (i + 2) hc.2.1, g0, g1, g2]
            refine ⟨?_, rfl⟩
            rw [show (224 + ((b0 % 16 * 4096 + b1 % 64 * 64 + b2 % 64 : Nat) : Int) / 4096) = (b0 : Int) by omega, show (128 + ((b0 % 16 * 4096 + b1 % 64 * 64 + b2 % 64 : Nat) : Int) / 64 % 64) = (b1 : Int) by omega,
              show (128 + ((b0 % 16 * 4096 + b1 % 64 * 64 + b2 % 64 : Nat) : Int) % 64) = (b2 : Int) by omega]
            rfl
          · obtain ⟨e1, e2⟩ := Prod.mk.inj hd; omega
        · split at hd
          · split at hd
            · rename_i hv
              simp only [Bool.and_eq_true, decide_eq_true_eq] at hv
              obtain ⟨e1, e2⟩ := Prod.mk.inj hd; omega
            · obtain ⟨e1, e2⟩ := Prod.mk.inj hd; omega
          · obtain ⟨e1, e2⟩ := Prod.mk.inj hd; omega
  exact key _ _ rfl (by omega) (by omega)
theorem decode_pos (s : ByteArray) (i : Nat) : 1 ≤ (Utf8.decode s i).2 ∧ (Utf8.decode s i).2 ≤ 4 := by
  simp only [Utf8.decode]
  repeat' split
  all_goals simp

/-! a step of a range whose iterator lies anywhere -/
def World.turn (w : World) (g : Nat) (s : ByteArray) (p : Nat) : World := { w with heap := w.heap.setIfInBounds g (.stringIter s p) }
section
variable {P : Program}
theorem run_next_at (w : World) (g : Nat) (s : ByteArray) (pos : Nat) (ty : TypeId) (hg : w.heap[g]? = some (.stringIter s pos)) (h : pos < s.size) :
    (Instr.next (.pointer (some ⟨g, 0, none⟩)) true ty).run P w = .ok (.tuple #[.bool true, .int .i64 pos, .int .i32 (Utf8.decode s pos).1]) (World.turn w g s (pos + (Utf8.decode s pos).2)) := by
  simp only [Instr.next, getObj, setObj, Sem.run_bind, Sem.run, hg, Result.andThen, h, if_true]
  simp [goInt, World.turn]
theorem run_next_done (w : World) (g : Nat) (s : ByteArray) (pos : Nat) (ty : TypeId) (hg : w.heap[g]? = some (.stringIter s pos)) (h : ¬ pos < s.size) :
    (Instr.next (.pointer (some ⟨g, 0, none⟩)) true ty).run P w = .ok (.tuple #[.bool false]) w := by
  simp [Instr.next, getObj, Sem.run, hg, h]
end
theorem turn_at {w : World} {g : Nat} {s : ByteArray} {p : Nat} (hg : g < w.heap.size) : (World.turn w g s p).heap[g]? = some (.stringIter s p) := by
  simp [World.turn, hg]
theorem turn_other {w : World} {g k : Nat} {s : ByteArray} {p : Nat} (h : k ≠ g) : (World.turn w g s p).heap[k]? = w.heap[k]? := by
  simp only [World.turn]
  rw [Array.getElem?_setIfInBounds]
  rw [if_neg (fun e => h e.symm)]
theorem turn_size (w : World) (g : Nat) (s : ByteArray) (p : Nat) : (World.turn w g s p).heap.size = w.heap.size := by simp [World.turn]
theorem turn_below {w : World} {g B : Nat} {s : ByteArray} {p : Nat} (h : B ≤ g) : Below B w (World.turn w g s p) :=
  ⟨rfl, rfl, rfl, by rw [turn_size]; exact Nat.le_refl _, fun k hk => turn_other (by omega)⟩
end Go.Proofs.YtjbkpiimjkekgaaDoor.Glyph
