/- The plain numbers of layer 3 (digest) as the program makes them: four shifts by a table of sixteen, integers. No program. -/
import Derived.Test.YtnlkpnpjmbpgbaaDoorDPlain
namespace Go.Proofs.YtnlkpnpjmbpgbaaDoor.Digest
set_option linter.unusedVariables false

def tab : List Int := [0, 498536548, 997073096, 651767980, 1994146192, 1802195444, 1303535960, 1342533948, 3988292384, 4027552580, 3604390888, 3412177804, 2607071920, 2262029012, 2685067896, 3183342108]
def cb4 (r : Nat) : Nat := cb (cb (cb (cb r)))
theorem cb4_lt {r : Nat} (h : r < 4294967296) : cb4 r < 4294967296 := cb_lt (cb_lt (cb_lt (cb_lt h)))
theorem cb8_eq (r : Nat) : cb8 r = cb4 (cb4 r) := rfl
theorem cb_even (r : Nat) : cb (2 * r) = r := by unfold cb; rw [if_neg (by omega)]; omega
theorem cb4_16 (r : Nat) : cb4 (16 * r) = r := by
  unfold cb4
  rw [show 16 * r = 2 * (2 * (2 * (2 * r))) by omega, cb_even, cb_even, cb_even, cb_even]
theorem cb4_xor (a b : Nat) : cb4 (a ^^^ b) = cb4 a ^^^ cb4 b := by unfold cb4; simp only [cb_xor]
theorem tab_is : ∀ k : Fin 16, (cb4 k.val : Int) = tab.getD k.val 0 := by decide +kernel
theorem split16 (r : Nat) : r = (16 * (r / 16)) ^^^ (r % 16) := by
  have h := Nat.two_pow_add_eq_or_of_lt (i := 4) (b := r % 16) (by omega) (r / 16)
  have hx : (16 * (r / 16)) ^^^ (r % 16) = 16 * (r / 16) ||| (r % 16) := by
    apply Nat.eq_of_testBit_eq
    intro i
    rw [Nat.testBit_xor, Nat.testBit_or]
    by_cases hi : i < 4
    · have : (16 * (r / 16)).testBit i = false := by
        rw [show (16 : Nat) = 2 ^ 4 by rfl, Nat.testBit_two_pow_mul]
        simp [Nat.not_le.2 hi]
      rw [this]; simp
    · have : (r % 16).testBit i = false := by
        apply Nat.testBit_lt_two_pow
        have : 2 ^ 4 ≤ 2 ^ i := Nat.pow_le_pow_right (by omega) (by omega)
        omega
      rw [this]; simp
  rw [hx]
  have h2 : (2 : Nat) ^ 4 = 16 := by decide
  rw [h2] at h
  rw [← h]; omega
theorem cb4_tab (r : Nat) : cb4 r = (r / 16) ^^^ cb4 (r % 16) := by
  conv => lhs; rw [split16 r]
  rw [cb4_xor, cb4_16]

/-- as integers -/
def icb4 (r : Int) : Int := (cb4 r.toNat : Nat)
theorem icb4_b {r : Int} (h0 : 0 ≤ r) (h : r ≤ 4294967295) : 0 ≤ icb4 r ∧ icb4 r ≤ 4294967295 := by
  have := cb4_lt (r := r.toNat) (by omega)
  unfold icb4; omega
def icb (r : Int) : Int := (cb r.toNat : Nat)
theorem icb_b {r : Int} (h0 : 0 ≤ r) (h : r ≤ 4294967295) : 0 ≤ icb r ∧ icb r ≤ 4294967295 := by
  have := cb_lt (r := r.toNat) (by omega)
  unfold icb; omega
def icbn : Nat → Int → Int
  | 0, r => r
  | k + 1, r => icb (icbn k r)
theorem icbn_b {r : Int} (h0 : 0 ≤ r) (h : r ≤ 4294967295) : ∀ k, 0 ≤ icbn k r ∧ icbn k r ≤ 4294967295
  | 0 => ⟨h0, h⟩
  | k + 1 => icb_b (icbn_b h0 h k).1 (icbn_b h0 h k).2
/-- the register behind bytes -/
def ireg (l : List Int) : Int := (reg 4294967295 l : Nat)
def ixor (a b : Int) : Int := (a.toNat ^^^ b.toNat : Nat)
theorem ixor_b {a b : Int} (h0 : 0 ≤ a) (h : a ≤ 4294967295) (g : b ≤ 4294967295) : 0 ≤ ixor a b ∧ ixor a b ≤ 4294967295 := by
  have := xor_lt (a := a.toNat) (b := b.toNat) (by omega) (by omega)
  unfold ixor; omega
theorem ireg_b {l : List Int} (hb : ∀ x ∈ l, 0 ≤ x ∧ x ≤ 255) : 0 ≤ ireg l ∧ ireg l ≤ 4294967295 := by
  have := reg_lt l 4294967295 (by omega) hb
  unfold ireg; omega
theorem ireg_nil : ireg [] = 4294967295 := rfl
theorem ireg_snoc (l : List Int) (x : Int) : ireg (l ++ [x]) = icb4 (icb4 (ixor (ireg l) x)) := by
  unfold ireg icb4 ixor
  rw [reg_snoc]
  unfold cby
  rw [cb8_eq]
  simp only [Int.toNat_natCast]
theorem ireg_snoc8 (l : List Int) (x : Int) : ireg (l ++ [x]) = icbn 8 (ixor (ireg l) x) := by
  unfold ireg ixor
  simp only [icbn, icb, Int.toNat_natCast]
  rw [reg_snoc]
  rfl
/-- the checksum -/
def icrc (l : List Int) : Int := 4294967295 - ireg l
theorem icrc_is {l : List Int} (hb : ∀ x ∈ l, 0 ≤ x ∧ x ≤ 255) : icrc l = (crc l : Nat) := by
  have := reg_lt l 4294967295 (by omega) hb
  unfold icrc ireg crc; omega
theorem icrc_b {l : List Int} (hb : ∀ x ∈ l, 0 ≤ x ∧ x ≤ 255) : 0 ≤ icrc l ∧ icrc l ≤ 4294967295 := by
  have := ireg_b hb
  unfold icrc; omega
/-- FNV-1a -/
def ifst (d c : Int) : Int := (fst d.toNat c.toNat : Nat)
theorem ifst_b (d c : Int) : 0 ≤ ifst d c ∧ ifst d c ≤ 18446744073709551615 := by
  have := fst_lt d.toNat c.toNat
  unfold ifst; omega
def ifnv : Int → List Int → Int
  | d, [] => d
  | d, x :: l => ifnv (ifst d x) l
theorem ifnv_nil (d : Int) : ifnv d [] = d := rfl
theorem ifnv_app : ∀ (l m : List Int) (d : Int), ifnv d (l ++ m) = ifnv (ifnv d l) m
  | [], _, _ => rfl
  | x :: l, m, d => ifnv_app l m (ifst d x)
theorem ifnv_snoc (l : List Int) (x : Int) (d : Int) : ifnv d (l ++ [x]) = ifst (ifnv d l) x := by rw [ifnv_app]; rfl
theorem ifnv_b : ∀ (l : List Int) (d : Int), 0 ≤ d → d ≤ 18446744073709551615 → 0 ≤ ifnv d l ∧ ifnv d l ≤ 18446744073709551615
  | [], _, h0, h => ⟨h0, h⟩
  | x :: l, d, _, _ => ifnv_b l _ (ifst_b d x).1 (ifst_b d x).2
/-- the bytes of a number of 64 bits -/
def ibeb (c : Nat) (n : Int) : List Int := beb c n.toNat
theorem ibeb_len (c : Nat) (n : Int) : (ibeb c n).length = c := beb_len _ _
theorem ibeb_b (c : Nat) (n : Int) : ∀ x ∈ ibeb c n, 0 ≤ x ∧ x ≤ 255 := beb_byts _ _
theorem beb_get : ∀ (c n j : Nat), j < c → (beb c n).getD j 0 = ((n / 256 ^ (c - 1 - j) % 256 : Nat) : Int)
  | 0, _, _, h => by omega
  | c + 1, n, 0, _ => by simp [beb]
  | c + 1, n, j + 1, h => by
    have := beb_get c n j (by omega)
    rw [beb]
    simp only [List.getD_cons_succ]
    rw [this]
    congr 4
    omega
theorem ibeb_get {c : Nat} {n : Int} {j : Nat} (h0 : 0 ≤ n) (h : j < c) : (ibeb c n).getD j 0 = n / 2 ^ (8 * (c - 1 - j)) % 256 := by
  unfold ibeb
  rw [beb_get _ _ _ h]
  have e : (256 : Nat) ^ (c - 1 - j) = 2 ^ (8 * (c - 1 - j)) := by rw [show (256 : Nat) = 2 ^ 8 by decide, ← Nat.pow_mul]
  rw [e]
  have hn : n = (n.toNat : Nat) := by omega
  generalize n.toNat = m at hn
  subst hn
  simp only [Int.natCast_emod, Int.natCast_ediv, Int.natCast_pow]
  rfl
end Go.Proofs.YtnlkpnpjmbpgbaaDoor.Digest
