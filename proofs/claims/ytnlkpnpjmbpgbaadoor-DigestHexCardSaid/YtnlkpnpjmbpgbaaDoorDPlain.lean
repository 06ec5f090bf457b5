/- The plain numbers of layer 3 (digest): the register of CRC-32, its linearity, and that a changed byte changes it; bytes of a number; FNV-1a. No program. -/
namespace Go.Proofs.YtnlkpnpjmbpgbaaDoor.Digest
set_option linter.unusedVariables false

/-- one bit of the register -/
def cb (r : Nat) : Nat := if r % 2 = 1 then (r / 2) ^^^ 3988292384 else r / 2
def cb8 (r : Nat) : Nat := cb (cb (cb (cb (cb (cb (cb (cb r)))))))
/-- the register behind a byte -/
def cby (r c : Nat) : Nat := cb8 (r ^^^ c)

theorem xor_lt {a b : Nat} (ha : a < 4294967296) (hb : b < 4294967296) : a ^^^ b < 4294967296 := Nat.xor_lt_two_pow (n := 32) ha hb
theorem cb_lt {r : Nat} (h : r < 4294967296) : cb r < 4294967296 := by
  unfold cb
  split
  · exact xor_lt (by omega) (by omega)
  · omega
theorem cb8_lt {r : Nat} (h : r < 4294967296) : cb8 r < 4294967296 := cb_lt (cb_lt (cb_lt (cb_lt (cb_lt (cb_lt (cb_lt (cb_lt h)))))))
theorem cby_lt {r c : Nat} (h : r < 4294967296) (hc : c < 4294967296) : cby r c < 4294967296 := cb8_lt (xor_lt h hc)

theorem xor_mod2 (a b : Nat) : (a ^^^ b) % 2 = (a % 2 + b % 2) % 2 := by
  have := Nat.xor_mod_two_pow (a := a) (b := b) (n := 1)
  simp only [Nat.pow_one] at this
  rw [this]
  have h1 : a % 2 = 0 ∨ a % 2 = 1 := by omega
  have h2 : b % 2 = 0 ∨ b % 2 = 1 := by omega
  rcases h1 with h1 | h1 <;> rcases h2 with h2 | h2 <;> rw [h1, h2] <;> rfl
theorem xor_div2 (a b : Nat) : (a ^^^ b) / 2 = (a / 2) ^^^ (b / 2) := by
  have := Nat.xor_div_two_pow (a := a) (b := b) (n := 1)
  simpa using this

theorem cb_xor (a b : Nat) : cb (a ^^^ b) = cb a ^^^ cb b := by
  unfold cb
  rw [xor_mod2, xor_div2]
  have h1 : a % 2 = 0 ∨ a % 2 = 1 := by omega
  have h2 : b % 2 = 0 ∨ b % 2 = 1 := by omega
  rcases h1 with h1 | h1 <;> rcases h2 with h2 | h2 <;> rw [h1, h2]
  · simp
  · simp [Nat.xor_assoc]
  · have : ((a / 2) ^^^ (b / 2)) ^^^ 3988292384 = ((a / 2) ^^^ 3988292384) ^^^ (b / 2) := by
      rw [Nat.xor_assoc, Nat.xor_comm (b / 2), ← Nat.xor_assoc]
    simp [this]
  · have : ((a / 2) ^^^ 3988292384) ^^^ ((b / 2) ^^^ 3988292384) = (a / 2) ^^^ (b / 2) := by
      rw [Nat.xor_assoc, Nat.xor_comm (b / 2), ← Nat.xor_assoc 3988292384, Nat.xor_self, Nat.zero_xor]
    simp [this]
theorem cb8_xor (a b : Nat) : cb8 (a ^^^ b) = cb8 a ^^^ cb8 b := by unfold cb8; simp only [cb_xor]
theorem cby_xor (a b c d : Nat) : cby (a ^^^ b) (c ^^^ d) = cby a c ^^^ cby b d := by
  unfold cby
  rw [← cb8_xor]
  congr 1
  rw [Nat.xor_assoc, Nat.xor_assoc, ← Nat.xor_assoc b, Nat.xor_comm b c, Nat.xor_assoc c]

/-- a register that is not 0 never becomes 0 -/
theorem cb_pos {r : Nat} (h : r < 4294967296) (h0 : r ≠ 0) : cb r ≠ 0 := by
  unfold cb
  split
  · intro e
    have : r / 2 = 3988292384 := by
      have e2 := congrArg (· ^^^ 3988292384) e
      simp only [Nat.xor_assoc, Nat.xor_self, Nat.xor_zero, Nat.zero_xor] at e2
      exact e2
    omega
  · omega
theorem cb8_pos {r : Nat} (h : r < 4294967296) (h0 : r ≠ 0) : cb8 r ≠ 0 := by
  have h1 := cb_lt h; have p1 := cb_pos h h0
  have h2 := cb_lt h1; have p2 := cb_pos h1 p1
  have h3 := cb_lt h2; have p3 := cb_pos h2 p2
  have h4 := cb_lt h3; have p4 := cb_pos h3 p3
  have h5 := cb_lt h4; have p5 := cb_pos h4 p4
  have h6 := cb_lt h5; have p6 := cb_pos h5 p5
  have h7 := cb_lt h6; have p7 := cb_pos h6 p6
  exact cb_pos h7 p7

/-- the register behind bytes, from r on -/
def reg : Nat → List Int → Nat
  | r, [] => r
  | r, x :: l => reg (cby r x.toNat) l
def crc (l : List Int) : Nat := 4294967295 - reg 4294967295 l

theorem reg_nil (r : Nat) : reg r [] = r := rfl
theorem reg_cons (r : Nat) (x : Int) (l : List Int) : reg r (x :: l) = reg (cby r x.toNat) l := rfl
theorem reg_app : ∀ (l m : List Int) (r : Nat), reg r (l ++ m) = reg (reg r l) m
  | [], _, _ => rfl
  | x :: l, m, r => by rw [List.cons_append, reg_cons, reg_app l m, reg_cons]
theorem reg_snoc (l : List Int) (x : Int) (r : Nat) : reg r (l ++ [x]) = cby (reg r l) x.toNat := by rw [reg_app, reg_cons, reg_nil]
theorem reg_lt : ∀ (l : List Int) (r : Nat), r < 4294967296 → (∀ x ∈ l, 0 ≤ x ∧ x ≤ 255) → reg r l < 4294967296
  | [], r, h, _ => h
  | x :: l, r, h, hb => by
    have := hb x (by simp)
    exact reg_lt l _ (cby_lt h (by omega)) (fun y hy => hb y (by simp [hy]))
theorem crc_lt (l : List Int) : crc l < 4294967296 := by unfold crc; omega

theorem compl_xor {x : Nat} (h : x < 4294967296) : 4294967295 - x = 4294967295 ^^^ x := by
  have e2 : (BitVec.ofNat 32 x).toNat = x := by rw [BitVec.toNat_ofNat]; exact Nat.mod_eq_of_lt h
  have h1 : (~~~(BitVec.ofNat 32 x)).toNat = 4294967295 - x := by rw [BitVec.toNat_not, e2]
  have h2 : (~~~(BitVec.ofNat 32 x)).toNat = 4294967295 ^^^ x := by rw [BitVec.not_def, BitVec.toNat_xor, e2, BitVec.toNat_allOnes]
  rw [← h1, h2]

/-- the bytes of three lists, combined -/
def xor3 : List Int → List Int → List Int → List Int
  | a :: l, b :: m, c :: n => (((a.toNat ^^^ b.toNat) ^^^ c.toNat : Nat) : Int) :: xor3 l m n
  | _, _, _ => []
theorem xor3_nil : xor3 [] [] [] = [] := rfl
theorem xor3_cons (a b c : Int) (l m n : List Int) : xor3 (a :: l) (b :: m) (c :: n) = (((a.toNat ^^^ b.toNat) ^^^ c.toNat : Nat) : Int) :: xor3 l m n := rfl
theorem reg_xor3 (l : List Int) : ∀ (m n : List Int) (r s t : Nat), l.length = m.length → l.length = n.length → reg ((r ^^^ s) ^^^ t) (xor3 l m n) = (reg r l ^^^ reg s m) ^^^ reg t n := by
  induction l with
  | nil =>
    intro m n r s t h1 h2
    obtain rfl : m = [] := List.eq_nil_of_length_eq_zero h1.symm
    obtain rfl : n = [] := List.eq_nil_of_length_eq_zero h2.symm
    rw [xor3_nil, reg_nil, reg_nil, reg_nil, reg_nil]
  | cons a l ih =>
    intro m n r s t h1 h2
    cases m with
    | nil => simp at h1
    | cons b m =>
      cases n with
      | nil => simp at h2
      | cons c n =>
        rw [xor3_cons, reg_cons, reg_cons, reg_cons, reg_cons, Int.toNat_natCast, cby_xor, cby_xor]
        exact ih m n (cby r a.toNat) (cby s b.toNat) (cby t c.toNat) (by simpa using h1) (by simpa using h2)
theorem crc_linear {l m n : List Int} (h1 : l.length = m.length) (h2 : l.length = n.length) (hl : ∀ x ∈ l, 0 ≤ x ∧ x ≤ 255) (hm : ∀ x ∈ m, 0 ≤ x ∧ x ≤ 255) (hn : ∀ x ∈ n, 0 ≤ x ∧ x ≤ 255) :
    (crc l ^^^ crc m) ^^^ crc n = crc (xor3 l m n) := by
  have r1 := reg_lt l 4294967295 (by omega) hl
  have r2 := reg_lt m 4294967295 (by omega) hm
  have r3 := reg_lt n 4294967295 (by omega) hn
  have e := reg_xor3 l m n 4294967295 4294967295 4294967295 h1 h2
  rw [Nat.xor_self, Nat.zero_xor] at e
  have r4 : reg 4294967295 (xor3 l m n) < 4294967296 := by rw [e]; exact xor_lt (xor_lt r1 r2) r3
  unfold crc
  rw [compl_xor r1, compl_xor r2, compl_xor r3, compl_xor r4, e]
  generalize reg 4294967295 l = a
  generalize reg 4294967295 m = b
  generalize reg 4294967295 n = c
  generalize (4294967295 : Nat) = k
  have : (k ^^^ a) ^^^ (k ^^^ b) = a ^^^ b := by
    rw [Nat.xor_comm k a, Nat.xor_assoc, ← Nat.xor_assoc k k, Nat.xor_self, Nat.zero_xor]
  rw [this, ← Nat.xor_assoc, Nat.xor_comm (a ^^^ b) k, Nat.xor_assoc]

/-- two registers that differ still differ behind the same bytes -/
theorem reg_ne : ∀ (l : List Int) (r s : Nat), (∀ x ∈ l, 0 ≤ x ∧ x ≤ 255) → r < 4294967296 → s < 4294967296 → r ≠ s → reg r l ≠ reg s l
  | [], _, _, _, _, _, h => h
  | x :: l, r, s, hb, hr, hs, h => by
    have hx : x.toNat < 4294967296 := by have := hb x (by simp); omega
    refine reg_ne l _ _ (fun y hy => hb y (by simp [hy])) (cby_lt hr hx) (cby_lt hs hx) ?_
    intro e
    have h0 : r ^^^ s ≠ 0 := by
      intro e0
      exact h (by
        have := congrArg (· ^^^ s) e0
        simpa [Nat.xor_assoc] using this)
    have hz : cb8 (r ^^^ s) = 0 := by
      have hc := cby_xor r s x.toNat x.toNat
      rw [e, Nat.xor_self, Nat.xor_self] at hc
      unfold cby at hc
      simpa using hc
    exact cb8_pos (xor_lt hr hs) h0 hz
/-- another byte gives another register -/
theorem cby_ne {r c d : Nat} (hr : r < 4294967296) (hc : c < 256) (hd : d < 256) (h : c ≠ d) : cby r c ≠ cby r d := by
  intro e
  have h0 : c ^^^ d ≠ 0 := by
    intro e0
    exact h (by
      have := congrArg (· ^^^ d) e0
      simpa [Nat.xor_assoc] using this)
  have hx := cby_xor r r c d
  rw [e, Nat.xor_self, Nat.xor_self] at hx
  unfold cby at hx
  rw [Nat.zero_xor] at hx
  exact cb8_pos (xor_lt (by omega) (by omega)) h0 hx
/-- one changed byte changes the checksum -/
theorem crc_detects {l m : List Int} {x y : Int} (hl : ∀ z ∈ l, 0 ≤ z ∧ z ≤ 255) (hm : ∀ z ∈ m, 0 ≤ z ∧ z ≤ 255) (hx : 0 ≤ x ∧ x ≤ 255) (hy : 0 ≤ y ∧ y ≤ 255) (h : x ≠ y) : crc (l ++ x :: m) ≠ crc (l ++ y :: m) := by
  unfold crc
  rw [reg_app, reg_app, reg_cons, reg_cons]
  have r := reg_lt l 4294967295 (by omega) hl
  have hn := cby_ne r (c := x.toNat) (d := y.toNat) (by omega) (by omega) (by omega)
  have c1 := cby_lt r (c := x.toNat) (by omega)
  have c2 := cby_lt r (c := y.toNat) (by omega)
  have := reg_ne m _ _ hm c1 c2 hn
  have d1 := reg_lt m _ c1 hm
  have d2 := reg_lt m _ c2 hm
  omega

/-- the lowest bytes of a number, the most significant one first -/
def beb : Nat → Nat → List Int
  | 0, _ => []
  | k + 1, n => ((n / 256 ^ k % 256 : Nat) : Int) :: beb k n
theorem beb_len : ∀ (k n : Nat), (beb k n).length = k
  | 0, _ => rfl
  | k + 1, n => by rw [beb, List.length_cons, beb_len k]
theorem beb_byts : ∀ (k n : Nat), ∀ x ∈ beb k n, 0 ≤ x ∧ x ≤ 255
  | 0, _, x, h => by cases h
  | k + 1, n, x, h => by
    rw [beb] at h
    rcases List.mem_cons.1 h with rfl | h
    · omega
    · exact beb_byts k n x h
theorem beb_inj : ∀ (k : Nat) (m n : Nat), beb k m = beb k n → m % 256 ^ k = n % 256 ^ k
  | 0, m, n, _ => by simp [Nat.mod_one]
  | k + 1, m, n, h => by
    simp only [beb, List.cons.injEq] at h
    have ih := beb_inj k m n h.2
    have h1 : m / 256 ^ k % 256 = n / 256 ^ k % 256 := by omega
    rw [Nat.pow_succ, Nat.mod_mul, Nat.mod_mul, ih, h1]
theorem beb4_inj {m n : Nat} (hm : m < 4294967296) (hn : n < 4294967296) (h : beb 4 m = beb 4 n) : m = n := by
  have := beb_inj 4 m n h
  have e : (256 : Nat) ^ 4 = 4294967296 := by decide
  rw [e, Nat.mod_eq_of_lt hm, Nat.mod_eq_of_lt hn] at this
  exact this

/-! FNV-1a -/
def fst (d c : Nat) : Nat := ((d ^^^ c) * 1099511628211) % 18446744073709551616
def fnv : Nat → List Int → Nat
  | d, [] => d
  | d, x :: l => fnv (fst d x.toNat) l
theorem fnv_nil (d : Nat) : fnv d [] = d := rfl
theorem fnv_cons (d : Nat) (x : Int) (l : List Int) : fnv d (x :: l) = fnv (fst d x.toNat) l := rfl
theorem fnv_app : ∀ (l m : List Int) (d : Nat), fnv d (l ++ m) = fnv (fnv d l) m
  | [], _, _ => rfl
  | x :: l, m, d => by rw [List.cons_append, fnv_cons, fnv_app l m, fnv_cons]
theorem fnv_snoc (l : List Int) (x : Int) (d : Nat) : fnv d (l ++ [x]) = fst (fnv d l) x.toNat := by rw [fnv_app, fnv_cons, fnv_nil]
theorem fst_lt (d c : Nat) : fst d c < 18446744073709551616 := Nat.mod_lt _ (by omega)
theorem fnv_lt : ∀ (l : List Int) (d : Nat), d < 18446744073709551616 → fnv d l < 18446744073709551616
  | [], _, h => h
  | x :: l, d, _ => fnv_lt l _ (fst_lt _ _)

/-! what is sealed -/
def sld (b : List Int) : List Int := b ++ beb 4 (crc b)
theorem sld_len (b : List Int) : (sld b).length = b.length + 4 := by rw [sld, List.length_append, beb_len]
theorem sld_byts {b : List Int} (h : ∀ x ∈ b, 0 ≤ x ∧ x ≤ 255) : ∀ x ∈ sld b, 0 ≤ x ∧ x ≤ 255 := by
  intro x hx
  rcases List.mem_append.1 hx with g | g
  · exact h x g
  · exact beb_byts 4 _ x g

/-! hexadecimal digits -/
def hdig (k : Nat) : Nat := if k < 10 then 48 + k else 87 + k
def hex : Nat → Nat → List Nat
  | 0, _ => []
  | k + 1, d => hex k (d / 16) ++ [hdig (d % 16)]
theorem hex_len : ∀ (k d : Nat), (hex k d).length = k
  | 0, _ => rfl
  | k + 1, d => by rw [hex, List.length_append, hex_len k]; rfl
def hnum (c : Nat) : Nat := if 97 ≤ c then c - 97 + 10 else c - 48
theorem hnum_hdig {k : Nat} (h : k < 16) : hnum (hdig k) = k := by
  unfold hdig hnum
  split
  · rw [if_neg (by omega)]; omega
  · rw [if_pos (by omega)]; omega
theorem hdig_b {k : Nat} (h : k < 16) : 48 ≤ hdig k ∧ hdig k ≤ 102 := by unfold hdig; split <;> omega
def hval : List Nat → Nat := List.foldl (fun n c => n * 16 + hnum c) 0
theorem hval_snoc (l : List Nat) (c : Nat) : hval (l ++ [c]) = hval l * 16 + hnum c := by unfold hval; rw [List.foldl_append]; rfl
theorem hval_hex : ∀ (k d : Nat), hval (hex k d) = d % 16 ^ k
  | 0, d => by rw [Nat.pow_zero, Nat.mod_one]; rfl
  | k + 1, d => by
    rw [hex, hval_snoc, hval_hex k, hnum_hdig (Nat.mod_lt _ (by omega)), Nat.pow_succ, Nat.mul_comm (16 ^ k), Nat.mod_mul]
    omega
theorem hex_b : ∀ (k d : Nat), ∀ c ∈ hex k d, 48 ≤ c ∧ c ≤ 102
  | 0, _, c, h => by cases h
  | k + 1, d, c, h => by
    rw [hex] at h
    rcases List.mem_append.1 h with g | g
    · exact hex_b k _ c g
    · obtain rfl := List.mem_singleton.1 g
      exact hdig_b (Nat.mod_lt _ (by omega))
end Go.Proofs.YtnlkpnpjmbpgbaaDoor.Digest
