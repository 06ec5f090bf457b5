/- The plain results of decoding counts, strings and lists of layer 2 (wire). No program. -/
import Derived.Test.YtlpljhaogmfnkaaWPlain
namespace Go.Proofs.Ytlpljhaogmfnkaa.Wire

def cnt (b : List Int) (most : Int) : Int × Int × Int :=
  if de b ≠ 0 then (0, 0, de b) else if dn b < 0 then (0, 0, 4) else if max most 0 < dn b then (0, 0, 3) else (dn b, du b, 0)
def cn (b : List Int) (most : Int) : Int := (cnt b most).1
def cu (b : List Int) (most : Int) : Int := (cnt b most).2.1
def ce (b : List Int) (most : Int) : Int := (cnt b most).2.2
theorem c3 {b : List Int} {m x y z : Int} (h : cnt b m = (x, y, z)) : x = cn b m ∧ y = cu b m ∧ z = ce b m := by
  unfold cn cu ce; rw [h]; exact ⟨rfl, rfl, rfl⟩
theorem cnt_e {b : List Int} {m : Int} (h : de b ≠ 0) : cnt b m = (0, 0, de b) := by rw [cnt, if_pos h]
theorem cnt_n {b : List Int} {m : Int} (h : de b = 0) (h2 : dn b < 0) : cnt b m = (0, 0, 4) := by rw [cnt, if_neg (by simpa using h), if_pos h2]
theorem cnt_l {b : List Int} {m : Int} (h : de b = 0) (h2 : ¬ dn b < 0) (h3 : max m 0 < dn b) : cnt b m = (0, 0, 3) := by rw [cnt, if_neg (by simpa using h), if_neg h2, if_pos h3]
theorem cnt_k {b : List Int} {m : Int} (h : de b = 0) (h2 : ¬ dn b < 0) (h3 : ¬ max m 0 < dn b) : cnt b m = (dn b, du b, 0) := by rw [cnt, if_neg (by simpa using h), if_neg h2, if_neg h3]
theorem cnt_cases (b : List Int) (m : Int) :
    (de b ≠ 0 ∧ cnt b m = (0, 0, de b)) ∨ (de b = 0 ∧ dn b < 0 ∧ cnt b m = (0, 0, 4)) ∨ (de b = 0 ∧ 0 ≤ dn b ∧ max m 0 < dn b ∧ cnt b m = (0, 0, 3)) ∨ (de b = 0 ∧ 0 ≤ dn b ∧ dn b ≤ max m 0 ∧ cnt b m = (dn b, du b, 0)) := by
  by_cases h : de b = 0
  · by_cases h2 : dn b < 0
    · exact .inr (.inl ⟨h, h2, cnt_n h h2⟩)
    · by_cases h3 : max m 0 < dn b
      · exact .inr (.inr (.inl ⟨h, by omega, h3, cnt_l h h2 h3⟩))
      · exact .inr (.inr (.inr ⟨h, by omega, by omega, cnt_k h h2 h3⟩))
  · exact .inl ⟨h, cnt_e h⟩
theorem cnt_b {b : List Int} (hb : byts b) (m : Int) : 0 ≤ cn b m ∧ cn b m ≤ 9223372036854775807 ∧ 0 ≤ cu b m ∧ cu b m ≤ b.length ∧ cu b m ≤ 10 ∧ 0 ≤ ce b m ∧ ce b m ≤ 5 ∧ (ce b m = 0 → 1 ≤ cu b m) ∧ (ce b m ≠ 0 → cn b m = 0 ∧ cu b m = 0) := by
  have hd := dec_b hb
  unfold cn cu ce
  rcases cnt_cases b m with ⟨h, e⟩ | ⟨h, h1, e⟩ | ⟨h, h1, h2, e⟩ | ⟨h, h1, h2, e⟩
  · rw [e]; dsimp only; omega
  · rw [e]; dsimp only; omega
  · rw [e]; dsimp only; omega
  · rw [e]; dsimp only
    exact ⟨h1, hd.2.1, hd.2.2.1, hd.2.2.2.1, hd.2.2.2.2.1, by omega, by omega, fun _ => hd.2.2.2.2.2.2.1 h, fun h => absurd rfl h⟩

def tex (b : List Int) (most : Int) : List Int × Int × Int :=
  if ce b most ≠ 0 then ([], 0, ce b most) else if (b.length : Int) - cu b most < cn b most then ([], 0, 5)
  else ((b.drop (cu b most).toNat).take (cn b most).toNat, cu b most + cn b most, 0)
def ts (b : List Int) (most : Int) : List Int := (tex b most).1
def tu (b : List Int) (most : Int) : Int := (tex b most).2.1
def te (b : List Int) (most : Int) : Int := (tex b most).2.2
theorem t3 {b : List Int} {m y z : Int} {x : List Int} (h : tex b m = (x, y, z)) : x = ts b m ∧ y = tu b m ∧ z = te b m := by
  unfold ts tu te; rw [h]; exact ⟨rfl, rfl, rfl⟩
theorem tex_e {b : List Int} {m : Int} (h : ce b m ≠ 0) : tex b m = ([], 0, ce b m) := by rw [tex, if_pos h]
theorem tex_s {b : List Int} {m : Int} (h : ce b m = 0) (h2 : (b.length : Int) - cu b m < cn b m) : tex b m = ([], 0, 5) := by rw [tex, if_neg (by simpa using h), if_pos h2]
theorem tex_k {b : List Int} {m : Int} (h : ce b m = 0) (h2 : ¬ (b.length : Int) - cu b m < cn b m) : tex b m = ((b.drop (cu b m).toNat).take (cn b m).toNat, cu b m + cn b m, 0) := by rw [tex, if_neg (by simpa using h), if_neg h2]

/-- reading c integers from the place at on, behind those of acc -/
def lgo : Nat → List Int → List Int → Int → List Int × Int × Int
  | 0, _, acc, at_ => (acc, at_, 0)
  | c + 1, b, acc, at_ => if de (b.drop at_.toNat) ≠ 0 then ([], 0, de (b.drop at_.toNat)) else lgo c b (acc ++ [dn (b.drop at_.toNat)]) (at_ + du (b.drop at_.toNat))
theorem lgo_e {c : Nat} {b acc : List Int} {at_ : Int} (h : de (b.drop at_.toNat) ≠ 0) : lgo (c + 1) b acc at_ = ([], 0, de (b.drop at_.toNat)) := by rw [lgo, if_pos h]
theorem lgo_k {c : Nat} {b acc : List Int} {at_ : Int} (h : de (b.drop at_.toNat) = 0) : lgo (c + 1) b acc at_ = lgo c b (acc ++ [dn (b.drop at_.toNat)]) (at_ + du (b.drop at_.toNat)) := by rw [lgo, if_neg (by simpa using h)]
def lis (b : List Int) (most : Int) : List Int × Int × Int :=
  if ce b most ≠ 0 then ([], 0, ce b most) else lgo (cn b most).toNat b [] (cu b most)
def ll (b : List Int) (most : Int) : List Int := (lis b most).1
def lu (b : List Int) (most : Int) : Int := (lis b most).2.1
def le (b : List Int) (most : Int) : Int := (lis b most).2.2
theorem l3 {b : List Int} {m y z : Int} {x : List Int} (h : lis b m = (x, y, z)) : x = ll b m ∧ y = lu b m ∧ z = le b m := by
  unfold ll lu le; rw [h]; exact ⟨rfl, rfl, rfl⟩
theorem lis_e {b : List Int} {m : Int} (h : ce b m ≠ 0) : lis b m = ([], 0, ce b m) := by rw [lis, if_pos h]
theorem lis_k {b : List Int} {m : Int} (h : ce b m = 0) : lis b m = lgo (cn b m).toNat b [] (cu b m) := by rw [lis, if_neg (by simpa using h)]

/-! strings -/
theorem take_add_drop {b : List Int} (i j : Nat) : b.take (i + j) = b.take i ++ (b.drop i).take j := List.take_add ..

theorem tex_cases (b : List Int) (m : Int) :
    (ce b m ≠ 0 ∧ tex b m = ([], 0, ce b m)) ∨ (ce b m = 0 ∧ (b.length : Int) - cu b m < cn b m ∧ tex b m = ([], 0, 5)) ∨
    (ce b m = 0 ∧ cn b m ≤ (b.length : Int) - cu b m ∧ tex b m = ((b.drop (cu b m).toNat).take (cn b m).toNat, cu b m + cn b m, 0)) := by
  by_cases h : ce b m = 0
  · by_cases h2 : (b.length : Int) - cu b m < cn b m
    · exact .inr (.inl ⟨h, h2, tex_s h h2⟩)
    · exact .inr (.inr ⟨h, by omega, tex_k h h2⟩)
  · exact .inl ⟨h, tex_e h⟩
theorem tex_b {b : List Int} (hb : byts b) (m : Int) : 0 ≤ tu b m ∧ tu b m ≤ b.length ∧ 0 ≤ te b m ∧ te b m ≤ 5 ∧ (te b m = 0 → 1 ≤ tu b m) ∧ (te b m ≠ 0 → tu b m = 0) ∧ byts (ts b m) ∧ (ts b m).length ≤ b.length := by
  have hc := cnt_b hb m
  unfold ts tu te
  rcases tex_cases b m with ⟨h, e⟩ | ⟨h, h1, e⟩ | ⟨h, h1, e⟩
  · rw [e]; dsimp only
    exact ⟨by omega, by omega, by omega, by omega, fun g => absurd g h, fun _ => rfl, (fun x hx => by cases hx), by simp⟩
  · rw [e]; dsimp only
    exact ⟨by omega, by omega, by omega, by omega, by omega, fun _ => rfl, (fun x hx => by cases hx), by simp⟩
  · rw [e]; dsimp only
    refine ⟨by omega, by omega, by omega, by omega, fun _ => by have := hc.2.2.2.2.2.2.2.1 h; omega, fun g => absurd rfl g, byts_take (byts_drop hb _) _, ?_⟩
    rw [List.length_take, List.length_drop]; omega

theorem cnt_ok {b : List Int} (hb : byts b) {m : Int} (h : ce b m = 0) : b.take (cu b m).toNat = enc (cn b m) ∧ de b = 0 := by
  have h' := h
  unfold ce at h'
  unfold cu cn
  rcases cnt_cases b m with ⟨g, e⟩ | ⟨g, h1, e⟩ | ⟨g, h1, h2, e⟩ | ⟨g, h1, h2, e⟩
  · rw [e] at h'; exact absurd h' g
  · rw [e] at h'; exact absurd h' (by decide)
  · rw [e] at h'; exact absurd h' (by decide)
  · rw [e]; exact ⟨enc_dec hb g, g⟩

theorem tex_ok {b : List Int} (hb : byts b) {m : Int} (h : te b m = 0) : b.take (tu b m).toNat = enc (ts b m).length ++ ts b m := by
  have hc := cnt_b hb m
  have h' := h
  unfold te at h'
  unfold tu ts
  rcases tex_cases b m with ⟨g, e⟩ | ⟨g, h1, e⟩ | ⟨g, h1, e⟩
  · rw [e] at h'; exact absurd h' g
  · rw [e] at h'; exact absurd h' (by decide)
  · rw [e]; dsimp only
    have hl : (((b.drop (cu b m).toNat).take (cn b m).toNat).length : Int) = cn b m := by
      rw [List.length_take, List.length_drop]; omega
    rw [hl, ← (cnt_ok hb g).1, ← take_add_drop, show (cu b m + cn b m).toNat = (cu b m).toNat + (cn b m).toNat by omega]

theorem dd3 {b : List Int} {x y z : Int} (h : dec b = (x, y, z)) : x = dn b ∧ y = du b ∧ z = de b := by
  unfold dn du de; rw [h]; exact ⟨rfl, rfl, rfl⟩
theorem cnt_enc {n : Int} {m : Int} (rest : List Int) (h0 : 0 ≤ n) (h1 : n ≤ 9223372036854775807) (hm : n ≤ m) : cnt (enc n ++ rest) m = (n, ((enc n).length : Int), 0) := by
  have hd := dd3 (dec_enc (n := n) rest (by omega) h1)
  rw [cnt_k (by rw [← hd.2.2]) (by rw [← hd.1]; omega) (by rw [← hd.1]; omega), ← hd.1, ← hd.2.1]
theorem tex_enc {s rest : List Int} {m : Int} (h1 : (s.length : Int) ≤ 9223372036854775807) (hm : (s.length : Int) ≤ m) : tex (enc s.length ++ s ++ rest) m = (s, ((enc s.length).length : Int) + s.length, 0) := by
  have hc := c3 (cnt_enc (n := s.length) (m := m) (s ++ rest) (by omega) h1 hm)
  rw [← List.append_assoc] at hc
  rw [tex_k hc.2.2.symm (by rw [← hc.1, ← hc.2.1]; simp only [List.length_append]; omega), ← hc.1, ← hc.2.1]
  simp
end Go.Proofs.Ytlpljhaogmfnkaa.Wire
