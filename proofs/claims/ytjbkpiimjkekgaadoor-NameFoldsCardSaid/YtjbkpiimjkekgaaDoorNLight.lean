/- light of the statements about name: are the strings short? -/
import Derived.Test.YtjbkpiimjkekgaaDoorNAwake
import Derived.BigQuiet
namespace Go.Proofs.YtjbkpiimjkekgaaDoor.Name
open Go.RowKit
open Go.Proofs.YtjbkpiimjkekgaaDoor.Wire
open Go.Proofs.YtjbkpiimjkekgaaDoor.Glyph
set_option linter.unusedVariables false

theorem light_any (a b c : ByteArray) (w : World) :
    Calls Tryd.prog 10 #[.string a, .string b, .string c] w fun e w' => e = .returned (.bool (decide (a.size ≤ 200 ∧ b.size ≤ 200 ∧ c.size ≤ 200))) ∧ w = w' := by
  have hf := hid (Eq.refl (decide (a.size ≤ 200 ∧ b.size ≤ 200 ∧ c.size ≤ 200)))
  generalize hZ : decide (a.size ≤ 200 ∧ b.size ≤ 200 ∧ c.size ≤ 200) = Z at *
  have HZ := hid hZ
  clear hZ hf
  by_cases h1 : a.size ≤ 200
  · have i1 : (a.size : Int) ≤ 200 := by omega
    by_cases h2 : b.size ≤ 200
    · have i2 : (b.size : Int) ≤ 200 := by omega
      by_cases h3 : c.size ≤ 200
      · have i3 : (c.size : Int) ≤ 200 := by omega
        go_enter Tryd.func10, Tryd.ntmps10
        go_wp2_with fail
        go_ret
        exact ⟨retB (by rw [← HZ.out, decide_eq_true]; exact ⟨h1, h2, h3⟩), rfl⟩
      · have i3 : ¬ (c.size : Int) ≤ 200 := by omega
        go_enter Tryd.func10, Tryd.ntmps10
        go_wp2_with fail
        go_ret
        exact ⟨retB (by rw [← HZ.out, decide_eq_false]; exact fun h => h3 h.2.2), rfl⟩
    · have i2 : ¬ (b.size : Int) ≤ 200 := by omega
      go_enter Tryd.func10, Tryd.ntmps10
      go_wp2_with fail
      go_ret
      exact ⟨retB (by rw [← HZ.out, decide_eq_false]; exact fun h => h2 h.2.1), rfl⟩
  · have i1 : ¬ (a.size : Int) ≤ 200 := by omega
    go_enter Tryd.func10, Tryd.ntmps10
    go_wp2_with fail
    go_ret
    exact ⟨retB (by rw [← HZ.out, decide_eq_false]; exact fun h => h1 h.1), rfl⟩
theorem light_yes (a b c : ByteArray) (h1 : a.size ≤ 200) (h2 : b.size ≤ 200) (h3 : c.size ≤ 200) (w : World) :
    Calls Tryd.prog 10 #[.string a, .string b, .string c] w fun e w' => e = .returned (.bool true) ∧ w = w' := by
  have := light_any a b c w
  rwa [decide_eq_true ⟨h1, h2, h3⟩] at this
theorem light_no (a b c : ByteArray) (h : ¬ (a.size ≤ 200 ∧ b.size ≤ 200 ∧ c.size ≤ 200)) (w : World) :
    Calls Tryd.prog 10 #[.string a, .string b, .string c] w fun e w' => e = .returned (.bool false) ∧ w = w' := by
  have := light_any a b c w
  rwa [decide_eq_false h] at this
theorem sb_eq {a b : ByteArray} (h : sb a = sb b) : a = b := by
  have := congrArg strOfNums h
  rwa [Glyph.strOf_sb, Glyph.strOf_sb] at this
theorem cmp_zero' {a b : ByteArray} (h : cmp (sb a) (sb b) = 0) : a = b := sb_eq (cmp_zero.1 h)
theorem cmp_ne {a b : ByteArray} (h : cmp (sb a) (sb b) ≠ 0) : (a.toList == b.toList) = false := Glyph.toList_ne fun e => h (by rw [e]; exact cmp_zero.2 rfl)
theorem sb_emp : sb ⟨#[]⟩ = [] := rfl
theorem sb_cat (a b : ByteArray) : sb (a ++ b) = sb a ++ sb b := by
  unfold sb
  rw [ByteArray.data_append, Array.toList_append, List.map_append]
theorem keyL_cons (r : Int) (l : List Int) : keyL (r :: l) = if mrk r = true then keyL l else fol r :: keyL l := by
  unfold keyL
  by_cases h : mrk r = true
  · rw [if_pos h, List.filter_cons, if_neg (by simp [h])]
  · rw [if_neg h, List.filter_cons, if_pos (by simpa using h)]; rfl
theorem getD_app (p q : List Int) (i : Nat) : (p ++ q).getD (p.length + i) 0 = q.getD i 0 := by
  unfold List.getD
  rw [List.getElem?_append_right (by omega)]
  congr 2
  omega
theorem blk_app {p k : List Int} (hp : p.getD 0 0 ≠ 32) (h0 : 0 < p.length) (ht : twice (p ++ 98 :: k) = twice (98 :: k)) : blk (p ++ 98 :: k) = (decide ((98 :: k).getD k.length 0 = 32) || twice (98 :: k)) := by
  unfold blk
  have e1 : (p ++ 98 :: k).getD 0 0 = p.getD 0 0 := by
    cases p with
    | nil => simp at h0
    | cons a p => rfl
  have e2 : (p ++ 98 :: k).length - 1 = p.length + k.length := by rw [List.length_append, List.length_cons]; omega
  rw [e1, e2, getD_app, ht, decide_eq_false hp]
  rfl
theorem spells {S m : List Int} (hm : m = [32] ∨ m = [39] ∨ m = [45] ∨ m = [46] ∨ m = [40] ∨ m = [41] ∨ m = []) (h : chk ([97, 98] ++ S) = 0) (hl : S.length ≤ 30) :
    chk ([65] ++ m ++ [98] ++ S) = 0 ∧ key ([65] ++ m ++ [98] ++ S) = key ([97, 98] ++ S) := by
  obtain ⟨_, _, l, hd, _, hb, _⟩ := chk_ok.1 h
  obtain ⟨hok, he⟩ := dec_iff.1 hd
  obtain ⟨k, rfl, hk, hks⟩ := enc_pre (l := [97, 98]) (t := S) (by decide +kernel) hok (by rw [he]; rfl)
  have hm1 : m.length ≤ 1 := by rcases hm with h | h | h | h | h | h | h <;> (subst h; decide)
  have hmo : okl ([65] ++ m ++ [98]) := by rcases hm with h | h | h | h | h | h | h <;> (subst h; decide +kernel)
  have hme : enc ([65] ++ m ++ [98]) = [65] ++ m ++ [98] := by rcases hm with h | h | h | h | h | h | h <;> (subst h; decide +kernel)
  have hd' : dec ([65] ++ m ++ [98] ++ S) = some ([65] ++ m ++ [98] ++ k) := dec_iff.2 ⟨okl_app.2 ⟨hmo, hk⟩, by rw [enc_app, hme, hks]⟩
  have e1 := blk_app (p := [97]) (k := k) (by decide) (by decide) (by simp [twice])
  have e2 := blk_app (p := [65] ++ m) (k := k) (by simp) (by simp) (by rcases hm with h | h | h | h | h | h | h <;> (subst h; simp [twice]))
  have hb' : blk ([65] ++ m ++ [98] ++ k) = false := by
    have : [65] ++ m ++ [98] ++ k = [65] ++ m ++ 98 :: k := by simp
    rw [this, e2, ← e1]
    exact hb
  have hc' : com ([65] ++ m ++ [98] ++ k) = false := com_no (x := 65) (by simp) (by decide +kernel)
  have hg := chk_good (S := [65] ++ m ++ [98] ++ S) (by simp) (by simp; omega) hd' hb' hc'
  refine ⟨hg, ?_⟩
  rw [key_some hg hd', key_some h hd]
  have f1 : fol 65 = 97 := by decide +kernel
  have f2 : fol 97 = 97 := by decide +kernel
  have m1 : mrk 65 = false := by decide +kernel
  have m2 : mrk 97 = false := by decide +kernel
  have m3 : mrk 98 = false := by decide +kernel
  have hmk : keyL (m ++ [98] ++ k) = keyL (98 :: k) := by
    rcases hm with h | h | h | h | h | h | h
    all_goals subst h
    · show keyL (32 :: 98 :: k) = _
      rw [keyL_cons, if_pos (by decide +kernel)]
    · show keyL (39 :: 98 :: k) = _
      rw [keyL_cons, if_pos (by decide +kernel)]
    · show keyL (45 :: 98 :: k) = _
      rw [keyL_cons, if_pos (by decide +kernel)]
    · show keyL (46 :: 98 :: k) = _
      rw [keyL_cons, if_pos (by decide +kernel)]
    · show keyL (40 :: 98 :: k) = _
      rw [keyL_cons, if_pos (by decide +kernel)]
    · show keyL (41 :: 98 :: k) = _
      rw [keyL_cons, if_pos (by decide +kernel)]
    · rfl
  have e3 : keyL ([65] ++ m ++ [98] ++ k) = fol 65 :: keyL (m ++ [98] ++ k) := by
    show keyL (65 :: (m ++ [98] ++ k)) = _
    rw [keyL_cons, if_neg (by rw [m1]; decide)]
  have e4 : keyL ([97, 98] ++ k) = fol 97 :: keyL (98 :: k) := by
    show keyL (97 :: 98 :: k) = _
    rw [keyL_cons, if_neg (by rw [m2]; decide)]
  rw [e3, e4, hmk, f1, f2]
theorem keyL_bound {l : List Int} (h : okl l) {x : Int} (hx : x ∈ keyL l) : 0 ≤ x ∧ x ≤ 50000 := by
  unfold keyL at hx
  obtain ⟨r, hr, rfl⟩ := List.mem_map.1 hx
  have hb := scr_range (h r (List.mem_filter.1 hr).1)
  have := fol_cases r
  unfold F32 F1 at this
  omega
theorem mrk_no {x : Int} (h : mrk x = false) : x ≠ 32 ∧ x ≠ 39 ∧ x ≠ 40 ∧ x ≠ 41 ∧ x ≠ 45 ∧ x ≠ 46 := by
  have := of_decide_eq_false h
  omega
end Go.Proofs.YtjbkpiimjkekgaaDoor.Name
