/- Contracts of name: ofScript, the library's ContainsFunc with it, codePoints. -/
import Derived.Test.YtjbkpiimjkekgaaDoorNTab
import Derived.Test.YtjbkpiimjkekgaaDoorNLib
import Derived.Test.YtjbkpiimjkekgaaDoorNTrim
import Derived.Test.YtjbkpiimjkekgaaDoorYDec
import Derived.Deep.LoopGhost
import Derived.Lib.SlicesMore
namespace Go.Proofs.YtjbkpiimjkekgaaDoor.Name
open Go.RowKit
open Go.Proofs.YtjbkpiimjkekgaaDoor.Wire
open Go.Proofs.YtjbkpiimjkekgaaDoor.Glyph
set_option linter.unusedVariables false

theorem ofScript_any (r : Int) (w : World) (h0 : -9223372036854775808 ≤ r) (h1 : r ≤ 9223372036854775807) (hT : Tab w) :
    Calls Tryd.prog 44 #[.int .i64 r] w fun e w' => e = .returned (.bool (!(scr r == 0))) ∧ Bl w w' := by
  have c2 := Script_any r w h0 h1 hT
  generalize scr r = X at *
  go_enter Tryd.func44, Tryd.ntmps44
  go_wp2_with fail
  refine c2.mono ?_
  rintro e w' ⟨rfl, hb⟩
  go_wp2_with fail
  go_ret
  exact ⟨rfl, hb⟩
theorem com_all {xs : List Int} (h : ∀ j, j < xs.length → scr (xs.getD j 0) = 0) : com xs = true := by
  unfold com
  rw [List.all_eq_true]
  intro x hx
  obtain ⟨i, hi, rfl⟩ := List.mem_iff_getElem.1 hx
  have := h i hi
  rw [decide_eq_true_eq]
  simpa [List.getD, List.getElem?_eq_getElem hi] using this
/-- the first that is spoken -/
def IdxS (xs : List Int) (w : World) (e : Ending) (w' : World) : Prop :=
  ((e = .returned (.int .i64 (-1)) ∧ com xs = true) ∨ ∃ k : Nat, e = .returned (.int .i64 (k : Nat)) ∧ com xs = false ∧ k < 1048576) ∧ Bl w w'
set_option maxHeartbeats 1000000 in
theorem IndexS_any (A : Option Addr) (n c : Nat) (xs : List Int) (w : World) (hS : Sh w w.heap.size .i64 A n xs) (hm : n ≤ 1048576) (hO : okl xs) (hT : Tab w) :
    Calls Tryd.prog 61 #[.slice A n c, .func (.func 44) #[] #[]] w (IdxS xs w) := by
  have hl := hS.len
  have cS := hid (fun r w' (hb : Bl w w') (h0 : -9223372036854775808 ≤ r) (h1 : r ≤ 9223372036854775807) => ofScript_any r w' h0 h1 (hT.bl hb))
  have HO := hid hO
  clear hO hT
  go_enter Tryd.func61, Tryd.ntmps61
  go_wp2_with fail
  go_loopw [8, 5] (fun i _ wr => ∃ k : Nat, i = .int .i64 (k : Nat) ∧ k ≤ n ∧ Hid (∀ j, j < k → scr (xs.getD j 0) = 0) ∧ Bl w wr) (fun i _ _ => n - (intOf i).toNat)
  case atStart => exact ⟨0, rfl, by omega, hid (fun j hj => by omega), Bl.refl _⟩
  case round =>
    obtain ⟨k, rfl, hk, hz, hb⟩ := hrel
    by_cases hlt : k < n
    · obtain ⟨b, o, rfl, _, hcell⟩ := (hS.bl hb).2 (by omega)
      have hc1 := hcell k hlt
      have hmem := getD_mem (l := xs) (k := k) (by omega)
      have hx := scr_range (HO.out _ hmem)
      have cS1 := hid (cS.out (xs.getD k 0) wr hb (by omega) (by omega))
      have hno := hid (fun h => com_no hmem h)
      clear hcell hS hmem
      obtain ⟨X, hX⟩ : ∃ X, X = xs.getD k 0 := ⟨_, rfl⟩
      have HX := hid hX
      rw [← hX] at hc1 cS1 hno
      clear hX hx
      cases hs : (scr X == 0)
      · rw [hs] at cS1
        have h0 := hid (hno.out (beq_eq_false_iff_ne.1 hs))
        clear hs
        generalize scr X = S at *
        go_wp2_with (go_at_call 44; refine cS1.out.mono ?_; rintro e w3 ⟨rfl, hb3⟩)
        go_ret
        exact ⟨.inr ⟨k, rfl, h0.out, by omega⟩, hb.trans hb3⟩
      · rw [hs] at cS1
        have h0 : scr X = 0 := eq_of_beq hs
        clear hs
        go_wp2_with (go_at_call 44; refine cS1.out.mono ?_; rintro e w3 ⟨rfl, hb3⟩)
        go_roundw
        case rel => exact ⟨k + 1, by go_num, by omega, hid (fun j hj => by rcases Nat.lt_or_ge j k with g | g; exact hz.out j g; rw [show j = k by omega, ← HX.out]; exact h0), hb.trans hb3⟩
        case measure => simp [intOf]; omega
    · obtain rfl : k = n := by omega
      go_wp2_with fail
      go_ret
      exact ⟨.inl ⟨rfl, com_all fun j hj => hz.out j (by omega)⟩, hb⟩
theorem Contains_any (A : Option Addr) (n c : Nat) (xs : List Int) (w : World) (hS : Sh w w.heap.size .i64 A n xs) (hm : n ≤ 1048576) (hO : okl xs) (hT : Tab w) :
    Calls Tryd.prog 43 #[.slice A n c, .func (.func 44) #[] #[]] w fun e w' => e = .returned (.bool (!com xs)) ∧ Bl w w' := by
  have c1 := IndexS_any A n c xs w hS hm hO hT
  unfold IdxS at c1
  generalize com xs = X at *
  go_enter Tryd.func43, Tryd.ntmps43
  go_wp2_with fail
  refine c1.mono ?_
  rintro e w' ⟨⟨rfl, rfl⟩ | ⟨k, rfl, rfl, hk⟩, hb⟩
  · go_wp2_with fail
    go_ret
    exact ⟨rfl, hb⟩
  · have i1 : (0 : Int) ≤ (k : Int) := by omega
    go_wp2_with fail
    go_ret
    exact ⟨rfl, hb⟩

/-- the code points of a valid name -/
noncomputable def pts (S : List Int) : List Int := if chk S = 0 then (dec S).getD [] else []
def PtsOut (w : World) (S : List Int) (e : Ending) (w' : World) : Prop :=
  ∃ A c, e = .returned (.tuple #[.slice A (pts S).length c, .int .i64 (chk S)]) ∧ Sh w' w'.heap.size .i64 A (pts S).length (pts S) ∧ (pts S).length ≤ c ∧ Bl w w'
theorem pts_no {S : List Int} (h : chk S ≠ 0) : pts S = [] := by unfold pts; rw [if_neg h]
theorem pts_yes {S l : List Int} (h : chk S = 0) (g : dec S = some l) : pts S = l := by unfold pts; rw [if_pos h, g]; rfl
theorem PtsOut.no {w w' : World} {S : List Int} {x : Int} (h : chk S = x) (h0 : x ≠ 0) (hb : Bl w w') : PtsOut w S (.returned (.tuple #[.slice none 0 0, .int .i64 x])) w' := by
  have h1 := pts_no (S := S) (by rw [h]; exact h0)
  refine ⟨none, 0, by rw [h1, h]; rfl, ?_, by rw [h1]; exact Nat.le_refl _, hb⟩
  rw [h1]
  exact ⟨rfl, fun h => absurd h (by simp)⟩
theorem PtsOut.yes {w w' : World} {S l : List Int} {A : Option Addr} {m c : Nat} (h : chk S = 0) (hk : pts S = l) (hS : Sh w' w'.heap.size .i64 A m l) (hc : m ≤ c) (hb : Bl w w') : PtsOut w S (.returned (.tuple #[.slice A m c, .int .i64 0])) w' := by
  obtain rfl := hS.len
  exact ⟨A, c, by rw [hk, h], by rw [hk]; exact hS, by rw [hk]; exact hc, hb⟩
theorem sb_nums (s : ByteArray) : sb s = nums s.data.toList := rfl
theorem chk_com {S l : List Int} (h40 : S.length ≤ 40) (hd : dec S = some l) (hc : com l = true) : chk S = 14 := by
  by_cases h : S = []
  · rw [h]; exact chk_nil
  · exact chk_bad h h40 hd (.inr hc)
theorem blk_ne {S : List Int} (h : blk S = true) : S ≠ [] := by
  rintro rfl
  simp [blk, twice] at h
theorem str_no {a b : ByteArray} (h : a ≠ b) : (a.toList == b.toList) = false := by
  refine beq_eq_false_iff_ne.2 fun e => h ?_
  rw [ByteArray.toList_eq, ByteArray.toList_eq] at e
  exact ByteArray.ext (Array.toList_inj.1 e)
theorem mk_eq {s : ByteArray} {l : List UInt8} : (⟨l.toArray⟩ : ByteArray) = s ↔ l = s.data.toList := by
  constructor
  · rintro rfl; simp
  · rintro rfl; cases s; simp
set_option maxHeartbeats 2000000 in
theorem codePoints_any (s : ByteArray) (w : World) (hm : s.size ≤ 1099511627776) (hT : NT w) :
    Calls Tryd.prog 25 #[.string s] w (PtsOut w (sb s)) := by
  by_cases h1 : 40 < s.size
  · have fin := hid (fun w' => PtsOut.no (w := w) (w' := w') (chk_long (S := sb s) (by rw [sb_len]; exact h1)) (by decide))
    have i1 : (40 : Int) < (s.size : Int) := by omega
    go_enter Tryd.func25, Tryd.ntmps25
    go_wp2_with fail
    go_ret2
    exact fin.out _ (Bl.refl _)
  have i1 : ¬ (40 : Int) < (s.size : Int) := by omega
  have hl40 : (sb s).length ≤ 40 := by rw [sb_len]; omega
  have c1 := Decode_any s w hm hT.tab
  unfold DecOut at c1
  cases hd : dec (sb s) with
  | none =>
    have hS : sb s ≠ [] := fun e => by rw [e, dec_nil] at hd; cases hd
    have fin := hid (fun w' => PtsOut.no (w := w) (w' := w') (chk_none hS hl40 hd) (by decide))
    rw [(dec_none_out hd).1, (dec_none_out hd).2] at c1
    have C1 := hid c1
    clear c1 hd hS hl40
    go_enter Tryd.func25, Tryd.ntmps25
    go_wp2_with fail
    refine C1.out.mono ?_
    rintro e w1 ⟨A1, k1, rfl, hs1, hc1, hb1⟩
    go_wp2_with fail
    go_ret2
    exact fin.out _ hb1
  | some l =>
    rw [(dec_some_out hd).1, (dec_some_out hd).2] at c1
    have hok := (dec_iff.1 hd).1
    have hl1 : l.length ≤ 40 := by have := dec_byts hd; omega
    have hbl : blk (sb s) = blk l := by rw [← (dec_iff.1 hd).2]; exact enc_blk hok
    have hbt := trim_two s.data.toList
    rw [← sb_nums, hbl] at hbt
    have f1 := hid (fun (h : blk l = true) w' => PtsOut.no (w := w) (w' := w') (chk_bad (blk_ne (hbl.trans h)) hl40 hd (.inl h)) (by decide))
    have f2 := hid (fun (h : com l = true) w' => PtsOut.no (w := w) (w' := w') (chk_com hl40 hd h) (by decide))
    have f3 := hid (fun (h : blk l = false) (g : com l = false) w' A m c =>
      have hS : sb s ≠ [] := fun e => by
        rw [e, dec_nil] at hd
        obtain rfl := Option.some.inj hd
        exact absurd g (by decide)
      PtsOut.yes (w := w) (w' := w') (A := A) (m := m) (c := c) (chk_good hS hl40 hd h g) (pts_yes (chk_good hS hl40 hd h g) hd))
    have C1 := hid c1
    have HO := hid hok
    have CT := hid (fun w' => Trim_any s w' hm)
    have CC := hid (fun w' (hb : Bl w w') => Contains2_any s w' (by omega) (hT.bl hb))
    have HB := hid hbt
    have HT := hid hT
    clear c1 hd hl40 hok hbl hbt hT
    obtain ⟨n, hn⟩ : ∃ n, n = l.length := ⟨_, rfl⟩
    rw [← hn] at hl1 C1
    clear hn
    have HE := hid (mk_eq (s := s) (l := Lib.trimB s.data.toList 32))
    generalize Lib.trimB s.data.toList 32 = T at *
    obtain ⟨t, ht⟩ : ∃ t : ByteArray, t = ⟨T.toArray⟩ := ⟨_, rfl⟩
    rw [← ht] at CT HE
    clear ht
    generalize Lib.contains s.data.toList [32, 32] = K at *
    go_enter Tryd.func25, Tryd.ntmps25
    go_wp2_with fail
    refine C1.out.mono ?_
    rintro e w1 ⟨A1, k1, rfl, hs1, hc1, hb1⟩
    have HS1 := hid hs1
    clear hs1 C1
    go_wp2_with fail
    refine (CT.out _).mono ?_
    rintro e w2 ⟨rfl, hq2⟩
    have hb2 := hb1.q hq2
    by_cases hts : t = s
    · subst hts
      have hTl := HE.out.1 rfl
      cases K
      · have hbf := hid (show blk l = false by
          cases hb : blk l with
          | false => rfl
          | true => rcases HB.out.1 hb with g | g; exact absurd hTl g; cases g)
        have cC := hid (Contains_any A1 n k1 l w2 (HS1.out.bl hq2.bl) (by omega) HO.out (HT.out.bl hb2).tab)
        go_wp2_with fail
        refine (CC.out _ hb2).mono ?_
        rintro e w3 ⟨rfl, rfl⟩
        cases hco : com l
        · rw [hco] at cC
          have fin := hid (f3.out hbf.out hco)
          clear hco f1 f2 f3
          go_wp2_with fail
          refine cC.out.mono ?_
          rintro e w4 ⟨rfl, hb4⟩
          have hs4 := (HS1.out.bl hq2.bl).bl hb4
          go_wp2_with fail
          go_ret2
          exact fin.out _ _ _ _ hs4 hc1 (hb2.trans hb4)
        · rw [hco] at cC
          have fin := hid (f2.out hco)
          clear hco f1 f2 f3
          go_wp2_with fail
          refine cC.out.mono ?_
          rintro e w4 ⟨rfl, hb4⟩
          go_wp2_with fail
          go_ret2
          exact fin.out _ (hb2.trans hb4)
      · have fin := hid (f1.out (HB.out.2 (.inr rfl)))
        clear f1 f2 f3
        go_wp2_with fail
        refine (CC.out _ hb2).mono ?_
        rintro e w3 ⟨rfl, rfl⟩
        go_wp2_with fail
        go_ret2
        exact fin.out _ hb2
    · have fin := hid (f1.out (HB.out.2 (.inl fun e => hts (HE.out.2 e))))
      have te := str_no hts
      clear f1 f2 f3
      go_wp2_with fail
      go_ret2
      exact fin.out _ hb2
end Go.Proofs.YtjbkpiimjkekgaaDoor.Name
