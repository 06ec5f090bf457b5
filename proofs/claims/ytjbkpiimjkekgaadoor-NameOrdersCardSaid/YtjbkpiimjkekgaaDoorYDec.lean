/- Contract of glyph: Decode, a range over the string. -/
import Derived.Test.YtjbkpiimjkekgaaDoorYRef7
import Derived.Test.YtjbkpiimjkekgaaDoorYUtf8
import Derived.Test.YtjbkpiimjkekgaaDoorYTab
namespace Go.Proofs.YtjbkpiimjkekgaaDoor.Glyph
open Go.RowKit
open Go.Proofs.YtjbkpiimjkekgaaDoor.Wire
set_option linter.unusedVariables false

theorem Ow.turn {w : World} {B n c g p : Nat} {k : IntKind} {A : Option Addr} {xs : List Int} {e : TypeId} {s : ByteArray} (h : Ow w B e k A n c xs) (hg : g < B) : Ow (World.turn w g s p) B e k A n c xs := by
  refine ⟨h.1, ?_⟩
  rcases h.2 with h0 | ⟨b, cap, cur, hv, hb, hh, rest⟩
  · exact .inl h0
  · exact .inr ⟨b, cap, cur, hv, hb, (turn_other (by omega)).trans hh, rest⟩
theorem dec_rune_no {s : ByteArray} {L : List Int} {p : Nat} (h : okl L) (e : enc L = (sb s).take p) (hp : p < s.size) (hr : ¬ 0 ≤ scr ((Utf8.decode s p).1 : Int)) : dec (sb s) = none := by
  rw [← List.take_append_drop p (sb s), ← e]
  refine dec_stop h ?_ fun r u hr' ht => hr ?_
  · intro h0
    have := congrArg List.length h0
    rw [List.length_drop, sb_len, List.length_nil] at this
    omega
  · rw [decode_fit hr' ht]
    have := scr_range hr'
    rw [Int.toNat_of_nonneg (by omega)]
    exact hr'
theorem dec_rune_yes {s : ByteArray} {L : List Int} {p : Nat} (h : okl L) (e : enc L = (sb s).take p) (hp : p < s.size) (hr : 0 ≤ scr ((Utf8.decode s p).1 : Int)) :
    okl (L ++ [((Utf8.decode s p).1 : Int)]) ∧ enc (L ++ [((Utf8.decode s p).1 : Int)]) = (sb s).take (p + (Utf8.decode s p).2) ∧ p + (Utf8.decode s p).2 ≤ s.size := by
  obtain ⟨h1, h2⟩ := decode_inv hp hr
  have hl := congrArg List.length h1
  rw [List.length_drop, sb_len, List.length_append, List.length_drop, sb_len, ← h2] at hl
  have hpos := decode_pos s p
  refine ⟨okl_snoc.2 ⟨h, hr⟩, ?_, by omega⟩
  rw [enc_snoc, e, List.take_add, h1, h2, List.take_left]

theorem turn_bl {w wr : World} {g p : Nat} {s : ByteArray} (h : Bl w wr) (hg : w.heap.size ≤ g) : Bl w (World.turn wr g s p) := Below.trans h (turn_below hg)

set_option maxHeartbeats 1000000 in
theorem Decode_any (s : ByteArray) (w : World) (hm : s.size ≤ 1099511627776) (hT : Tab w) :
    Calls Tryd.prog 23 #[.string s] w (DecOut w s) := by
  have cS := hid (fun (r : Int) w' (hb : Bl w w') (h0 : -2147483648 ≤ r) (h1 : r ≤ 2147483647) => scriptOf_any r w' h0 h1 (hT.bl hb))
  clear hT
  go_enter Tryd.func23, Tryd.ntmps23
  go_wp2_with fail
  obtain ⟨g, hg⟩ : ∃ g, g = w.heap.size := ⟨_, rfl⟩
  rw [← hg]
  have HG := hid hg
  clear hg
  go_loopw [2, 5] (fun l _ wr => ∃ (A' : Option Addr) (m c' p : Nat) (L : List Int), l = .slice A' m c' ∧ wr.heap[g]? = some (.stringIter s p) ∧ p ≤ s.size ∧ m ≤ p ∧ Hid (okl L) ∧ Hid (enc L = (sb s).take p) ∧ Ow wr (g + 1) 3 .i64 A' m c' L ∧ Bl w wr ∧ g + 1 ≤ wr.heap.size) (fun _ _ wr => s.size - wr.iterPos g)
  case atStart => exact ⟨none, 0, 0, 0, [], rfl, by rw [HG.out]; exact World.iter_heap w s 0, by omega, by omega, hid okl_nil, hid rfl, Ow.none_ _ _ _ _, (Bl.refl w).alloc _, by rw [HG.out]; show w.heap.size + 1 ≤ (w.heap.push _).size; simp⟩
  case round =>
    obtain ⟨A', m, c', p, L, rfl, hi, hp, hmp, hL, he, ho, hb, hsz⟩ := hrel
    have hip : wr.iterPos g = p := by simp [World.iterPos, hi]
    by_cases hlt : p < s.size
    · have hn : ∀ ty, (Instr.next (.pointer (some ⟨g, 0, none⟩)) true ty).run Tryd.prog wr = .ok (.tuple #[.bool true, .int .i64 p, .int .i32 (Utf8.decode s p).1]) (World.turn wr g s (p + (Utf8.decode s p).2)) := fun ty => run_next_at wr g s p ty hi hlt
      have f1 := hid (fun h => dec_rune_no hL.out he.out hlt h)
      have f2 := hid (fun h => dec_rune_yes hL.out he.out hlt h)
      have hrl := decode_le s p
      have hps := decode_pos s p
      clear hi
      generalize hd : Utf8.decode s p = D at *
      obtain ⟨r, k⟩ := D
      simp only at hn f1 f2 hrl hps
      have ho2 := hid (Ow.turn (s := s) (p := p + k) ho (Nat.lt_succ_self g))
      have hb2 := hid (turn_bl (g := g) (s := s) (p := p + k) hb (by rw [HG.out]; exact Nat.le_refl _))
      have hi2 := hid (turn_at (w := wr) (s := s) (p := p + k) (show g < wr.heap.size by omega))
      have hsz2 : g + 1 ≤ (World.turn wr g s (p + k)).heap.size := by rw [turn_size]; exact hsz
      have hr31 : (r : Int) ≤ 2147483647 := by omega
      generalize hwt : World.turn wr g s (p + k) = wt at *
      clear hwt ho hb
      have cS1 := hid (cS.out (r : Int) wt hb2.out (by omega) hr31)
      by_cases hs : scr (r : Int) < 0
      · have fin := hid (f1.out (by omega))
        clear f1 f2
        generalize scr (r : Int) = S at *
        go_wp2_with fail
        refine cS1.out.mono ?_
        rintro e w5 ⟨rfl, hb5⟩
        go_wp2_with fail
        go_ret2
        exact DecOut.no fin.out (hb2.out.trans hb5)
      · obtain ⟨q1, q2, q3⟩ := f2.out (by omega)
        have Q1 := hid q1
        have Q2 := hid q2
        have hml := hid ho2.out.len
        clear f1 f2 q1 q2
        generalize scr (r : Int) = S at *
        go_wp2_with fail
        refine cS1.out.mono ?_
        rintro e w5 ⟨rfl, hb5⟩
        have ho5 := hid (ho2.out.below hb5)
        have hi5 := hid ((hb5.block g (by omega)).trans hi2.out)
        have hb25 := hid (hb2.out.trans hb5)
        have hsz5 : g + 1 ≤ w5.heap.size := Nat.le_trans hsz2 hb5.size
        clear ho2 hb2 hi2 hb5
        go_wp2_with (at_builtin; refine wpList_app_own _ rfl (.tmp 14) (.tmp 17) _ rfl elI rfl (ho5.out.alloc _) rfl (Sh.one _ _ _ _) (by omega) (by omega) (by simp; omega) ?_; intro A2 c2 w4 ho4 hb4)
        have hb34 : Below (g + 1) w5 w4 := Below.trans ((Below.refl _ w5).alloc hsz5 _) hb4
        have e4 : w4.iterPos g = p + k := by simp [World.iterPos, (hb34.block g (Nat.lt_succ_self g)).trans hi5.out]
        go_roundw
        case rel => exact ⟨A2, m + 1, c2, p + k, L ++ [(r : Int)], rfl, (hb34.block g (Nat.lt_succ_self g)).trans hi5.out, q3, by omega, Q1, Q2, ho4, Below.trans hb25.out (hb34.mono (by have := HG.out; omega)), Nat.le_trans hsz5 hb34.size⟩
        case measure => rw [e4, hip]; omega
    · obtain rfl : s.size = p := by omega
      have hn : ∀ ty, (Instr.next (.pointer (some ⟨g, 0, none⟩)) true ty).run Tryd.prog wr = .ok (.tuple #[.bool false]) wr := fun ty => run_next_done wr g s s.size ty hi (by omega)
      clear hi
      go_wp2_with fail
      go_ret2
      have := dec_end hL.out he.out rfl
      exact DecOut.yes this (ho.sh) (ow_cap ho) hb
end Go.Proofs.YtjbkpiimjkekgaaDoor.Glyph
