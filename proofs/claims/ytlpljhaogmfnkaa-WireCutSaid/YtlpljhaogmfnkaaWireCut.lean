/- WireCut returns true for every integer, string, list of integers and number: an encoding without its last bytes is decoded with ErrShort. No condition. -/
import Derived.Test.YtlpljhaogmfnkaaWOut
import Derived.Test.YtlpljhaogmfnkaaWArgs
namespace Go.Proofs.Ytlpljhaogmfnkaa.WireCut
open Go.ChangeShapes Go.WideShapes Go.ChangeAt Go.RowKit
open Go.ChangeMaps (open_string shut_string)
open Go.Proofs.Ytlpljhaogmfnkaa.Wire
set_option linter.unusedVariables false
set_option linter.unusedSimpArgs false

theorem text_cut {s : List Int} {m : Int} {k : Nat} (h1 : (s.length : Int) ≤ 9223372036854775807) (hm : (s.length : Int) ≤ m) (hk : k < (enc s.length ++ s).length) : tex ((enc s.length ++ s).take k) m = ([], 0, 5) := by
  rw [List.length_append] at hk
  by_cases h : k < (enc s.length).length
  · have e : (enc s.length ++ s).take k = (enc s.length).take k := List.take_append_of_le_length (by omega)
    rw [e]
    have hd := dec_cut (n := s.length) (by omega) h1 h
    have hde : de ((enc (s.length : Int)).take k) = 5 := by unfold de; rw [hd]
    have hc := c3 (cnt_e (b := (enc (s.length : Int)).take k) (m := m) (by rw [hde]; decide))
    rw [tex_e (by rw [← hc.2.2, hde]; decide), ← hc.2.2, hde]
  · obtain ⟨j, rfl⟩ : ∃ j, k = (enc s.length).length + j := ⟨k - (enc s.length).length, by omega⟩
    have e : (enc s.length ++ s).take ((enc s.length).length + j) = enc s.length ++ s.take j := by rw [List.take_length_add_append]
    rw [e]
    have hc := c3 (cnt_enc (n := s.length) (m := m) (s.take j) (by omega) h1 hm)
    exact tex_s hc.2.2.symm (by rw [← hc.1, ← hc.2.1]; simp only [List.length_append, List.length_take]; omega)

theorem lgo_cut (pre : List Int) : ∀ (l acc : List Int), (∀ x ∈ l, -9223372036854775808 ≤ x ∧ x ≤ 9223372036854775807) → ∀ (more : List Int) (k : Nat), k < (encs l).length → ∀ b, b = pre ++ more ++ (encs l).take k →
    lgo l.length b acc ((pre ++ more).length : Nat) = ([], 0, 5)
  | [], acc => fun _ more k hk => by simp [encs] at hk
  | x :: l, acc => fun hx more k hk b hb => by
    have h1 := hx x (by simp)
    rw [encs_cons] at hk hb
    rw [List.length_append] at hk
    by_cases h : k < (enc x).length
    · rw [List.take_append_of_le_length (by omega)] at hb
      have hdrop : b.drop (pre ++ more).length = (enc x).take k := by rw [hb, List.drop_left' rfl]
      have hd := dec_cut h1.1 h1.2 h
      have hde : de (b.drop (pre ++ more).length) = 5 := by rw [hdrop]; unfold de; rw [hd]
      rw [List.length_cons, lgo_e (by rw [Int.toNat_natCast, hde]; decide), Int.toNat_natCast, hde]
    · obtain ⟨j, rfl⟩ : ∃ j, k = (enc x).length + j := ⟨k - (enc x).length, by omega⟩
      rw [List.take_length_add_append] at hb
      have hdrop : b.drop (pre ++ more).length = enc x ++ (encs l).take j := by rw [hb, List.drop_left' rfl]
      have hd := dec_enc (n := x) ((encs l).take j) h1.1 h1.2
      have hd3 : x = dn (b.drop (pre ++ more).length) ∧ ((enc x).length : Int) = du (b.drop (pre ++ more).length) ∧ 0 = de (b.drop (pre ++ more).length) := by
        rw [hdrop]; unfold dn du de; rw [hd]; exact ⟨rfl, rfl, rfl⟩
      rw [List.length_cons, lgo_k (by rw [Int.toNat_natCast, ← hd3.2.2]), Int.toNat_natCast, ← hd3.1, ← hd3.2.1]
      have ih := lgo_cut pre l (acc ++ [x]) (fun y hy => hx y (by simp [hy])) (more ++ enc x) j (by omega) b (by rw [hb]; simp [List.append_assoc])
      have e : (((pre ++ more).length : Nat) : Int) + ((enc x).length : Int) = (((pre ++ (more ++ enc x)).length : Nat) : Int) := by simp only [List.length_append]; omega
      rw [e, ih]
theorem list_cut {l : List Int} {m : Int} {k : Nat} (hl : ∀ x ∈ l, -9223372036854775808 ≤ x ∧ x ≤ 9223372036854775807) (h1 : (l.length : Int) ≤ 9223372036854775807) (hm : (l.length : Int) ≤ m) (hk : k < (enc l.length ++ encs l).length) :
    lis ((enc l.length ++ encs l).take k) m = ([], 0, 5) := by
  rw [List.length_append] at hk
  by_cases h : k < (enc l.length).length
  · have e : (enc l.length ++ encs l).take k = (enc l.length).take k := List.take_append_of_le_length (by omega)
    rw [e]
    have hd := dec_cut (n := l.length) (by omega) h1 h
    have hde : de ((enc (l.length : Int)).take k) = 5 := by unfold de; rw [hd]
    have hc := c3 (cnt_e (b := (enc (l.length : Int)).take k) (m := m) (by rw [hde]; decide))
    rw [lis_e (by rw [← hc.2.2, hde]; decide), ← hc.2.2, hde]
  · obtain ⟨j, rfl⟩ : ∃ j, k = (enc l.length).length + j := ⟨k - (enc l.length).length, by omega⟩
    have e : (enc l.length ++ encs l).take ((enc l.length).length + j) = enc l.length ++ (encs l).take j := by rw [List.take_length_add_append]
    rw [e]
    have hc := c3 (cnt_enc (n := l.length) (m := m) ((encs l).take j) (by omega) h1 hm)
    rw [lis_k hc.2.2.symm, ← hc.1, ← hc.2.1, Int.toNat_natCast]
    have := lgo_cut (enc l.length) l [] hl [] j (by omega) _ (by rw [List.append_nil])
    rwa [List.append_nil] at this

theorem int_at' (L : List Int) (j c : Nat) (A : Option Addr) (w : World) (hj : j < L.length) (hL : L.length ≤ 100000) (h : Sh w w.heap.size .u8 A L.length L) (hc : L.length ≤ c) (hd : dec (L.take j) = (0, 0, 5)) (hb : byts (L.take j)) :
    Calls Try.prog 11 #[.slice A j c] w fun e w' => e = .returned (.tuple #[.int .i64 0, .int .i64 0, .int .i64 5]) ∧ w = w' := by
  have := Int_any A j c (L.take j) w _ (h.take (by omega)) hb (by omega) (by omega)
  obtain ⟨h1, h2, h3⟩ := d3 hd
  rwa [← h1, ← h2, ← h3] at this
theorem text_at' (L : List Int) (j c : Nat) (m : Int) (A : Option Addr) (w : World) (hj : j < L.length) (hL : L.length ≤ 100000) (h : Sh w w.heap.size .u8 A L.length L) (hc : L.length ≤ c) (hd : tex (L.take j) m = ([], 0, 5)) (hb : byts (L.take j)) :
    Calls Try.prog 17 #[.slice A j c, .int .i64 m] w fun e w' => e = .returned (.tuple #[.string (strOfNums []), .int .i64 0, .int .i64 5]) ∧ w = w' := by
  have := Text_any A j c (L.take j) m w _ (h.take (by omega)) hb (by omega) (by omega)
  obtain ⟨h1, h2, h3⟩ := Wire.t3 hd
  rwa [← h1, ← h2, ← h3] at this
theorem list_at' (L : List Int) (j c : Nat) (m : Int) (A : Option Addr) (w : World) (hj : j < L.length) (hL : L.length ≤ 100000) (h : Sh w w.heap.size .u8 A L.length L) (hc : L.length ≤ c) (hd : lis (L.take j) m = ([], 0, 5)) (hb : byts (L.take j)) :
    Calls Try.prog 21 #[.slice A j c, .int .i64 m] w fun e w' => ∃ A' n' c', e = .returned (.tuple #[.slice A' n' c', .int .i64 0, .int .i64 5]) ∧ Bl w w' :=
  (List_any A j c (L.take j) m w (h.take (by omega)) hb (by omega) (by omega) (by omega)).mono fun e w' ⟨A', n', c', he, ho, hbl⟩ => by
    obtain ⟨h1, h2, h3⟩ := l3 hd
    rw [← h2, ← h3] at he
    exact ⟨A', n', c', he, hbl⟩

set_option maxRecDepth 100000 in
set_option maxHeartbeats 2000000 in
theorem walk (a0 : Int) (a1 : ByteArray) (a2 : Option Addr) (len2 cap2 : Nat) (z2 : List Int) (a3 : Int) (w : World) (w0 : (Lit.int .i64 a0).wf = true) (s2 : Sh w w.heap.size .i64 a2 len2 z2) (l2 : len2 ≤ cap2) (w2 : ∀ n ∈ z2, (Lit.int .i64 n).wf = true) (w3 : (Lit.int .u8 a3).wf = true) :
    Calls Try.prog 8 #[.int .i64 a0, .string a1, .slice a2 len2 cap2, .int .u8 a3] w fun e w' => e = .returned (.bool true) ∧ Bl w w' := by
  have hN := wf_i64 w0
  have hK := wf_u8 w3
  have hok : oks z2 := fun x hx => wf_i64 (w2 x hx)
  have hl2 := s2.len
  clear w0 w2 w3
  by_cases hs : 1000 < a1.size
  · go_enter Try.func8, Try.ntmps8
    go_wp2_with fail
    refine (awake_any _).mono ?_
    rintro e wz ⟨rfl, hz⟩
    go_wp2_with fail
    go_ret
    exact ⟨rfl, hz⟩
  · by_cases hl : 200 < len2
    · go_enter Try.func8, Try.ntmps8
      go_wp2_with fail
      refine (awake_any _).mono ?_
      rintro e wz ⟨rfl, hz⟩
      go_wp2_with fail
      go_ret
      exact ⟨rfl, hz⟩
    · obtain ⟨k, rfl⟩ := Int.eq_ofNat_of_zero_le hK.1
      have hn1 : a1.size ≤ 1000 := by omega
      have hn2 : len2 ≤ 200 := by omega
      have p1 := hid (putInt none 0 0 [] a0 w (Sh.nil _ _ _ _) hN.1 hN.2 (Nat.le_refl _) (by omega))
      have p2 := hid (fun w1 => putText none 0 0 [] a1 w1 (Sh.nil _ _ _ _) (Nat.le_refl _) (by omega))
      have p3 := hid (fun w1 (h : Bl w w1) => putList none 0 0 [] a2 len2 cap2 z2 w1 (Sh.nil _ _ _ _) (s2.bl h) hok (Nat.le_refl _) (by omega))
      rw [List.nil_append] at p1 p2 p3
      have hsl : ((sb a1).length : Int) = (a1.size : Int) := by rw [sb_len]
      have b1 := enc_len a0
      have b2 := enc_len a1.size
      have b3 := enc_len len2
      have be := encs_len z2
      have f1 : Hid (∀ j, j < (enc a0).length → dec ((enc a0).take j) = (0, 0, 5) ∧ byts ((enc a0).take j)) := hid (fun j hj => ⟨dec_cut hN.1 hN.2 hj, byts_take (enc_byts hN.1 hN.2) _⟩)
      have f2 : Hid (∀ j, j < (enc a1.size ++ sb a1).length → tex ((enc a1.size ++ sb a1).take j) a1.size = ([], 0, 5) ∧ byts ((enc a1.size ++ sb a1).take j)) := hid (fun j hj => by
        rw [← hsl] at hj ⊢
        exact ⟨text_cut (by omega) (by omega) hj, byts_take (byts_app (enc_byts (by omega) (by omega)) (sb_byts _)) _⟩)
      have f3 : Hid (∀ j, j < (enc len2 ++ encs z2).length → lis ((enc len2 ++ encs z2).take j) len2 = ([], 0, 5) ∧ byts ((enc len2 ++ encs z2).take j)) := hid (fun j hj => by
        rw [← hl2] at hj ⊢
        exact ⟨list_cut hok (by omega) (by omega) hj, byts_take (byts_app (enc_byts (by omega) (by omega)) (encs_byts hok)) _⟩)
      have g1 : 0 < (enc a0).length := by omega
      have g2 : 0 < (enc a1.size ++ sb a1).length := by rw [List.length_append]; omega
      have g3 : 0 < (enc len2 ++ encs z2).length := by rw [List.length_append]; omega
      have g1' : (enc a0).length ≤ 100000 := by omega
      have g2' : (enc a1.size ++ sb a1).length ≤ 100000 := by rw [List.length_append, sb_len]; omega
      have g3' : (enc len2 ++ encs z2).length ≤ 100000 := by rw [List.length_append]; omega
      clear hsl b1 b2 b3 be hl2 hok hN
      generalize enc a0 = L1 at *
      generalize enc a1.size ++ sb a1 = L2 at *
      generalize enc len2 ++ encs z2 = L3 at *
      have m1 := Nat.mod_lt k g1
      have m2 := Nat.mod_lt k g2
      have m3 := Nat.mod_lt k g3
      have r1 : (k : Int) % (L1.length : Int) = ((k % L1.length : Nat) : Int) := rfl
      have r2 : (k : Int) % (L2.length : Int) = ((k % L2.length : Nat) : Int) := rfl
      have r3 : (k : Int) % (L3.length : Int) = ((k % L3.length : Nat) : Int) := rfl
      generalize k % L1.length = j1 at *
      generalize k % L2.length = j2 at *
      generalize k % L3.length = j3 at *
      have t1 : ((L1.length : Int) == 0) = false := beq_eq_false_iff_ne.2 (by omega)
      have t2 : ((L2.length : Int) == 0) = false := beq_eq_false_iff_ne.2 (by omega)
      have t3 : ((L3.length : Int) == 0) = false := beq_eq_false_iff_ne.2 (by omega)
      have v1 := hid (fun w1 A c (h : Sh w1 w1.heap.size .u8 A L1.length L1) (hc : L1.length ≤ c) => int_at' L1 j1 c A w1 m1 g1' h hc (f1.out j1 m1).1 (f1.out j1 m1).2)
      have v2 := hid (fun w1 A c (h : Sh w1 w1.heap.size .u8 A L2.length L2) (hc : L2.length ≤ c) => text_at' L2 j2 c a1.size A w1 m2 g2' h hc (f2.out j2 m2).1 (f2.out j2 m2).2)
      have v3 := hid (fun w1 A c (h : Sh w1 w1.heap.size .u8 A L3.length L3) (hc : L3.length ≤ c) => list_at' L3 j3 c len2 A w1 m3 g3' h hc (f3.out j3 m3).1 (f3.out j3 m3).2)
      clear f1 f2 f3
      go_enter Try.func8, Try.ntmps8
      go_wp2_with fail
      refine p1.out.mono ?_
      rintro e wa ⟨A1, c1, rfl, hs1, hc1, hb1⟩
      go_wp2_with fail
      refine (p2.out _).mono ?_
      rintro e wb ⟨A2, c2, rfl, hs2, hc2, hb2'⟩
      have hs1b := hs1.bl hb2'
      have hb2 := hb1.trans hb2'
      clear hs1 hb1 hb2'
      go_wp2_with fail
      refine (p3.out _ hb2).mono ?_
      rintro e wc ⟨A3, c3, rfl, hs3, hc3, hb3'⟩
      have q1 := hs1b.bl hb3'
      have q2 := hs2.bl hb3'
      have hb3 := hb2.trans hb3'
      clear hs1b hs2 hb2 hb3'
      go_wp2_with fail
      refine (v1.out _ _ _ (q1) hc1).mono ?_
      rintro e w' ⟨rfl, rfl⟩
      go_wp2_with fail
      refine (v2.out _ _ _ (q2) hc2).mono ?_
      rintro e w' ⟨rfl, rfl⟩
      go_wp2_with fail
      refine (v3.out _ _ _ (hs3) hc3).mono ?_
      rintro e wd ⟨A4, n4, c4, rfl, hb4⟩
      have hb5 := hb3.trans hb4
      clear hb4 hb3
      go_wp2_with fail
      refine (awake_any _).mono ?_
      rintro e wz ⟨rfl, hz⟩
      have hend := hb5.trans hz
      clear hb5 hz
      go_wp2_with fail
      go_ret
      exact ⟨rfl, hend⟩

set_option maxRecDepth 100000 in
theorem lifted (os : Os) (started : os.Started) (H : Type) (enc : TypeId × Value → H) :
    ReturnsInHanded {} Try.checked os 8 .any (Rows.wireCutSpec.pre6 enc Try.prog Try.f8 Rows.wireCutRow.domain false) (Rows.wireCutSpec.post enc Try.prog Try.f8 false true false false) := by
  refine returnsInHanded_of_change (C := Try.checked) own started (by kernel_rfl) Try.func8
    (ChangeSpec.witness6 (enc := enc) (C := Try.checked) false ⟨#[], #[.int .i64 0, .string ByteArray.empty, .slice none 0 0, .int .u8 0], []⟩ 8 (by kernel_rfl) (by kernel_rfl) (by kernel_rfl) (by kernel_rfl)) ?_
  intro W base args ds gs before hval0 hW _ _
  have hval : ∀ (j : Nat) t v, Try.f8.params[j]? = some t → args[j]? = some v → Value.okWide Try.prog W .any base t v := hval0
  have hW' := hW
  obtain ⟨p, q, hA0, hV, rfl, hfz, hnd⟩ := hW
  have hA : DataW.TrodAll enc Try.prog W 0 (fun _ => true) true Try.f8.params.toList args.toList ds p := hA0
  rw [Try.params8] at hA hval
  obtain ⟨v0, vs0, d0, ds0, p0, q0, hargs, rfl, rfl, h0, r0⟩ := trodAll_cons hA
  obtain ⟨v1, vs1, d1, ds1, p1, q1, rfl, rfl, rfl, h1, r1⟩ := trodAll_cons r0
  obtain ⟨v2, vs2, d2, ds2, p2, q2, rfl, rfl, rfl, h2, r2⟩ := trodAll_cons r1
  obtain ⟨v3, vs3, d3, ds3, p3, q3, rfl, rfl, rfl, h3, r3⟩ := trodAll_cons r2
  obtain ⟨rfl, rfl, rfl⟩ := trodAll_nil r3
  obtain rfl : args = #[v0, v1, v2, v3] := by cases args; simp_all
  obtain ⟨rfl, rfl⟩ := trodVars_none hV
  obtain ⟨a0, rfl, rfl, rfl, w0⟩ := open_int Try.underlying3 (hval 0 3 v0 rfl rfl) h0
  obtain ⟨a1, rfl, rfl, rfl, w1⟩ := open_string Try.underlying9 (hval 1 9 v1 rfl rfl) h1
  have k2 := h2
  obtain ⟨a2, len2, cap2, z2, rfl, l2, m2, n2, s2, w2, f2, lt2⟩ := open_row Try.underlying34 Try.underlying3 (by kernel_rfl) (hval 2 34 v2 rfl rfl) h2
  obtain ⟨a3, rfl, rfl, rfl, w3⟩ := open_int Try.underlying5 (hval 3 5 v3 rfl rfl) h3
  clear hA0 hval0
  refine (walk a0 a1 a2 len2 cap2 (z2.take len2) a3 W w0 s2 l2 (fun n hn => w2 n (List.mem_of_mem_take hn)) w3).mono fun e W' ⟨he, bel⟩ => ?_
  subst he
  exact ⟨_, rfl, _, _, _, [], _, [], hW', trodAll_mk1 (shut_bool Try.underlying4 _), (trodAll_cons_mk (shut_int Try.underlying3 w0) (trodAll_cons_mk (shut_string Try.underlying9 w1) (trodAll_cons_mk (Below.trod laidOut (by kernel_rfl) (of_decide_eq_true (by kernel_rfl)) k2 bel lt2) (trodAll_cons_mk (shut_int Try.underlying5 w3) trodAll_mk0)))), rfl, Below.frame bel _, fun h => by cases h⟩

theorem holds : Rows.WireCutSaid :=
  OpenClaim.holds_of_wide 8 Try.f8 rfl rfl rfl rfl rfl rfl rfl ⟨rfl, rfl, rfl, rfl, rfl⟩ rfl rfl rfl rfl rfl (by kernel_rfl) Try.func8 (by kernel_rfl)
    (of_decide_eq_true (by kernel_rfl)) (by unfold Func.isWrapper; first | (rw [if_pos (by decide +kernel)]; kernel_rfl) | (rw [if_neg (by decide +kernel)]; exact ⟨rfl, rfl⟩))
    (fun os started H enc _ => lifted os started H enc)
end Go.Proofs.Ytlpljhaogmfnkaa.WireCut
