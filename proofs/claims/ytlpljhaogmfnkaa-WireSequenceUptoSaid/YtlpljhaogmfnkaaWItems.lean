/- The argument of WireSequence opened: a list of values of three kinds, each with what it holds; and their encodings, one after the other. -/
import Derived.Test.YtlpljhaogmfnkaaWOut
import Derived.Test.YtlpljhaogmfnkaaWArgs
import Derived.Deep.Slices
namespace Go.Proofs.Ytlpljhaogmfnkaa.Wire
open Go.ChangeShapes Go.WideShapes Go.ChangeAt Go.RowKit Go.Deep
set_option linter.unusedVariables false

/-- one value: its kind, integer, string and list -/
structure Itm where
  kind : Int
  num : Int
  str : ByteArray
  ints : List Int

def encI (x : Itm) : List Int := if x.kind = 0 then enc x.num else if x.kind = 1 then enc x.str.size ++ sb x.str else enc x.ints.length ++ encs x.ints
def encA (l : List Itm) : List Int := l.flatMap encI
theorem encA_cons (x : Itm) (l : List Itm) : encA (x :: l) = encI x ++ encA l := by simp [encA]
theorem encA_snoc {l : List Itm} {i : Nat} (h : i < l.length) : encA (l.take (i + 1)) = encA (l.take i) ++ encI l[i] := by
  unfold encA
  rw [List.take_succ_eq_append_getElem h, List.flatMap_append]; simp
theorem encA_drop {l : List Itm} {i : Nat} (h : i < l.length) : encA (l.drop i) = encI l[i] ++ encA (l.drop (i + 1)) := by
  rw [List.drop_eq_getElem_cons h, encA_cons]

/-- a value that fits: its integers are ints, and it holds at most 1048576 bytes and integers -/
def Fit (x : Itm) : Prop := -9223372036854775808 ≤ x.num ∧ x.num ≤ 9223372036854775807 ∧ -9223372036854775808 ≤ x.kind ∧ x.kind ≤ 9223372036854775807 ∧ x.str.size ≤ 1048576 ∧ x.ints.length ≤ 1048576 ∧ oks x.ints
theorem encI_len {x : Itm} (h : Fit x) : (encI x).length ≤ 11000000 := by
  obtain ⟨_, _, _, _, h5, h6, _⟩ := h
  have e1 := enc_len10 x.num
  have e2 := enc_len10 x.str.size
  have e3 := enc_len10 x.ints.length
  have e4 := encs_len x.ints
  unfold encI
  split
  · omega
  · split
    · rw [List.length_append, sb_len]; omega
    · rw [List.length_append]; omega
theorem encI_byts {x : Itm} (h : Fit x) : byts (encI x) := by
  obtain ⟨h1, h2, _, _, h5, h6, h7⟩ := h
  unfold encI
  split
  · exact enc_byts h1 h2
  · split
    · exact byts_app (enc_byts (by omega) (by omega)) (sb_byts _)
    · exact byts_app (enc_byts (by omega) (by omega)) (encs_byts h7)
theorem encA_byts {l : List Itm} (h : ∀ x ∈ l, Fit x) : byts (encA l) := by
  intro y hy
  obtain ⟨x, hx, hxy⟩ := List.mem_flatMap.1 hy
  exact encI_byts (h x hx) y hxy
theorem encA_len : ∀ {l : List Itm}, (∀ x ∈ l, Fit x) → (encA l).length ≤ 11000000 * l.length
  | [], _ => by simp [encA]
  | x :: l, h => by
    have h1 := encI_len (h x (by simp))
    have h2 := encA_len (l := l) (fun y hy => h y (by simp [hy]))
    rw [encA_cons, List.length_append, List.length_cons]; omega

/-- the cells of one value -/
def ItAt (w : World) (B : Nat) (b o : Nat) (x : Itm) : Prop :=
  w.cell? ⟨b, o, none⟩ = some (.int .i64 x.kind) ∧ w.cell? ⟨b, o + 1, none⟩ = some (.int .i64 x.num) ∧ w.cell? ⟨b, o + 2, none⟩ = some (.string x.str) ∧
  ∃ A c, w.cell? ⟨b, o + 3, none⟩ = some (.slice A x.ints.length c) ∧ x.ints.length ≤ c ∧ Sh w B .i64 A x.ints.length x.ints
/-- the slice (A, n) shows the values l, in blocks below B -/
def ShI (w : World) (B : Nat) (A : Option Addr) (n : Nat) (l : List Itm) : Prop :=
  l.length = n ∧ (0 < n → ∃ b o, A = some ⟨b, o, none⟩ ∧ b < B ∧ ∀ i (h : i < l.length), ItAt w B b (o + i * 4) l[i])
theorem ShI.bl {w w' : World} {A : Option Addr} {n : Nat} {l : List Itm} (h : ShI w w.heap.size A n l) (hb : Bl w w') : ShI w' w.heap.size A n l :=
  ⟨h.1, fun hn => by
    obtain ⟨b, o, e, hlt, hi⟩ := h.2 hn
    refine ⟨b, o, e, hlt, fun i hil => ?_⟩
    obtain ⟨h0, h1, h2, A', c, h3, hc, hs⟩ := hi i hil
    have hk : ∀ j, w'.cell? ⟨b, j, none⟩ = w.cell? ⟨b, j, none⟩ := fun j => Below.cell hb (p := ⟨b, j, none⟩) hlt
    exact ⟨(hk _).trans h0, (hk _).trans h1, (hk _).trans h2, A', c, (hk _).trans h3, hc, hs.below hb⟩⟩

section
variable {H : Type} {enc : TypeId × Value → H} {W : World}

/-- the opened elements: each is an aggregate whose parts are known -/
theorem open_item {n : Nat} {a : Addr} {cs : List Value} {y : DataW H × List MemPlace} (hc : W.cells? 0 a 4 = some cs) (h : DataW.trod enc Try.prog W 0 (fun _ => true) true n 42 cs = some y) :
    ∃ (x : Itm) (A : Option Addr) (c : Nat) (d : DataW H), W.cell? (a.add 0) = some (.int .i64 x.kind) ∧ W.cell? (a.add 1) = some (.int .i64 x.num) ∧ W.cell? (a.add 2) = some (.string x.str) ∧ W.cell? (a.add 3) = some (.slice A x.ints.length c) ∧
      x.ints.length ≤ c ∧ Sh W W.heap.size .i64 A x.ints.length x.ints ∧ (-9223372036854775808 ≤ x.num ∧ x.num ≤ 9223372036854775807) ∧ (-9223372036854775808 ≤ x.kind ∧ x.kind ≤ 9223372036854775807) ∧ oks x.ints ∧
      y.1 = .agg [.lit (.int .i64 x.kind), .lit (.int .i64 x.num), .lit (.string x.str.data.toList), d] ∧ x.ints.length ≤ Rows.uptoBulk d := by
  obtain ⟨_, hlen, hat⟩ := World.cells?_some hc
  obtain ⟨xs, m, hn, hy, hl4, hsz, hf⟩ := DataW.trod_struct Try.underlying42 h
  match cs, hlen with
  | [c0, c1, c2, c3], _ =>
    have k3 : Try.prog.cellsOf 3 = 1 := by kernel_rfl
    have k9 : Try.prog.cellsOf 9 = 1 := by kernel_rfl
    have k34 : Try.prog.cellsOf 34 = 1 := by kernel_rfl
    match xs, hsz with
    | [x0, x1, x2, x3], _ =>
      have g0 : DataW.trod enc Try.prog W 0 (fun _ => true) true m 3 (([c0, c1, c2, c3].drop 0).take (Try.prog.cellsOf 3)) = [x0, x1, x2, x3][0]? := hf 0 _ rfl
      replace g0 : DataW.trod enc Try.prog W 0 (fun _ => true) true m 3 [c0] = some x0 := by rw [k3] at g0; exact g0
      have g1 : DataW.trod enc Try.prog W 0 (fun _ => true) true m 3 (([c0, c1, c2, c3].drop 1).take (Try.prog.cellsOf 3)) = [x0, x1, x2, x3][1]? := hf 1 _ rfl
      replace g1 : DataW.trod enc Try.prog W 0 (fun _ => true) true m 3 [c1] = some x1 := by rw [k3] at g1; exact g1
      have g2 : DataW.trod enc Try.prog W 0 (fun _ => true) true m 9 (([c0, c1, c2, c3].drop 2).take (Try.prog.cellsOf 9)) = [x0, x1, x2, x3][2]? := hf 2 _ rfl
      replace g2 : DataW.trod enc Try.prog W 0 (fun _ => true) true m 9 [c2] = some x2 := by rw [k9] at g2; exact g2
      have g3 : DataW.trod enc Try.prog W 0 (fun _ => true) true m 34 (([c0, c1, c2, c3].drop 3).take (Try.prog.cellsOf 34)) = [x0, x1, x2, x3][3]? := hf 3 _ rfl
      replace g3 : DataW.trod enc Try.prog W 0 (fun _ => true) true m 34 [c3] = some x3 := by rw [k34] at g3; exact g3
      obtain ⟨v0, e0, r0, w0⟩ := DataW.trod_int Try.underlying3 g0
      obtain ⟨v1, e1, r1, w1⟩ := DataW.trod_int Try.underlying3 g1
      obtain ⟨v2, e2, r2, _⟩ := DataW.trod_string Try.underlying9 g2
      have q0 := hat 0 (by omega)
      have q1 := hat 1 (by omega)
      have q2 := hat 2 (by omega)
      have q3 := hat 3 (by omega)
      simp only [List.getElem?_cons_zero, List.getElem?_cons_succ] at q0 q1 q2 q3
      injection e0 with e0 _
      injection e1 with e1 _
      injection e2 with e2 _
      subst e0 e1 e2 r0 r1 r2
      rcases open_ints Try.underlying34 Try.underlying3 k3 g3 with ⟨hcs, hx⟩ | ⟨ad, l, c, zs, hcs, _, hlc, hm, hz, hx, hcell, hwz⟩
      · injection hcs with hcs _
        subst hcs hx
        exact ⟨⟨v0, v1, v2, []⟩, none, 0, .nil, q0, q1, q2, q3, Nat.le_refl _, Sh.nil _ _ _ _, wf_i64 w1, wf_i64 w0, (fun z hz => by cases hz), by rw [hy]; rfl, by simp⟩
      · injection hcs with hcs _
        subst hcs hx
        simp only [if_true] at hz
        have htl : (zs.take l).length = l := by rw [List.length_take]; omega
        refine ⟨⟨v0, v1, v2, zs.take l⟩, some ad, c, .slice (lits .i64 (zs.take l)) (lits .i64 (zs.drop l)), q0, q1, q2, ?_, ?_, ?_, wf_i64 w1, wf_i64 w0, (fun z hzz => wf_i64 (hwz z (List.mem_of_mem_take hzz))), by rw [hy]; rfl, ?_⟩
        · simp only [htl]; exact q3
        · simp only [htl]; exact hlc
        · refine ⟨rfl, fun hn => ?_⟩
          simp only [htl] at hn ⊢
          obtain ⟨b, o, spot⟩ := ad
          have hc0 := hcell 0 (by omega)
          have hspot : spot = none := by simpa [Addr.add] using World.cell?_spot hc0
          subst hspot
          refine ⟨b, o, rfl, ?_, fun i hi => ?_⟩
          · have := World.block_lt_of_cell? _ _ hc0
            rwa [add_lit'] at this
          · have := hcell i (by omega)
            rw [add_lit'] at this
            rw [this]
            simp [List.getD, List.getElem?_take_of_lt hi]
        · simp only [Rows.uptoBulk, bulk_lits]; omega

theorem list_of {α : Type} {P : Nat → α → Prop} : ∀ n : Nat, (∀ i, i < n → ∃ x, P i x) → ∃ l : List α, l.length = n ∧ ∀ i (h : i < l.length), P i l[i]
  | 0, _ => ⟨[], rfl, fun i h => by simp at h⟩
  | n + 1, h => by
    obtain ⟨l, hl, hi⟩ := list_of n (fun i hin => h i (by omega))
    obtain ⟨x, hx⟩ := h n (by omega)
    refine ⟨l ++ [x], by simp [hl], fun i hin => ?_⟩
    rw [List.length_append, List.length_singleton] at hin
    by_cases e : i < l.length
    · rw [List.getElem_append_left e]; exact hi i e
    · have : i = n := by omega
      subst this
      rw [List.getElem_append_right (by omega)]
      simpa using hx
theorem bulk_mem {l : List (DataW H)} {d : DataW H} (h : d ∈ l) : Rows.uptoBulk d ≤ Rows.uptoBulkAll l := by
  induction l with
  | nil => cases h
  | cons x r ih =>
    simp only [Rows.uptoBulkAll]
    rcases List.mem_cons.1 h with e | e
    · subst e; omega
    · have := ih e; omega

theorem open_items {base : Nat} {v : Value} {d : DataW H} {p : List MemPlace} (hval : Value.okWide Try.prog W .any base 40 v) (h : DataW.Trod enc Try.prog W 0 (fun _ => true) true 40 v d p) :
    ∃ (a : Option Addr) (len cap : Nat) (its : List Itm), v = .slice a len cap ∧ len ≤ cap ∧ len ≤ Rows.uptoBulk d ∧ ShI W W.heap.size a len its ∧
      (∀ x ∈ its, -9223372036854775808 ≤ x.num ∧ x.num ≤ 9223372036854775807 ∧ -9223372036854775808 ≤ x.kind ∧ x.kind ≤ 9223372036854775807 ∧ x.str.size ≤ Rows.uptoBulk d ∧ x.ints.length ≤ Rows.uptoBulk d ∧ oks x.ints) ∧ ∀ x ∈ p, x.block < W.heap.size := by
  have hlt : ∀ x ∈ p, x.block < W.heap.size := by obtain ⟨m, hm⟩ := h; exact DataW.trod_lt m _ _ _ hm
  obtain ⟨a, len, cap, rfl⟩ := okWide_slice Try.underlying40 hval
  obtain ⟨fuel, hf⟩ := h
  rcases open_slice Try.underlying40 hf with ⟨hcs, hx⟩ | ⟨ad, l, c, m, n, D, Pl, hcs, _, hlc, hm, hmm, hx, hi⟩
  · simp [Value.cells] at hcs
    obtain ⟨rfl, rfl, rfl⟩ := hcs
    exact ⟨none, 0, 0, [], rfl, Nat.le_refl _, by omega, ⟨rfl, fun h => absurd h (by omega)⟩, (fun x hx => by cases hx), hlt⟩
  · simp [Value.cells] at hcs
    obtain ⟨rfl, rfl, rfl⟩ := hcs
    simp only [if_true] at hmm
    injection hx with hx1 _
    have k42 : Try.prog.cellsOf 42 = 4 := by kernel_rfl
    rw [k42] at hi
    have hdl : ∀ i, i < len → Rows.uptoBulk (D i) ≤ Rows.uptoBulk d := fun i hil => by
      rw [hx1]
      have := bulk_mem (l := (List.range len).map D) (d := D i) (List.mem_map.2 ⟨i, List.mem_range.2 hil, rfl⟩)
      simp only [Rows.uptoBulk]; omega
    have key : ∀ i, i < len → ∃ x : Itm, (∃ A c', W.cell? ((ad.add (i * 4)).add 0) = some (.int .i64 x.kind) ∧ W.cell? ((ad.add (i * 4)).add 1) = some (.int .i64 x.num) ∧ W.cell? ((ad.add (i * 4)).add 2) = some (.string x.str) ∧ W.cell? ((ad.add (i * 4)).add 3) = some (.slice A x.ints.length c') ∧
        x.ints.length ≤ c' ∧ Sh W W.heap.size .i64 A x.ints.length x.ints) ∧ (-9223372036854775808 ≤ x.num ∧ x.num ≤ 9223372036854775807 ∧ -9223372036854775808 ≤ x.kind ∧ x.kind ≤ 9223372036854775807 ∧ x.str.size ≤ Rows.uptoBulk d ∧ x.ints.length ≤ Rows.uptoBulk d ∧ oks x.ints) := fun i hil => by
      obtain ⟨cs', hc, ht⟩ := hi i (by omega)
      obtain ⟨x, A, c', dd, q0, q1, q2, q3, q4, q5, q6, q7, q8, q9, q10⟩ := open_item hc ht
      have hb := hdl i hil
      simp only at q9
      rw [q9] at hb
      simp only [Rows.uptoBulk, Rows.uptoBulkAll, Array.length_toList] at hb
      have hsz : x.str.data.size = x.str.size := rfl
      exact ⟨x, ⟨A, c', q0, q1, q2, q3, q4, q5⟩, q6.1, q6.2, q7.1, q7.2, by omega, by omega, q8⟩
    obtain ⟨its, hl, hits⟩ := list_of len key
    refine ⟨some ad, len, cap, its, rfl, hlc, ?_, ⟨hl, fun hn => ?_⟩, fun x hxm => ?_, hlt⟩
    · rw [hx1]
      simp only [Rows.uptoBulk]
      have : ∀ l : List (DataW H), l.length ≤ Rows.uptoBulkAll l := by
        intro l
        induction l with
        | nil => simp [Rows.uptoBulkAll]
        | cons y r ih =>
          have : 1 ≤ Rows.uptoBulk y := by
            cases y with
            | lit q => cases q <;> simp [Rows.uptoBulk]
            | _ => simp [Rows.uptoBulk]
          simp only [Rows.uptoBulkAll, List.length_cons]; omega
      have := this ((List.range len).map D)
      rw [List.length_map, List.length_range] at this
      omega
    · obtain ⟨⟨A, c', q0, _⟩, _⟩ := hits 0 (by omega)
      obtain ⟨b, o, spot⟩ := ad
      have hspot : spot = none := by simpa [Addr.add] using World.cell?_spot q0
      subst hspot
      have hblk := World.block_lt_of_cell? _ _ q0
      rw [add_lit', add_lit'] at hblk
      refine ⟨b, o, rfl, hblk, fun i hil => ?_⟩
      obtain ⟨⟨A, c', q0, q1, q2, q3, q4, q5⟩, _⟩ := hits i hil
      rw [add_lit', add_lit'] at q0 q1 q2 q3
      exact ⟨q0, q1, q2, A, c', q3, q4, q5⟩
    · obtain ⟨i, hil, rfl⟩ := List.getElem_of_mem hxm
      exact (hits i hil).2
end
end Go.Proofs.Ytlpljhaogmfnkaa.Wire
