/- Contract of commonEnds of geom as it landed. (Written by wip/bin/mkcommon.py.) -/
import Derived.Test.YtjdkgndecnhokaaECode6
namespace Go.Proofs.Ytjdkgndecnhokaa.Geom
open Go.RowKit
open Go.Proofs.Ytjdkgndecnhokaa.Wire
set_option linter.unusedVariables false

theorem box5 (w : World) (a1 a2 b1 b2 c1 c2 d1 d2 : Int) : ∃ v, ((((w.alloc (.cells #[.int .i64 a1, .int .i64 a2] 23)).alloc (.cells #[.int .i64 b1, .int .i64 b2] 23)).alloc (.cells #[.int .i64 c1, .int .i64 c2] 23)).alloc (.cells #[.int .i64 d1, .int .i64 d2] 23)).alloc (.cells #[.int .i64 0, .int .i64 0] 23) = v ∧
    BX v w.heap.size a1 a2 ∧ BX v (w.heap.size + 1) b1 b2 ∧ BX v (w.heap.size + 1 + 1) c1 c2 ∧ BX v (w.heap.size + 1 + 1 + 1) d1 d2 ∧ BX v (w.heap.size + 1 + 1 + 1 + 1) 0 0 ∧ Bl w v :=
  ⟨_, rfl, (box4 (Bl.refl _)).1.al _, (box4 (Bl.refl _)).2.1.al _, (box4 (Bl.refl _)).2.2.1.al _, (box4 (Bl.refl _)).2.2.2.al _, BX.new (by simp), (((((Bl.refl w).alloc _).alloc _).alloc _).alloc _).alloc _⟩
/-- what lies where, at the beginning of a round: the first common end is f -/
structure CB (w : World) (a b c d f : P) (wr : World) : Prop where
  x1 : BX wr w.heap.size a.1 a.2
  x2 : BX wr (w.heap.size + 1) b.1 b.2
  x3 : BX wr (w.heap.size + 1 + 1) c.1 c.2
  x4 : BX wr (w.heap.size + 1 + 1 + 1) d.1 d.2
  x5 : BX wr (w.heap.size + 1 + 1 + 1 + 1) f.1 f.2
  bl : Bl w wr
theorem CB.go {w wr w' : World} {a b c d f : P} (h : CB w a b c d f wr) (hb : Bl wr w') : CB w a b c d f w' := ⟨h.x1.bl hb, h.x2.bl hb, h.x3.bl hb, h.x4.bl hb, h.x5.bl hb, h.bl.trans hb⟩
theorem CB.set {w wr : World} {a b c d f : P} (h : CB w a b c d f wr) (p : P) : CB w a b c d p ((wr.setCell ⟨w.heap.size + 1 + 1 + 1 + 1, 0, none⟩ (.int .i64 p.1)).setCell ⟨w.heap.size + 1 + 1 + 1 + 1, 1, none⟩ (.int .i64 p.2)) :=
  ⟨h.x1.oth (by omega), h.x2.oth (by omega), h.x3.oth (by omega), h.x4.oth (by omega), h.x5.set p.1 p.2, (h.bl.setCell (show w.heap.size ≤ w.heap.size + 1 + 1 + 1 + 1 by omega) _).setCell (show w.heap.size ≤ w.heap.size + 1 + 1 + 1 + 1 by omega) _⟩
def CF (a b c d : P) (k : Nat) (n : Int) (f : P) : Prop := ([a, b, c, d].take k).foldl (ce1 (com a b c d)) (0, (0, 0)) = (n, f) ∧ (n = 0 ∨ n = 1)
/-- what is known at the beginning of a round -/
def CR (w : World) (a b c d : P) (k : Nat) (n : Int) (wr : World) : Prop := ∃ f : P, CF a b c d k n f ∧ CB w a b c d f wr
theorem ce1_no {F : P → Bool} {n : Int} {f p : P} (hn : n = 0 ∨ n = 1) (h : F p = false) : ce1 F (n, f) p = (n, f) := by
  unfold ce1; rw [if_neg (show ¬ (n, f).1 = 2 by simp only; omega), if_pos h]
theorem ce1_zero {F : P → Bool} {f p : P} (h : F p = true) : ce1 F (0, f) p = (1, p) := by
  unfold ce1; simp [h]
theorem ce1_same {F : P → Bool} {f : P} (h : F f = true) : ce1 F (1, f) f = (1, f) := by
  unfold ce1; simp [h]
theorem ce1_two {F : P → Bool} {f p : P} (h : F p = true) (g : ¬ p = f) : ce1 F (1, f) p = (2, f) := by
  unfold ce1; simp [h, g]
theorem cidx0 (a1 a2 b1 b2 c1 c2 d1 d2 : Int) (w : World) : (Instr.index 50 (.agg #[.int .i64 a1, .int .i64 a2, .int .i64 b1, .int .i64 b2, .int .i64 c1, .int .i64 c2, .int .i64 d1, .int .i64 d2]) (.int .i64 0)).run Try.prog w = .ok (.agg #[.int .i64 a1, .int .i64 a2]) w := by kernel_rfl
theorem cf_step0 {a b c d f g : P} {n m : Int} (h : CF a b c d 0 n f) (e : ce1 (com a b c d) (n, f) a = (m, g)) (hm : m = 0 ∨ m = 1) : CF a b c d 1 m g :=
  ⟨(show ([a, b, c, d].take 1).foldl (ce1 (com a b c d)) (0, (0, 0)) = ce1 (com a b c d) (([a, b, c, d].take 0).foldl (ce1 (com a b c d)) (0, (0, 0))) a from rfl).trans (by rw [h.1]; exact e), hm⟩
theorem cf_two0 {a b c d f : P} {n : Int} (h : CF a b c d 0 n f) (e : ce1 (com a b c d) (n, f) a = (2, f)) : ce a b c d = 2 := by
  have : ce a b c d = (([a, b, c, d].drop 1).foldl (ce1 (com a b c d)) (ce1 (com a b c d) (([a, b, c, d].take 0).foldl (ce1 (com a b c d)) (0, (0, 0))) a)).1 := rfl
  rw [this, h.1, e, fold2]
theorem cidx1 (a1 a2 b1 b2 c1 c2 d1 d2 : Int) (w : World) : (Instr.index 50 (.agg #[.int .i64 a1, .int .i64 a2, .int .i64 b1, .int .i64 b2, .int .i64 c1, .int .i64 c2, .int .i64 d1, .int .i64 d2]) (.int .i64 1)).run Try.prog w = .ok (.agg #[.int .i64 b1, .int .i64 b2]) w := by kernel_rfl
theorem cf_step1 {a b c d f g : P} {n m : Int} (h : CF a b c d 1 n f) (e : ce1 (com a b c d) (n, f) b = (m, g)) (hm : m = 0 ∨ m = 1) : CF a b c d 2 m g :=
  ⟨(show ([a, b, c, d].take 2).foldl (ce1 (com a b c d)) (0, (0, 0)) = ce1 (com a b c d) (([a, b, c, d].take 1).foldl (ce1 (com a b c d)) (0, (0, 0))) b from rfl).trans (by rw [h.1]; exact e), hm⟩
theorem cf_two1 {a b c d f : P} {n : Int} (h : CF a b c d 1 n f) (e : ce1 (com a b c d) (n, f) b = (2, f)) : ce a b c d = 2 := by
  have : ce a b c d = (([a, b, c, d].drop 2).foldl (ce1 (com a b c d)) (ce1 (com a b c d) (([a, b, c, d].take 1).foldl (ce1 (com a b c d)) (0, (0, 0))) b)).1 := rfl
  rw [this, h.1, e, fold2]
theorem cidx2 (a1 a2 b1 b2 c1 c2 d1 d2 : Int) (w : World) : (Instr.index 50 (.agg #[.int .i64 a1, .int .i64 a2, .int .i64 b1, .int .i64 b2, .int .i64 c1, .int .i64 c2, .int .i64 d1, .int .i64 d2]) (.int .i64 2)).run Try.prog w = .ok (.agg #[.int .i64 c1, .int .i64 c2]) w := by kernel_rfl
theorem cf_step2 {a b c d f g : P} {n m : Int} (h : CF a b c d 2 n f) (e : ce1 (com a b c d) (n, f) c = (m, g)) (hm : m = 0 ∨ m = 1) : CF a b c d 3 m g :=
  ⟨(show ([a, b, c, d].take 3).foldl (ce1 (com a b c d)) (0, (0, 0)) = ce1 (com a b c d) (([a, b, c, d].take 2).foldl (ce1 (com a b c d)) (0, (0, 0))) c from rfl).trans (by rw [h.1]; exact e), hm⟩
theorem cf_two2 {a b c d f : P} {n : Int} (h : CF a b c d 2 n f) (e : ce1 (com a b c d) (n, f) c = (2, f)) : ce a b c d = 2 := by
  have : ce a b c d = (([a, b, c, d].drop 3).foldl (ce1 (com a b c d)) (ce1 (com a b c d) (([a, b, c, d].take 2).foldl (ce1 (com a b c d)) (0, (0, 0))) c)).1 := rfl
  rw [this, h.1, e, fold2]
theorem cidx3 (a1 a2 b1 b2 c1 c2 d1 d2 : Int) (w : World) : (Instr.index 50 (.agg #[.int .i64 a1, .int .i64 a2, .int .i64 b1, .int .i64 b2, .int .i64 c1, .int .i64 c2, .int .i64 d1, .int .i64 d2]) (.int .i64 3)).run Try.prog w = .ok (.agg #[.int .i64 d1, .int .i64 d2]) w := by kernel_rfl
theorem cf_step3 {a b c d f g : P} {n m : Int} (h : CF a b c d 3 n f) (e : ce1 (com a b c d) (n, f) d = (m, g)) (hm : m = 0 ∨ m = 1) : CF a b c d 4 m g :=
  ⟨(show ([a, b, c, d].take 4).foldl (ce1 (com a b c d)) (0, (0, 0)) = ce1 (com a b c d) (([a, b, c, d].take 3).foldl (ce1 (com a b c d)) (0, (0, 0))) d from rfl).trans (by rw [h.1]; exact e), hm⟩
theorem cf_two3 {a b c d f : P} {n : Int} (h : CF a b c d 3 n f) (e : ce1 (com a b c d) (n, f) d = (2, f)) : ce a b c d = 2 := by
  have : ce a b c d = (([a, b, c, d].drop 4).foldl (ce1 (com a b c d)) (ce1 (com a b c d) (([a, b, c, d].take 3).foldl (ce1 (com a b c d)) (0, (0, 0))) d)).1 := rfl
  rw [this, h.1, e, fold2]
theorem cf_end {a b c d f : P} {n : Int} (h : CF a b c d 4 n f) : ce a b c d = n := by
  have : ce a b c d = (([a, b, c, d].take 4).foldl (ce1 (com a b c d)) (0, (0, 0))).1 := rfl
  rw [this, h.1]

set_option maxHeartbeats 16000000 in
theorem Common_in (a b c d : P) (w : World) :
    Calls Try.prog 40 #[.agg #[.int .i64 a.1, .int .i64 a.2], .agg #[.int .i64 b.1, .int .i64 b.2], .agg #[.int .i64 c.1, .int .i64 c.2], .agg #[.int .i64 d.1, .int .i64 d.2]] w (fun e w' => e = .returned (.int .i64 (ce a b c d)) ∧ Bl w w') := by
  have O1 := hid (fun p w' => On_any a b p w')
  have O2 := hid (fun p w' => On_any c d p w')
  have ST := hid (show ∀ v, BX v w.heap.size a.1 a.2 → BX v (w.heap.size + 1) b.1 b.2 → BX v (w.heap.size + 1 + 1) c.1 c.2 → BX v (w.heap.size + 1 + 1 + 1) d.1 d.2 → BX v (w.heap.size + 1 + 1 + 1 + 1) 0 0 → Bl w v → CR w a b c d 0 0 v from fun v h1 h2 h3 h4 h5 h6 => ⟨(0, 0), ⟨rfl, .inl rfl⟩, h1, h2, h3, h4, h5, h6⟩)
  obtain ⟨a1, a2⟩ := a
  obtain ⟨b1, b2⟩ := b
  obtain ⟨c1, c2⟩ := c
  obtain ⟨d1, d2⟩ := d
  simp only at O1 O2 ST
  go_enter Try.func40, Try.ntmps40
  go_wp2_with fail
  obtain ⟨v, ev, x1, x2, x3, x4, x5, hv⟩ := box5 w a1 a2 b1 b2 c1 c2 d1 d2
  rw [ev]
  have hst := hid (ST.out v x1 x2 x3 x4 x5 hv)
  clear ev x1 x2 x3 x4 x5 hv ST
  go_loopw [17, 8] (fun i n wr => ∃ (k : Nat) (m : Int), i = .int .i64 k ∧ n = .int .i64 m ∧ k ≤ 4 ∧ Hid (CR w (a1, a2) (b1, b2) (c1, c2) (d1, d2) k m wr)) (fun i _ _ => 4 - (intOf i).toNat)
  case atStart => exact ⟨0, 0, rfl, rfl, by omega, hst⟩
  case round =>
    obtain ⟨k, m, rfl, rfl, hk, hC⟩ := hrel
    obtain ⟨f, hf, hX⟩ := hC.out
    have HF := hid hf
    have hm := hf.2
    clear hf
    have HX := hid hX
    clear hX hC
    rcases (show k = 0 ∨ k = 1 ∨ k = 2 ∨ k = 3 ∨ k = 4 by omega) with rfl | rfl | rfl | rfl | rfl
    · have ix := fun w' => cidx0 a1 a2 b1 b2 c1 c2 d1 d2 w'
      have P1 := hid (O1.out (a1, a2))
      have P2 := hid (O2.out (a1, a2))
      have hcom := hid (show com (a1, a2) (b1, b2) (c1, c2) (d1, d2) (a1, a2) = (on (a1, a2) (b1, b2) (a1, a2) && on (c1, c2) (d1, d2) (a1, a2)) from rfl)
      clear O1 O2
      simp only at P1 P2
      generalize on (a1, a2) (b1, b2) (a1, a2) = A at *
      generalize on (c1, c2) (d1, d2) (a1, a2) = B at *
      cases A
      · have hX1 := CB.go HX.out ((Bl.refl wr).alloc (.cells #[.int .i64 a1, .int .i64 a2] 23))
        have kk1 := hX1.x1.c0
        have kk2 := hX1.x1.c1
        have kk3 := hX1.x2.c0
        have kk4 := hX1.x2.c1
        have kk5 := hX1.x3.c0
        have kk6 := hX1.x3.c1
        have kk7 := hX1.x4.c0
        have kk8 := hX1.x4.c1
        clear hX1
        go_wp2_with fail
        refine (P1.out _).mono ?_
        rintro e w2 ⟨rfl, hb2⟩
        have HX2 := hid (CB.go (CB.go HX.out ((Bl.refl wr).alloc _)) hb2)
        have XN2 := hid (BX.bl (BX.new (w := wr) (x := a1) (y := a2) rfl) hb2)
        clear hb2 kk1 kk2 kk3 kk4 kk5 kk6 kk7 kk8 P1
        go_wp2_with fail
        go_roundw
        case rel => exact ⟨1, m, by go_num, rfl, by omega, hid ⟨f, cf_step0 HF.out (ce1_no hm hcom.out) hm, HX2.out⟩⟩
        case measure => simp [intOf]
      · cases B
        · have hX1 := CB.go HX.out ((Bl.refl wr).alloc (.cells #[.int .i64 a1, .int .i64 a2] 23))
          have kk1 := hX1.x1.c0
          have kk2 := hX1.x1.c1
          have kk3 := hX1.x2.c0
          have kk4 := hX1.x2.c1
          have kk5 := hX1.x3.c0
          have kk6 := hX1.x3.c1
          have kk7 := hX1.x4.c0
          have kk8 := hX1.x4.c1
          clear hX1
          go_wp2_with fail
          refine (P1.out _).mono ?_
          rintro e w2 ⟨rfl, hb2⟩
          have HX2 := hid (CB.go (CB.go HX.out ((Bl.refl wr).alloc _)) hb2)
          have XN2 := hid (BX.bl (BX.new (w := wr) (x := a1) (y := a2) rfl) hb2)
          clear hb2 kk1 kk2 kk3 kk4 kk5 kk6 kk7 kk8 P1
          have q1 := HX2.out.x1.c0
          have q2 := HX2.out.x1.c1
          have q3 := HX2.out.x2.c0
          have q4 := HX2.out.x2.c1
          have q5 := HX2.out.x3.c0
          have q6 := HX2.out.x3.c1
          have q7 := HX2.out.x4.c0
          have q8 := HX2.out.x4.c1
          have q9 := HX2.out.x5.c0
          have q10 := HX2.out.x5.c1
          have q11 := XN2.out.c0
          have q12 := XN2.out.c1
          go_wp2_with fail
          refine (P2.out _).mono ?_
          rintro e w3 ⟨rfl, hb3⟩
          have HX3 := hid (CB.go HX2.out hb3)
          have XN3 := hid (BX.bl XN2.out hb3)
          clear hb3 q1 q2 q3 q4 q5 q6 q7 q8 q9 q10 q11 q12 P2 XN2 HX2
          go_wp2_with fail
          go_roundw
          case rel => exact ⟨1, m, by go_num, rfl, by omega, hid ⟨f, cf_step0 HF.out (ce1_no hm hcom.out) hm, HX3.out⟩⟩
          case measure => simp [intOf]
        · rcases hm with rfl | rfl
          · have hX1 := CB.go HX.out ((Bl.refl wr).alloc (.cells #[.int .i64 a1, .int .i64 a2] 23))
            have kk1 := hX1.x1.c0
            have kk2 := hX1.x1.c1
            have kk3 := hX1.x2.c0
            have kk4 := hX1.x2.c1
            have kk5 := hX1.x3.c0
            have kk6 := hX1.x3.c1
            have kk7 := hX1.x4.c0
            have kk8 := hX1.x4.c1
            clear hX1
            go_wp2_with fail
            refine (P1.out _).mono ?_
            rintro e w2 ⟨rfl, hb2⟩
            have HX2 := hid (CB.go (CB.go HX.out ((Bl.refl wr).alloc _)) hb2)
            have XN2 := hid (BX.bl (BX.new (w := wr) (x := a1) (y := a2) rfl) hb2)
            clear hb2 kk1 kk2 kk3 kk4 kk5 kk6 kk7 kk8 P1
            have q1 := HX2.out.x1.c0
            have q2 := HX2.out.x1.c1
            have q3 := HX2.out.x2.c0
            have q4 := HX2.out.x2.c1
            have q5 := HX2.out.x3.c0
            have q6 := HX2.out.x3.c1
            have q7 := HX2.out.x4.c0
            have q8 := HX2.out.x4.c1
            have q9 := HX2.out.x5.c0
            have q10 := HX2.out.x5.c1
            have q11 := XN2.out.c0
            have q12 := XN2.out.c1
            go_wp2_with fail
            refine (P2.out _).mono ?_
            rintro e w3 ⟨rfl, hb3⟩
            have HX3 := hid (CB.go HX2.out hb3)
            have XN3 := hid (BX.bl XN2.out hb3)
            clear hb3 q1 q2 q3 q4 q5 q6 q7 q8 q9 q10 q11 q12 P2 XN2 HX2
            have r1 := HX3.out.x5.c0
            have r2 := HX3.out.x5.c1
            have r3 := HX3.out.x5.fr 0
            have r4 := HX3.out.x5.fr 1
            have r5 := XN3.out.c0
            have r6 := XN3.out.c1
            go_wp2_with fail
            go_roundw
            case rel => exact ⟨1, 1, by go_num, rfl, by omega, hid ⟨(a1, a2), cf_step0 HF.out (ce1_zero hcom.out) (.inr rfl), HX3.out.set (a1, a2)⟩⟩
            case measure => simp [intOf]
          · by_cases hpf : (a1, a2) = f
            · subst hpf
              have hX1 := CB.go HX.out ((Bl.refl wr).alloc (.cells #[.int .i64 a1, .int .i64 a2] 23))
              have kk1 := hX1.x1.c0
              have kk2 := hX1.x1.c1
              have kk3 := hX1.x2.c0
              have kk4 := hX1.x2.c1
              have kk5 := hX1.x3.c0
              have kk6 := hX1.x3.c1
              have kk7 := hX1.x4.c0
              have kk8 := hX1.x4.c1
              clear hX1
              go_wp2_with fail
              refine (P1.out _).mono ?_
              rintro e w2 ⟨rfl, hb2⟩
              have HX2 := hid (CB.go (CB.go HX.out ((Bl.refl wr).alloc _)) hb2)
              have XN2 := hid (BX.bl (BX.new (w := wr) (x := a1) (y := a2) rfl) hb2)
              clear hb2 kk1 kk2 kk3 kk4 kk5 kk6 kk7 kk8 P1
              have q1 := HX2.out.x1.c0
              have q2 := HX2.out.x1.c1
              have q3 := HX2.out.x2.c0
              have q4 := HX2.out.x2.c1
              have q5 := HX2.out.x3.c0
              have q6 := HX2.out.x3.c1
              have q7 := HX2.out.x4.c0
              have q8 := HX2.out.x4.c1
              have q9 := HX2.out.x5.c0
              have q10 := HX2.out.x5.c1
              have q11 := XN2.out.c0
              have q12 := XN2.out.c1
              go_wp2_with fail
              refine (P2.out _).mono ?_
              rintro e w3 ⟨rfl, hb3⟩
              have HX3 := hid (CB.go HX2.out hb3)
              have XN3 := hid (BX.bl XN2.out hb3)
              clear hb3 q1 q2 q3 q4 q5 q6 q7 q8 q9 q10 q11 q12 P2 XN2 HX2
              have r1 := HX3.out.x5.c0
              have r2 := HX3.out.x5.c1
              have r3 := HX3.out.x5.fr 0
              have r4 := HX3.out.x5.fr 1
              have r5 := XN3.out.c0
              have r6 := XN3.out.c1
              go_wp2_with fail
              go_roundw
              case rel => exact ⟨1, 1, by go_num, rfl, by omega, hid ⟨(a1, a2), cf_step0 HF.out (ce1_same hcom.out) (.inr rfl), HX3.out.set (a1, a2)⟩⟩
              case measure => simp [intOf]
            · obtain ⟨f1, f2⟩ := f
              have hp := eq_two hpf
              have two := hid (cf_two0 HF.out (ce1_two hcom.out hpf))
              rcases hp with hp | ⟨hp1, hp2⟩
              all_goals
                have hX1 := CB.go HX.out ((Bl.refl wr).alloc (.cells #[.int .i64 a1, .int .i64 a2] 23))
                have kk1 := hX1.x1.c0
                have kk2 := hX1.x1.c1
                have kk3 := hX1.x2.c0
                have kk4 := hX1.x2.c1
                have kk5 := hX1.x3.c0
                have kk6 := hX1.x3.c1
                have kk7 := hX1.x4.c0
                have kk8 := hX1.x4.c1
                clear hX1
                go_wp2_with fail
                refine (P1.out _).mono ?_
                rintro e w2 ⟨rfl, hb2⟩
                have HX2 := hid (CB.go (CB.go HX.out ((Bl.refl wr).alloc _)) hb2)
                have XN2 := hid (BX.bl (BX.new (w := wr) (x := a1) (y := a2) rfl) hb2)
                clear hb2 kk1 kk2 kk3 kk4 kk5 kk6 kk7 kk8 P1
                have q1 := HX2.out.x1.c0
                have q2 := HX2.out.x1.c1
                have q3 := HX2.out.x2.c0
                have q4 := HX2.out.x2.c1
                have q5 := HX2.out.x3.c0
                have q6 := HX2.out.x3.c1
                have q7 := HX2.out.x4.c0
                have q8 := HX2.out.x4.c1
                have q9 := HX2.out.x5.c0
                have q10 := HX2.out.x5.c1
                have q11 := XN2.out.c0
                have q12 := XN2.out.c1
                go_wp2_with fail
                refine (P2.out _).mono ?_
                rintro e w3 ⟨rfl, hb3⟩
                have HX3 := hid (CB.go HX2.out hb3)
                have XN3 := hid (BX.bl XN2.out hb3)
                clear hb3 q1 q2 q3 q4 q5 q6 q7 q8 q9 q10 q11 q12 P2 XN2 HX2
                have r1 := HX3.out.x5.c0
                have r2 := HX3.out.x5.c1
                have r3 := HX3.out.x5.fr 0
                have r4 := HX3.out.x5.fr 1
                have r5 := XN3.out.c0
                have r6 := XN3.out.c1
                go_wp2_with fail
                go_ret
                exact ⟨ret1 two.out.symm, HX3.out.bl⟩
    · have ix := fun w' => cidx1 a1 a2 b1 b2 c1 c2 d1 d2 w'
      have P1 := hid (O1.out (b1, b2))
      have P2 := hid (O2.out (b1, b2))
      have hcom := hid (show com (a1, a2) (b1, b2) (c1, c2) (d1, d2) (b1, b2) = (on (a1, a2) (b1, b2) (b1, b2) && on (c1, c2) (d1, d2) (b1, b2)) from rfl)
      clear O1 O2
      simp only at P1 P2
      generalize on (a1, a2) (b1, b2) (b1, b2) = A at *
      generalize on (c1, c2) (d1, d2) (b1, b2) = B at *
      cases A
      · have hX1 := CB.go HX.out ((Bl.refl wr).alloc (.cells #[.int .i64 b1, .int .i64 b2] 23))
        have kk1 := hX1.x1.c0
        have kk2 := hX1.x1.c1
        have kk3 := hX1.x2.c0
        have kk4 := hX1.x2.c1
        have kk5 := hX1.x3.c0
        have kk6 := hX1.x3.c1
        have kk7 := hX1.x4.c0
        have kk8 := hX1.x4.c1
        clear hX1
        go_wp2_with fail
        refine (P1.out _).mono ?_
        rintro e w2 ⟨rfl, hb2⟩
        have HX2 := hid (CB.go (CB.go HX.out ((Bl.refl wr).alloc _)) hb2)
        have XN2 := hid (BX.bl (BX.new (w := wr) (x := b1) (y := b2) rfl) hb2)
        clear hb2 kk1 kk2 kk3 kk4 kk5 kk6 kk7 kk8 P1
        go_wp2_with fail
        go_roundw
        case rel => exact ⟨2, m, by go_num, rfl, by omega, hid ⟨f, cf_step1 HF.out (ce1_no hm hcom.out) hm, HX2.out⟩⟩
        case measure => simp [intOf]
      · cases B
        · have hX1 := CB.go HX.out ((Bl.refl wr).alloc (.cells #[.int .i64 b1, .int .i64 b2] 23))
          have kk1 := hX1.x1.c0
          have kk2 := hX1.x1.c1
          have kk3 := hX1.x2.c0
          have kk4 := hX1.x2.c1
          have kk5 := hX1.x3.c0
          have kk6 := hX1.x3.c1
          have kk7 := hX1.x4.c0
          have kk8 := hX1.x4.c1
          clear hX1
          go_wp2_with fail
          refine (P1.out _).mono ?_
          rintro e w2 ⟨rfl, hb2⟩
          have HX2 := hid (CB.go (CB.go HX.out ((Bl.refl wr).alloc _)) hb2)
          have XN2 := hid (BX.bl (BX.new (w := wr) (x := b1) (y := b2) rfl) hb2)
          clear hb2 kk1 kk2 kk3 kk4 kk5 kk6 kk7 kk8 P1
          have q1 := HX2.out.x1.c0
          have q2 := HX2.out.x1.c1
          have q3 := HX2.out.x2.c0
          have q4 := HX2.out.x2.c1
          have q5 := HX2.out.x3.c0
          have q6 := HX2.out.x3.c1
          have q7 := HX2.out.x4.c0
          have q8 := HX2.out.x4.c1
          have q9 := HX2.out.x5.c0
          have q10 := HX2.out.x5.c1
          have q11 := XN2.out.c0
          have q12 := XN2.out.c1
          go_wp2_with fail
          refine (P2.out _).mono ?_
          rintro e w3 ⟨rfl, hb3⟩
          have HX3 := hid (CB.go HX2.out hb3)
          have XN3 := hid (BX.bl XN2.out hb3)
          clear hb3 q1 q2 q3 q4 q5 q6 q7 q8 q9 q10 q11 q12 P2 XN2 HX2
          go_wp2_with fail
          go_roundw
          case rel => exact ⟨2, m, by go_num, rfl, by omega, hid ⟨f, cf_step1 HF.out (ce1_no hm hcom.out) hm, HX3.out⟩⟩
          case measure => simp [intOf]
        · rcases hm with rfl | rfl
          · have hX1 := CB.go HX.out ((Bl.refl wr).alloc (.cells #[.int .i64 b1, .int .i64 b2] 23))
            have kk1 := hX1.x1.c0
            have kk2 := hX1.x1.c1
            have kk3 := hX1.x2.c0
            have kk4 := hX1.x2.c1
            have kk5 := hX1.x3.c0
            have kk6 := hX1.x3.c1
            have kk7 := hX1.x4.c0
            have kk8 := hX1.x4.c1
            clear hX1
            go_wp2_with fail
            refine (P1.out _).mono ?_
            rintro e w2 ⟨rfl, hb2⟩
            have HX2 := hid (CB.go (CB.go HX.out ((Bl.refl wr).alloc _)) hb2)
            have XN2 := hid (BX.bl (BX.new (w := wr) (x := b1) (y := b2) rfl) hb2)
            clear hb2 kk1 kk2 kk3 kk4 kk5 kk6 kk7 kk8 P1
            have q1 := HX2.out.x1.c0
            have q2 := HX2.out.x1.c1
            have q3 := HX2.out.x2.c0
            have q4 := HX2.out.x2.c1
            have q5 := HX2.out.x3.c0
            have q6 := HX2.out.x3.c1
            have q7 := HX2.out.x4.c0
            have q8 := HX2.out.x4.c1
            have q9 := HX2.out.x5.c0
            have q10 := HX2.out.x5.c1
            have q11 := XN2.out.c0
            have q12 := XN2.out.c1
            go_wp2_with fail
            refine (P2.out _).mono ?_
            rintro e w3 ⟨rfl, hb3⟩
            have HX3 := hid (CB.go HX2.out hb3)
            have XN3 := hid (BX.bl XN2.out hb3)
            clear hb3 q1 q2 q3 q4 q5 q6 q7 q8 q9 q10 q11 q12 P2 XN2 HX2
            have r1 := HX3.out.x5.c0
            have r2 := HX3.out.x5.c1
            have r3 := HX3.out.x5.fr 0
            have r4 := HX3.out.x5.fr 1
            have r5 := XN3.out.c0
            have r6 := XN3.out.c1
            go_wp2_with fail
            go_roundw
            case rel => exact ⟨2, 1, by go_num, rfl, by omega, hid ⟨(b1, b2), cf_step1 HF.out (ce1_zero hcom.out) (.inr rfl), HX3.out.set (b1, b2)⟩⟩
            case measure => simp [intOf]
          · by_cases hpf : (b1, b2) = f
            · subst hpf
              have hX1 := CB.go HX.out ((Bl.refl wr).alloc (.cells #[.int .i64 b1, .int .i64 b2] 23))
              have kk1 := hX1.x1.c0
              have kk2 := hX1.x1.c1
              have kk3 := hX1.x2.c0
              have kk4 := hX1.x2.c1
              have kk5 := hX1.x3.c0
              have kk6 := hX1.x3.c1
              have kk7 := hX1.x4.c0
              have kk8 := hX1.x4.c1
              clear hX1
              go_wp2_with fail
              refine (P1.out _).mono ?_
              rintro e w2 ⟨rfl, hb2⟩
              have HX2 := hid (CB.go (CB.go HX.out ((Bl.refl wr).alloc _)) hb2)
              have XN2 := hid (BX.bl (BX.new (w := wr) (x := b1) (y := b2) rfl) hb2)
              clear hb2 kk1 kk2 kk3 kk4 kk5 kk6 kk7 kk8 P1
              have q1 := HX2.out.x1.c0
              have q2 := HX2.out.x1.c1
              have q3 := HX2.out.x2.c0
              have q4 := HX2.out.x2.c1
              have q5 := HX2.out.x3.c0
              have q6 := HX2.out.x3.c1
              have q7 := HX2.out.x4.c0
              have q8 := HX2.out.x4.c1
              have q9 := HX2.out.x5.c0
              have q10 := HX2.out.x5.c1
              have q11 := XN2.out.c0
              have q12 := XN2.out.c1
              go_wp2_with fail
              refine (P2.out _).mono ?_
              rintro e w3 ⟨rfl, hb3⟩
              have HX3 := hid (CB.go HX2.out hb3)
              have XN3 := hid (BX.bl XN2.out hb3)
              clear hb3 q1 q2 q3 q4 q5 q6 q7 q8 q9 q10 q11 q12 P2 XN2 HX2
              have r1 := HX3.out.x5.c0
              have r2 := HX3.out.x5.c1
              have r3 := HX3.out.x5.fr 0
              have r4 := HX3.out.x5.fr 1
              have r5 := XN3.out.c0
              have r6 := XN3.out.c1
              go_wp2_with fail
              go_roundw
              case rel => exact ⟨2, 1, by go_num, rfl, by omega, hid ⟨(b1, b2), cf_step1 HF.out (ce1_same hcom.out) (.inr rfl), HX3.out.set (b1, b2)⟩⟩
              case measure => simp [intOf]
            · obtain ⟨f1, f2⟩ := f
              have hp := eq_two hpf
              have two := hid (cf_two1 HF.out (ce1_two hcom.out hpf))
              rcases hp with hp | ⟨hp1, hp2⟩
              all_goals
                have hX1 := CB.go HX.out ((Bl.refl wr).alloc (.cells #[.int .i64 b1, .int .i64 b2] 23))
                have kk1 := hX1.x1.c0
                have kk2 := hX1.x1.c1
                have kk3 := hX1.x2.c0
                have kk4 := hX1.x2.c1
                have kk5 := hX1.x3.c0
                have kk6 := hX1.x3.c1
                have kk7 := hX1.x4.c0
                have kk8 := hX1.x4.c1
                clear hX1
                go_wp2_with fail
                refine (P1.out _).mono ?_
                rintro e w2 ⟨rfl, hb2⟩
                have HX2 := hid (CB.go (CB.go HX.out ((Bl.refl wr).alloc _)) hb2)
                have XN2 := hid (BX.bl (BX.new (w := wr) (x := b1) (y := b2) rfl) hb2)
                clear hb2 kk1 kk2 kk3 kk4 kk5 kk6 kk7 kk8 P1
                have q1 := HX2.out.x1.c0
                have q2 := HX2.out.x1.c1
                have q3 := HX2.out.x2.c0
                have q4 := HX2.out.x2.c1
                have q5 := HX2.out.x3.c0
                have q6 := HX2.out.x3.c1
                have q7 := HX2.out.x4.c0
                have q8 := HX2.out.x4.c1
                have q9 := HX2.out.x5.c0
                have q10 := HX2.out.x5.c1
                have q11 := XN2.out.c0
                have q12 := XN2.out.c1
                go_wp2_with fail
                refine (P2.out _).mono ?_
                rintro e w3 ⟨rfl, hb3⟩
                have HX3 := hid (CB.go HX2.out hb3)
                have XN3 := hid (BX.bl XN2.out hb3)
                clear hb3 q1 q2 q3 q4 q5 q6 q7 q8 q9 q10 q11 q12 P2 XN2 HX2
                have r1 := HX3.out.x5.c0
                have r2 := HX3.out.x5.c1
                have r3 := HX3.out.x5.fr 0
                have r4 := HX3.out.x5.fr 1
                have r5 := XN3.out.c0
                have r6 := XN3.out.c1
                go_wp2_with fail
                go_ret
                exact ⟨ret1 two.out.symm, HX3.out.bl⟩
    · have ix := fun w' => cidx2 a1 a2 b1 b2 c1 c2 d1 d2 w'
      have P1 := hid (O1.out (c1, c2))
      have P2 := hid (O2.out (c1, c2))
      have hcom := hid (show com (a1, a2) (b1, b2) (c1, c2) (d1, d2) (c1, c2) = (on (a1, a2) (b1, b2) (c1, c2) && on (c1, c2) (d1, d2) (c1, c2)) from rfl)
      clear O1 O2
      simp only at P1 P2
      generalize on (a1, a2) (b1, b2) (c1, c2) = A at *
      generalize on (c1, c2) (d1, d2) (c1, c2) = B at *
      cases A
      · have hX1 := CB.go HX.out ((Bl.refl wr).alloc (.cells #[.int .i64 c1, .int .i64 c2] 23))
        have kk1 := hX1.x1.c0
        have kk2 := hX1.x1.c1
        have kk3 := hX1.x2.c0
        have kk4 := hX1.x2.c1
        have kk5 := hX1.x3.c0
        have kk6 := hX1.x3.c1
        have kk7 := hX1.x4.c0
        have kk8 := hX1.x4.c1
        clear hX1
        go_wp2_with fail
        refine (P1.out _).mono ?_
        rintro e w2 ⟨rfl, hb2⟩
        have HX2 := hid (CB.go (CB.go HX.out ((Bl.refl wr).alloc _)) hb2)
        have XN2 := hid (BX.bl (BX.new (w := wr) (x := c1) (y := c2) rfl) hb2)
        clear hb2 kk1 kk2 kk3 kk4 kk5 kk6 kk7 kk8 P1
        go_wp2_with fail
        go_roundw
        case rel => exact ⟨3, m, by go_num, rfl, by omega, hid ⟨f, cf_step2 HF.out (ce1_no hm hcom.out) hm, HX2.out⟩⟩
        case measure => simp [intOf]
      · cases B
        · have hX1 := CB.go HX.out ((Bl.refl wr).alloc (.cells #[.int .i64 c1, .int .i64 c2] 23))
          have kk1 := hX1.x1.c0
          have kk2 := hX1.x1.c1
          have kk3 := hX1.x2.c0
          have kk4 := hX1.x2.c1
          have kk5 := hX1.x3.c0
          have kk6 := hX1.x3.c1
          have kk7 := hX1.x4.c0
          have kk8 := hX1.x4.c1
          clear hX1
          go_wp2_with fail
          refine (P1.out _).mono ?_
          rintro e w2 ⟨rfl, hb2⟩
          have HX2 := hid (CB.go (CB.go HX.out ((Bl.refl wr).alloc _)) hb2)
          have XN2 := hid (BX.bl (BX.new (w := wr) (x := c1) (y := c2) rfl) hb2)
          clear hb2 kk1 kk2 kk3 kk4 kk5 kk6 kk7 kk8 P1
          have q1 := HX2.out.x1.c0
          have q2 := HX2.out.x1.c1
          have q3 := HX2.out.x2.c0
          have q4 := HX2.out.x2.c1
          have q5 := HX2.out.x3.c0
          have q6 := HX2.out.x3.c1
          have q7 := HX2.out.x4.c0
          have q8 := HX2.out.x4.c1
          have q9 := HX2.out.x5.c0
          have q10 := HX2.out.x5.c1
          have q11 := XN2.out.c0
          have q12 := XN2.out.c1
          go_wp2_with fail
          refine (P2.out _).mono ?_
          rintro e w3 ⟨rfl, hb3⟩
          have HX3 := hid (CB.go HX2.out hb3)
          have XN3 := hid (BX.bl XN2.out hb3)
          clear hb3 q1 q2 q3 q4 q5 q6 q7 q8 q9 q10 q11 q12 P2 XN2 HX2
          go_wp2_with fail
          go_roundw
          case rel => exact ⟨3, m, by go_num, rfl, by omega, hid ⟨f, cf_step2 HF.out (ce1_no hm hcom.out) hm, HX3.out⟩⟩
          case measure => simp [intOf]
        · rcases hm with rfl | rfl
          · have hX1 := CB.go HX.out ((Bl.refl wr).alloc (.cells #[.int .i64 c1, .int .i64 c2] 23))
            have kk1 := hX1.x1.c0
            have kk2 := hX1.x1.c1
            have kk3 := hX1.x2.c0
            have kk4 := hX1.x2.c1
            have kk5 := hX1.x3.c0
            have kk6 := hX1.x3.c1
            have kk7 := hX1.x4.c0
            have kk8 := hX1.x4.c1
            clear hX1
            go_wp2_with fail
            refine (P1.out _).mono ?_
            rintro e w2 ⟨rfl, hb2⟩
            have HX2 := hid (CB.go (CB.go HX.out ((Bl.refl wr).alloc _)) hb2)
            have XN2 := hid (BX.bl (BX.new (w := wr) (x := c1) (y := c2) rfl) hb2)
            clear hb2 kk1 kk2 kk3 kk4 kk5 kk6 kk7 kk8 P1
            have q1 := HX2.out.x1.c0
            have q2 := HX2.out.x1.c1
            have q3 := HX2.out.x2.c0
            have q4 := HX2.out.x2.c1
            have q5 := HX2.out.x3.c0
            have q6 := HX2.out.x3.c1
            have q7 := HX2.out.x4.c0
            have q8 := HX2.out.x4.c1
            have q9 := HX2.out.x5.c0
            have q10 := HX2.out.x5.c1
            have q11 := XN2.out.c0
            have q12 := XN2.out.c1
            go_wp2_with fail
            refine (P2.out _).mono ?_
            rintro e w3 ⟨rfl, hb3⟩
            have HX3 := hid (CB.go HX2.out hb3)
            have XN3 := hid (BX.bl XN2.out hb3)
            clear hb3 q1 q2 q3 q4 q5 q6 q7 q8 q9 q10 q11 q12 P2 XN2 HX2
            have r1 := HX3.out.x5.c0
            have r2 := HX3.out.x5.c1
            have r3 := HX3.out.x5.fr 0
            have r4 := HX3.out.x5.fr 1
            have r5 := XN3.out.c0
            have r6 := XN3.out.c1
            go_wp2_with fail
            go_roundw
            case rel => exact ⟨3, 1, by go_num, rfl, by omega, hid ⟨(c1, c2), cf_step2 HF.out (ce1_zero hcom.out) (.inr rfl), HX3.out.set (c1, c2)⟩⟩
            case measure => simp [intOf]
          · by_cases hpf : (c1, c2) = f
            · subst hpf
              have hX1 := CB.go HX.out ((Bl.refl wr).alloc (.cells #[.int .i64 c1, .int .i64 c2] 23))
              have kk1 := hX1.x1.c0
              have kk2 := hX1.x1.c1
              have kk3 := hX1.x2.c0
              have kk4 := hX1.x2.c1
              have kk5 := hX1.x3.c0
              have kk6 := hX1.x3.c1
              have kk7 := hX1.x4.c0
              have kk8 := hX1.x4.c1
              clear hX1
              go_wp2_with fail
              refine (P1.out _).mono ?_
              rintro e w2 ⟨rfl, hb2⟩
              have HX2 := hid (CB.go (CB.go HX.out ((Bl.refl wr).alloc _)) hb2)
              have XN2 := hid (BX.bl (BX.new (w := wr) (x := c1) (y := c2) rfl) hb2)
              clear hb2 kk1 kk2 kk3 kk4 kk5 kk6 kk7 kk8 P1
              have q1 := HX2.out.x1.c0
              have q2 := HX2.out.x1.c1
              have q3 := HX2.out.x2.c0
              have q4 := HX2.out.x2.c1
              have q5 := HX2.out.x3.c0
              have q6 := HX2.out.x3.c1
              have q7 := HX2.out.x4.c0
              have q8 := HX2.out.x4.c1
              have q9 := HX2.out.x5.c0
              have q10 := HX2.out.x5.c1
              have q11 := XN2.out.c0
              have q12 := XN2.out.c1
              go_wp2_with fail
              refine (P2.out _).mono ?_
              rintro e w3 ⟨rfl, hb3⟩
              have HX3 := hid (CB.go HX2.out hb3)
              have XN3 := hid (BX.bl XN2.out hb3)
              clear hb3 q1 q2 q3 q4 q5 q6 q7 q8 q9 q10 q11 q12 P2 XN2 HX2
              have r1 := HX3.out.x5.c0
              have r2 := HX3.out.x5.c1
              have r3 := HX3.out.x5.fr 0
              have r4 := HX3.out.x5.fr 1
              have r5 := XN3.out.c0
              have r6 := XN3.out.c1
              go_wp2_with fail
              go_roundw
              case rel => exact ⟨3, 1, by go_num, rfl, by omega, hid ⟨(c1, c2), cf_step2 HF.out (ce1_same hcom.out) (.inr rfl), HX3.out.set (c1, c2)⟩⟩
              case measure => simp [intOf]
            · obtain ⟨f1, f2⟩ := f
              have hp := eq_two hpf
              have two := hid (cf_two2 HF.out (ce1_two hcom.out hpf))
              rcases hp with hp | ⟨hp1, hp2⟩
              all_goals
                have hX1 := CB.go HX.out ((Bl.refl wr).alloc (.cells #[.int .i64 c1, .int .i64 c2] 23))
                have kk1 := hX1.x1.c0
                have kk2 := hX1.x1.c1
                have kk3 := hX1.x2.c0
                have kk4 := hX1.x2.c1
                have kk5 := hX1.x3.c0
                have kk6 := hX1.x3.c1
                have kk7 := hX1.x4.c0
                have kk8 := hX1.x4.c1
                clear hX1
                go_wp2_with fail
                refine (P1.out _).mono ?_
                rintro e w2 ⟨rfl, hb2⟩
                have HX2 := hid (CB.go (CB.go HX.out ((Bl.refl wr).alloc _)) hb2)
                have XN2 := hid (BX.bl (BX.new (w := wr) (x := c1) (y := c2) rfl) hb2)
                clear hb2 kk1 kk2 kk3 kk4 kk5 kk6 kk7 kk8 P1
                have q1 := HX2.out.x1.c0
                have q2 := HX2.out.x1.c1
                have q3 := HX2.out.x2.c0
                have q4 := HX2.out.x2.c1
                have q5 := HX2.out.x3.c0
                have q6 := HX2.out.x3.c1
                have q7 := HX2.out.x4.c0
                have q8 := HX2.out.x4.c1
                have q9 := HX2.out.x5.c0
                have q10 := HX2.out.x5.c1
                have q11 := XN2.out.c0
                have q12 := XN2.out.c1
                go_wp2_with fail
                refine (P2.out _).mono ?_
                rintro e w3 ⟨rfl, hb3⟩
                have HX3 := hid (CB.go HX2.out hb3)
                have XN3 := hid (BX.bl XN2.out hb3)
                clear hb3 q1 q2 q3 q4 q5 q6 q7 q8 q9 q10 q11 q12 P2 XN2 HX2
                have r1 := HX3.out.x5.c0
                have r2 := HX3.out.x5.c1
                have r3 := HX3.out.x5.fr 0
                have r4 := HX3.out.x5.fr 1
                have r5 := XN3.out.c0
                have r6 := XN3.out.c1
                go_wp2_with fail
                go_ret
                exact ⟨ret1 two.out.symm, HX3.out.bl⟩
    · have ix := fun w' => cidx3 a1 a2 b1 b2 c1 c2 d1 d2 w'
      have P1 := hid (O1.out (d1, d2))
      have P2 := hid (O2.out (d1, d2))
      have hcom := hid (show com (a1, a2) (b1, b2) (c1, c2) (d1, d2) (d1, d2) = (on (a1, a2) (b1, b2) (d1, d2) && on (c1, c2) (d1, d2) (d1, d2)) from rfl)
      clear O1 O2
      simp only at P1 P2
      generalize on (a1, a2) (b1, b2) (d1, d2) = A at *
      generalize on (c1, c2) (d1, d2) (d1, d2) = B at *
      cases A
      · have hX1 := CB.go HX.out ((Bl.refl wr).alloc (.cells #[.int .i64 d1, .int .i64 d2] 23))
        have kk1 := hX1.x1.c0
        have kk2 := hX1.x1.c1
        have kk3 := hX1.x2.c0
        have kk4 := hX1.x2.c1
        have kk5 := hX1.x3.c0
        have kk6 := hX1.x3.c1
        have kk7 := hX1.x4.c0
        have kk8 := hX1.x4.c1
        clear hX1
        go_wp2_with fail
        refine (P1.out _).mono ?_
        rintro e w2 ⟨rfl, hb2⟩
        have HX2 := hid (CB.go (CB.go HX.out ((Bl.refl wr).alloc _)) hb2)
        have XN2 := hid (BX.bl (BX.new (w := wr) (x := d1) (y := d2) rfl) hb2)
        clear hb2 kk1 kk2 kk3 kk4 kk5 kk6 kk7 kk8 P1
        go_wp2_with fail
        go_roundw
        case rel => exact ⟨4, m, by go_num, rfl, by omega, hid ⟨f, cf_step3 HF.out (ce1_no hm hcom.out) hm, HX2.out⟩⟩
        case measure => simp [intOf]
      · cases B
        · have hX1 := CB.go HX.out ((Bl.refl wr).alloc (.cells #[.int .i64 d1, .int .i64 d2] 23))
          have kk1 := hX1.x1.c0
          have kk2 := hX1.x1.c1
          have kk3 := hX1.x2.c0
          have kk4 := hX1.x2.c1
          have kk5 := hX1.x3.c0
          have kk6 := hX1.x3.c1
          have kk7 := hX1.x4.c0
          have kk8 := hX1.x4.c1
          clear hX1
          go_wp2_with fail
          refine (P1.out _).mono ?_
          rintro e w2 ⟨rfl, hb2⟩
          have HX2 := hid (CB.go (CB.go HX.out ((Bl.refl wr).alloc _)) hb2)
          have XN2 := hid (BX.bl (BX.new (w := wr) (x := d1) (y := d2) rfl) hb2)
          clear hb2 kk1 kk2 kk3 kk4 kk5 kk6 kk7 kk8 P1
          have q1 := HX2.out.x1.c0
          have q2 := HX2.out.x1.c1
          have q3 := HX2.out.x2.c0
          have q4 := HX2.out.x2.c1
          have q5 := HX2.out.x3.c0
          have q6 := HX2.out.x3.c1
          have q7 := HX2.out.x4.c0
          have q8 := HX2.out.x4.c1
          have q9 := HX2.out.x5.c0
          have q10 := HX2.out.x5.c1
          have q11 := XN2.out.c0
          have q12 := XN2.out.c1
          go_wp2_with fail
          refine (P2.out _).mono ?_
          rintro e w3 ⟨rfl, hb3⟩
          have HX3 := hid (CB.go HX2.out hb3)
          have XN3 := hid (BX.bl XN2.out hb3)
          clear hb3 q1 q2 q3 q4 q5 q6 q7 q8 q9 q10 q11 q12 P2 XN2 HX2
          go_wp2_with fail
          go_roundw
          case rel => exact ⟨4, m, by go_num, rfl, by omega, hid ⟨f, cf_step3 HF.out (ce1_no hm hcom.out) hm, HX3.out⟩⟩
          case measure => simp [intOf]
        · rcases hm with rfl | rfl
          · have hX1 := CB.go HX.out ((Bl.refl wr).alloc (.cells #[.int .i64 d1, .int .i64 d2] 23))
            have kk1 := hX1.x1.c0
            have kk2 := hX1.x1.c1
            have kk3 := hX1.x2.c0
            have kk4 := hX1.x2.c1
            have kk5 := hX1.x3.c0
            have kk6 := hX1.x3.c1
            have kk7 := hX1.x4.c0
            have kk8 := hX1.x4.c1
            clear hX1
            go_wp2_with fail
            refine (P1.out _).mono ?_
            rintro e w2 ⟨rfl, hb2⟩
            have HX2 := hid (CB.go (CB.go HX.out ((Bl.refl wr).alloc _)) hb2)
            have XN2 := hid (BX.bl (BX.new (w := wr) (x := d1) (y := d2) rfl) hb2)
            clear hb2 kk1 kk2 kk3 kk4 kk5 kk6 kk7 kk8 P1
            have q1 := HX2.out.x1.c0
            have q2 := HX2.out.x1.c1
            have q3 := HX2.out.x2.c0
            have q4 := HX2.out.x2.c1
            have q5 := HX2.out.x3.c0
            have q6 := HX2.out.x3.c1
            have q7 := HX2.out.x4.c0
            have q8 := HX2.out.x4.c1
            have q9 := HX2.out.x5.c0
            have q10 := HX2.out.x5.c1
            have q11 := XN2.out.c0
            have q12 := XN2.out.c1
            go_wp2_with fail
            refine (P2.out _).mono ?_
            rintro e w3 ⟨rfl, hb3⟩
            have HX3 := hid (CB.go HX2.out hb3)
            have XN3 := hid (BX.bl XN2.out hb3)
            clear hb3 q1 q2 q3 q4 q5 q6 q7 q8 q9 q10 q11 q12 P2 XN2 HX2
            have r1 := HX3.out.x5.c0
            have r2 := HX3.out.x5.c1
            have r3 := HX3.out.x5.fr 0
            have r4 := HX3.out.x5.fr 1
            have r5 := XN3.out.c0
            have r6 := XN3.out.c1
            go_wp2_with fail
            go_roundw
            case rel => exact ⟨4, 1, by go_num, rfl, by omega, hid ⟨(d1, d2), cf_step3 HF.out (ce1_zero hcom.out) (.inr rfl), HX3.out.set (d1, d2)⟩⟩
            case measure => simp [intOf]
          · by_cases hpf : (d1, d2) = f
            · subst hpf
              have hX1 := CB.go HX.out ((Bl.refl wr).alloc (.cells #[.int .i64 d1, .int .i64 d2] 23))
              have kk1 := hX1.x1.c0
              have kk2 := hX1.x1.c1
              have kk3 := hX1.x2.c0
              have kk4 := hX1.x2.c1
              have kk5 := hX1.x3.c0
              have kk6 := hX1.x3.c1
              have kk7 := hX1.x4.c0
              have kk8 := hX1.x4.c1
              clear hX1
              go_wp2_with fail
              refine (P1.out _).mono ?_
              rintro e w2 ⟨rfl, hb2⟩
              have HX2 := hid (CB.go (CB.go HX.out ((Bl.refl wr).alloc _)) hb2)
              have XN2 := hid (BX.bl (BX.new (w := wr) (x := d1) (y := d2) rfl) hb2)
              clear hb2 kk1 kk2 kk3 kk4 kk5 kk6 kk7 kk8 P1
              have q1 := HX2.out.x1.c0
              have q2 := HX2.out.x1.c1
              have q3 := HX2.out.x2.c0
              have q4 := HX2.out.x2.c1
              have q5 := HX2.out.x3.c0
              have q6 := HX2.out.x3.c1
              have q7 := HX2.out.x4.c0
              have q8 := HX2.out.x4.c1
              have q9 := HX2.out.x5.c0
              have q10 := HX2.out.x5.c1
              have q11 := XN2.out.c0
              have q12 := XN2.out.c1
              go_wp2_with fail
              refine (P2.out _).mono ?_
              rintro e w3 ⟨rfl, hb3⟩
              have HX3 := hid (CB.go HX2.out hb3)
              have XN3 := hid (BX.bl XN2.out hb3)
              clear hb3 q1 q2 q3 q4 q5 q6 q7 q8 q9 q10 q11 q12 P2 XN2 HX2
              have r1 := HX3.out.x5.c0
              have r2 := HX3.out.x5.c1
              have r3 := HX3.out.x5.fr 0
              have r4 := HX3.out.x5.fr 1
              have r5 := XN3.out.c0
              have r6 := XN3.out.c1
              go_wp2_with fail
              go_roundw
              case rel => exact ⟨4, 1, by go_num, rfl, by omega, hid ⟨(d1, d2), cf_step3 HF.out (ce1_same hcom.out) (.inr rfl), HX3.out.set (d1, d2)⟩⟩
              case measure => simp [intOf]
            · obtain ⟨f1, f2⟩ := f
              have hp := eq_two hpf
              have two := hid (cf_two3 HF.out (ce1_two hcom.out hpf))
              rcases hp with hp | ⟨hp1, hp2⟩
              all_goals
                have hX1 := CB.go HX.out ((Bl.refl wr).alloc (.cells #[.int .i64 d1, .int .i64 d2] 23))
                have kk1 := hX1.x1.c0
                have kk2 := hX1.x1.c1
                have kk3 := hX1.x2.c0
                have kk4 := hX1.x2.c1
                have kk5 := hX1.x3.c0
                have kk6 := hX1.x3.c1
                have kk7 := hX1.x4.c0
                have kk8 := hX1.x4.c1
                clear hX1
                go_wp2_with fail
                refine (P1.out _).mono ?_
                rintro e w2 ⟨rfl, hb2⟩
                have HX2 := hid (CB.go (CB.go HX.out ((Bl.refl wr).alloc _)) hb2)
                have XN2 := hid (BX.bl (BX.new (w := wr) (x := d1) (y := d2) rfl) hb2)
                clear hb2 kk1 kk2 kk3 kk4 kk5 kk6 kk7 kk8 P1
                have q1 := HX2.out.x1.c0
                have q2 := HX2.out.x1.c1
                have q3 := HX2.out.x2.c0
                have q4 := HX2.out.x2.c1
                have q5 := HX2.out.x3.c0
                have q6 := HX2.out.x3.c1
                have q7 := HX2.out.x4.c0
                have q8 := HX2.out.x4.c1
                have q9 := HX2.out.x5.c0
                have q10 := HX2.out.x5.c1
                have q11 := XN2.out.c0
                have q12 := XN2.out.c1
                go_wp2_with fail
                refine (P2.out _).mono ?_
                rintro e w3 ⟨rfl, hb3⟩
                have HX3 := hid (CB.go HX2.out hb3)
                have XN3 := hid (BX.bl XN2.out hb3)
                clear hb3 q1 q2 q3 q4 q5 q6 q7 q8 q9 q10 q11 q12 P2 XN2 HX2
                have r1 := HX3.out.x5.c0
                have r2 := HX3.out.x5.c1
                have r3 := HX3.out.x5.fr 0
                have r4 := HX3.out.x5.fr 1
                have r5 := XN3.out.c0
                have r6 := XN3.out.c1
                go_wp2_with fail
                go_ret
                exact ⟨ret1 two.out.symm, HX3.out.bl⟩
    · have fin := hid (cf_end HF.out)
      go_wp2_with fail
      go_ret
      exact ⟨ret1 fin.out.symm, HX.out.bl⟩
end Go.Proofs.Ytjdkgndecnhokaa.Geom
