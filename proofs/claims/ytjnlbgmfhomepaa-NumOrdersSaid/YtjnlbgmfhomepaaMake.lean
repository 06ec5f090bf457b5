/- Contracts of Make of layer 1 (num) and of its reference. -/
import Derived.Test.YtjnlbgmfhomepaaDivs
import Derived.Test.YtjnlbgmfhomepaaGcd
import Derived.Test.YtjnlbgmfhomepaaMakePlain
namespace Go.Proofs.Ytjnlbgmfhomepaa.Num
open Go.RowKit
set_option linter.unusedVariables false

/-- new blocks and draws alone -/
def Bl (w w' : World) : Prop := Below w.heap.size w w'
theorem Bl.refl (w : World) : Bl w w := Below.refl _ w
theorem Bl.drewN {w w1 : World} (h : Bl w w1) (n : Nat) : Bl w (w1.drewN n) := ⟨h.os, h.tape, h.output, h.size, h.block⟩
theorem Bl.trans {w w1 w2 : World} (h : Bl w w1) (g : Bl w1 w2) : Bl w w2 := Below.trans h (Below.mono g h.size)
theorem Bl.alloc {w w1 : World} (h : Bl w w1) (o : Obj) : Bl w (w1.alloc o) := Below.alloc h h.size o
theorem Bl.setCell {w w1 : World} (h : Bl w w1) {p : Addr} (hp : w.heap.size ≤ p.block) (v : Value) : Bl w (w1.setCell p v) := Below.setCell h hp v
theorem Q.bl {w w1 : World} (h : Q w w1) : Bl w w1 := by
  obtain ⟨n, rfl⟩ := h
  exact (Bl.refl w).drewN n
theorem retF {a b c d x y : Int} (h : a = b) (g : c = d) (k : x = y) : Ending.returned (.tuple #[.agg #[.int .i64 a, .int .i64 c], .int .i64 x]) = .returned (.tuple #[.agg #[.int .i64 b, .int .i64 d], .int .i64 y]) := by rw [h, g, k]

set_option maxRecDepth 100000 in
set_option maxHeartbeats 1000000 in
theorem make_any (a b : Int) (w : World) (ha : okI a) (hb0 : okI b) :
    Calls Try.prog 23 #[.int .i64 a, .int .i64 b] w fun e w' => e = .returned (.tuple #[.agg #[.int .i64 (mkN a b), .int .i64 (mkD a b)], .int .i64 (mkE a b)]) ∧ Bl w w' := by
  by_cases hb : b = 0
  · subst hb
    go_enter Try.func23, Try.ntmps23
    go_wp2
    refine bodyPost_ret (v := .tuple #[.agg #[.int .i64 0, .int .i64 0], .int .i64 21]) (by simp [results, Try.results23, go_sem]) rfl ⟨rfl, ?_⟩
    exact Bl.alloc (Bl.refl _) _
  have g0 : (b == 0) = false := by rw [beq_eq_false_iff_ne]; exact hb
  obtain ⟨u, v, g, p, q, hu, hv, hg, hp, hq, u0, u1, v0, v1, g1, g2, p0, p1, q0, q1⟩ := mk_parts a b ha hb0 hb
  have e1 : fn a b = sg p (df a b) := by rw [hp, hu, hg]; rfl
  have e2 : fd a b = q := by rw [hq, hv, hg]; rfl
  have cu : ∀ w, Calls Try.prog 29 #[.int .i64 a] w fun e w' => e = .returned (.int .u64 u) ∧ w = w' := by rw [hu]; unfold okI at ha; exact fun w => magnitude_any a w ha.1 ha.2
  have cv : ∀ w, Calls Try.prog 29 #[.int .i64 b] w fun e w' => e = .returned (.int .u64 v) ∧ w = w' := by rw [hv]; unfold okI at hb0; exact fun w => magnitude_any b w hb0.1 hb0.2
  have cg : ∀ w, Calls Try.prog 34 #[.int .u64 u, .int .u64 v] w fun e w' => e = .returned (.int .u64 g) ∧ Q w w' := by
    rw [hg, ← gcd_abs a b, ← hu, ← hv]; exact fun w => gcd_any u v w u0 (by omega) (by omega) (by omega)
  have hcu := hid cu
  have hcv := hid cv
  have hcg := hid cg
  have gz : ¬ g = 0 := by omega
  have hok := hid (mk_ok (a := a) (b := b) hb)
  have hno := hid (mk_no (a := a) (b := b) hb)
  have z0 := hid (fn_zero b hb)
  clear cu cv cg hu hv hg ha hb0 hb
  have hp' : u / g = p := hp.symm
  have hq' : v / g = q := hq.symm
  clear hp hq
  cases hd : df a b
  · rw [hd] at e1
    unfold df at hd
    have he1 := hid e1
    have he2 := hid e2
    clear e1 e2
    by_cases hk : okI (fn a b)
    · by_cases hl : okI (fd a b)
      · have hm := hid (hok.out hk hl)
        have hs1 := hid (show ∀ w, Calls Try.prog 33 #[.int .u64 p, .bool false] w fun e w' => e = .returned (.tuple #[.int .i64 (fn a b), .int .i64 0]) ∧ w = w' from fun w => by have := signed_any p false w p0 (by omega); rw [← he1.out, rv_ok hk, re_ok hk] at this; exact this)
        have hs2 := hid (show ∀ w, Calls Try.prog 33 #[.int .u64 q, .bool false] w fun e w' => e = .returned (.tuple #[.int .i64 (fd a b), .int .i64 0]) ∧ w = w' from fun w => by have := signed_any q false w q0 (by omega); rw [show sg q false = fd a b from he2.out.symm, rv_ok hl, re_ok hl] at this; exact this)
        clear hk hl
        go_enter Try.func23, Try.ntmps23
        go_wp2_with fail
        refine (hcu.out _).mono ?_
        rintro e w' ⟨rfl, rfl⟩
        go_wp2_with fail
        refine (hcv.out _).mono ?_
        rintro e w' ⟨rfl, rfl⟩
        go_wp2_with fail
        refine (hcg.out _).mono ?_
        rintro e w' ⟨rfl, n, rfl⟩
        go_wp2_with fail
        refine (hs1.out _).mono ?_
        rintro e w' ⟨rfl, rfl⟩
        go_wp2_with fail
        refine (hs2.out _).mono ?_
        rintro e w' ⟨rfl, rfl⟩
        go_wp2_with fail
        refine bodyPost_ret (v := .tuple #[.agg #[.int .i64 (fn a b), .int .i64 (fd a b)], .int .i64 0]) (by simp [results, Try.results23, go_sem]) rfl ⟨?_, ?_⟩
        · exact retF hm.out.1.symm hm.out.2.1.symm hm.out.2.2.symm
        · repeat (first | exact Bl.refl _ | apply Bl.drewN | apply Bl.alloc | (refine Bl.setCell ?_ (Nat.le_refl _) _))
      · have hm := hid (hno.out (fun x => hl x.2))
        have hs1 := hid (show ∀ w, Calls Try.prog 33 #[.int .u64 p, .bool false] w fun e w' => e = .returned (.tuple #[.int .i64 (fn a b), .int .i64 0]) ∧ w = w' from fun w => by have := signed_any p false w p0 (by omega); rw [← he1.out, rv_ok hk, re_ok hk] at this; exact this)
        have hs2 := hid (show ∀ w, Calls Try.prog 33 #[.int .u64 q, .bool false] w fun e w' => e = .returned (.tuple #[.int .i64 0, .int .i64 15]) ∧ w = w' from fun w => by have := signed_any q false w q0 (by omega); rw [show sg q false = fd a b from he2.out.symm, rv_no hl, re_no hl] at this; exact this)
        clear hk hl
        go_enter Try.func23, Try.ntmps23
        go_wp2_with fail
        refine (hcu.out _).mono ?_
        rintro e w' ⟨rfl, rfl⟩
        go_wp2_with fail
        refine (hcv.out _).mono ?_
        rintro e w' ⟨rfl, rfl⟩
        go_wp2_with fail
        refine (hcg.out _).mono ?_
        rintro e w' ⟨rfl, n, rfl⟩
        go_wp2_with fail
        refine (hs1.out _).mono ?_
        rintro e w' ⟨rfl, rfl⟩
        go_wp2_with fail
        refine (hs2.out _).mono ?_
        rintro e w' ⟨rfl, rfl⟩
        go_wp2_with fail
        refine bodyPost_ret (v := .tuple #[.agg #[.int .i64 0, .int .i64 0], .int .i64 15]) (by simp [results, Try.results23, go_sem]) rfl ⟨?_, ?_⟩
        · exact retF hm.out.1.symm hm.out.2.1.symm hm.out.2.2.symm
        · repeat (first | exact Bl.refl _ | apply Bl.drewN | apply Bl.alloc | (refine Bl.setCell ?_ (Nat.le_refl _) _))
    · have hm := hid (hno.out (fun x => hk x.1))
      have hs1 := hid (show ∀ w, Calls Try.prog 33 #[.int .u64 p, .bool false] w fun e w' => e = .returned (.tuple #[.int .i64 0, .int .i64 15]) ∧ w = w' from fun w => by have := signed_any p false w p0 (by omega); rw [← he1.out, rv_no hk, re_no hk] at this; exact this)
      clear hk
      go_enter Try.func23, Try.ntmps23
      go_wp2_with fail
      refine (hcu.out _).mono ?_
      rintro e w' ⟨rfl, rfl⟩
      go_wp2_with fail
      refine (hcv.out _).mono ?_
      rintro e w' ⟨rfl, rfl⟩
      go_wp2_with fail
      refine (hcg.out _).mono ?_
      rintro e w' ⟨rfl, n, rfl⟩
      go_wp2_with fail
      refine (hs1.out _).mono ?_
      rintro e w' ⟨rfl, rfl⟩
      go_wp2_with fail
      refine bodyPost_ret (v := .tuple #[.agg #[.int .i64 0, .int .i64 0], .int .i64 15]) (by simp [results, Try.results23, go_sem]) rfl ⟨?_, ?_⟩
      · exact retF hm.out.1.symm hm.out.2.1.symm hm.out.2.2.symm
      · repeat (first | exact Bl.refl _ | apply Bl.drewN | apply Bl.alloc | (refine Bl.setCell ?_ (Nat.le_refl _) _))
  · rw [hd] at e1
    unfold df at hd
    have he1 := hid e1
    have he2 := hid e2
    clear e1 e2
    by_cases hk : okI (fn a b)
    · by_cases hl : okI (fd a b)
      · have hm := hid (hok.out hk hl)
        have hs1 := hid (show ∀ w, Calls Try.prog 33 #[.int .u64 p, .bool true] w fun e w' => e = .returned (.tuple #[.int .i64 (fn a b), .int .i64 0]) ∧ w = w' from fun w => by have := signed_any p true w p0 (by omega); rw [← he1.out, rv_ok hk, re_ok hk] at this; exact this)
        have hs2 := hid (show ∀ w, Calls Try.prog 33 #[.int .u64 q, .bool false] w fun e w' => e = .returned (.tuple #[.int .i64 (fd a b), .int .i64 0]) ∧ w = w' from fun w => by have := signed_any q false w q0 (by omega); rw [show sg q false = fd a b from he2.out.symm, rv_ok hl, re_ok hl] at this; exact this)
        clear hk hl
        go_enter Try.func23, Try.ntmps23
        go_wp2_with fail
        refine (hcu.out _).mono ?_
        rintro e w' ⟨rfl, rfl⟩
        go_wp2_with fail
        refine (hcv.out _).mono ?_
        rintro e w' ⟨rfl, rfl⟩
        go_wp2_with fail
        refine (hcg.out _).mono ?_
        rintro e w' ⟨rfl, n, rfl⟩
        go_wp2_with fail
        refine (hs1.out _).mono ?_
        rintro e w' ⟨rfl, rfl⟩
        go_wp2_with fail
        refine (hs2.out _).mono ?_
        rintro e w' ⟨rfl, rfl⟩
        go_wp2_with fail
        refine bodyPost_ret (v := .tuple #[.agg #[.int .i64 (fn a b), .int .i64 (fd a b)], .int .i64 0]) (by simp [results, Try.results23, go_sem]) rfl ⟨?_, ?_⟩
        · exact retF hm.out.1.symm hm.out.2.1.symm hm.out.2.2.symm
        · repeat (first | exact Bl.refl _ | apply Bl.drewN | apply Bl.alloc | (refine Bl.setCell ?_ (Nat.le_refl _) _))
      · have hm := hid (hno.out (fun x => hl x.2))
        have hs1 := hid (show ∀ w, Calls Try.prog 33 #[.int .u64 p, .bool true] w fun e w' => e = .returned (.tuple #[.int .i64 (fn a b), .int .i64 0]) ∧ w = w' from fun w => by have := signed_any p true w p0 (by omega); rw [← he1.out, rv_ok hk, re_ok hk] at this; exact this)
        have hs2 := hid (show ∀ w, Calls Try.prog 33 #[.int .u64 q, .bool false] w fun e w' => e = .returned (.tuple #[.int .i64 0, .int .i64 15]) ∧ w = w' from fun w => by have := signed_any q false w q0 (by omega); rw [show sg q false = fd a b from he2.out.symm, rv_no hl, re_no hl] at this; exact this)
        clear hk hl
        go_enter Try.func23, Try.ntmps23
        go_wp2_with fail
        refine (hcu.out _).mono ?_
        rintro e w' ⟨rfl, rfl⟩
        go_wp2_with fail
        refine (hcv.out _).mono ?_
        rintro e w' ⟨rfl, rfl⟩
        go_wp2_with fail
        refine (hcg.out _).mono ?_
        rintro e w' ⟨rfl, n, rfl⟩
        go_wp2_with fail
        refine (hs1.out _).mono ?_
        rintro e w' ⟨rfl, rfl⟩
        go_wp2_with fail
        refine (hs2.out _).mono ?_
        rintro e w' ⟨rfl, rfl⟩
        go_wp2_with fail
        refine bodyPost_ret (v := .tuple #[.agg #[.int .i64 0, .int .i64 0], .int .i64 15]) (by simp [results, Try.results23, go_sem]) rfl ⟨?_, ?_⟩
        · exact retF hm.out.1.symm hm.out.2.1.symm hm.out.2.2.symm
        · repeat (first | exact Bl.refl _ | apply Bl.drewN | apply Bl.alloc | (refine Bl.setCell ?_ (Nat.le_refl _) _))
    · have hm := hid (hno.out (fun x => hk x.1))
      have hs1 := hid (show ∀ w, Calls Try.prog 33 #[.int .u64 p, .bool true] w fun e w' => e = .returned (.tuple #[.int .i64 0, .int .i64 15]) ∧ w = w' from fun w => by have := signed_any p true w p0 (by omega); rw [← he1.out, rv_no hk, re_no hk] at this; exact this)
      clear hk
      go_enter Try.func23, Try.ntmps23
      go_wp2_with fail
      refine (hcu.out _).mono ?_
      rintro e w' ⟨rfl, rfl⟩
      go_wp2_with fail
      refine (hcv.out _).mono ?_
      rintro e w' ⟨rfl, rfl⟩
      go_wp2_with fail
      refine (hcg.out _).mono ?_
      rintro e w' ⟨rfl, n, rfl⟩
      go_wp2_with fail
      refine (hs1.out _).mono ?_
      rintro e w' ⟨rfl, rfl⟩
      go_wp2_with fail
      refine bodyPost_ret (v := .tuple #[.agg #[.int .i64 0, .int .i64 0], .int .i64 15]) (by simp [results, Try.results23, go_sem]) rfl ⟨?_, ?_⟩
      · exact retF hm.out.1.symm hm.out.2.1.symm hm.out.2.2.symm
      · repeat (first | exact Bl.refl _ | apply Bl.drewN | apply Bl.alloc | (refine Bl.setCell ?_ (Nat.le_refl _) _))

set_option maxRecDepth 100000 in
set_option maxHeartbeats 1000000 in
theorem rmake_any (a b : Int) (w : World) (ha : okI a) (hb0 : okI b) :
    Calls Try.prog 24 #[.int .i64 a, .int .i64 b] w fun e w' => e = .returned (.tuple #[.agg #[.int .i64 (mkN a b), .int .i64 (mkD a b)], .int .i64 (mkE a b)]) ∧ Bl w w' := by
  by_cases hb : b = 0
  · subst hb
    go_enter Try.func24, Try.ntmps24
    go_wp2
    refine bodyPost_ret (v := .tuple #[.agg #[.int .i64 0, .int .i64 0], .int .i64 21]) (by simp [results, Try.results24, go_sem]) rfl ⟨rfl, ?_⟩
    exact Bl.alloc (Bl.refl _) _
  have g0 : (b == 0) = false := by rw [beq_eq_false_iff_ne]; exact hb
  obtain ⟨u, v, g, p, q, hu, hv, hg, hp, hq, u0, u1, v0, v1, g1, g2, p0, p1, q0, q1⟩ := mk_parts a b ha hb0 hb
  have e1 : fn a b = sg p (df a b) := by rw [hp, hu, hg]; rfl
  have e2 : fd a b = q := by rw [hq, hv, hg]; rfl
  have cu : ∀ w, Calls Try.prog 32 #[.int .i64 a] w fun e w' => e = .returned (.int .u64 u) ∧ w = w' := by rw [hu]; unfold okI at ha; exact fun w => size_any a w ha.1 ha.2
  have cv : ∀ w, Calls Try.prog 32 #[.int .i64 b] w fun e w' => e = .returned (.int .u64 v) ∧ w = w' := by rw [hv]; unfold okI at hb0; exact fun w => size_any b w hb0.1 hb0.2
  have cg : ∀ w, Calls Try.prog 35 #[.int .u64 u, .int .u64 v] w fun e w' => e = .returned (.int .u64 g) ∧ Q w w' := by
    rw [hg, ← gcd_abs a b, ← hu, ← hv]; exact fun w => common_any u v w u0 (by omega) (by omega) (by omega)
  have hcu := hid cu
  have hcv := hid cv
  have hcg := hid cg
  have gz : ¬ g = 0 := by omega
  have hok := hid (mk_ok (a := a) (b := b) hb)
  have hno := hid (mk_no (a := a) (b := b) hb)
  have z0 := hid (fn_zero b hb)
  have hua : u = (a.natAbs : Int) := hu
  clear cu cv cg hu hv hg ha hb0 hb
  have hp' : u / g = p := hp.symm
  have hq' : v / g = q := hq.symm
  clear hp hq
  by_cases ha0 : a = 0
  · have e1' : fn a b = sg p false := by rw [ha0, z0.out]; rw [ha0] at hua; exact (by rw [← hp', hua]; simp [sg])
    have gn : (a != 0) = false := by rw [bne_eq_false_iff_eq]; exact ha0
    have he1 := hid e1'
    have he2 := hid e2
    clear e1 e2 e1' ha0 hua
    cases hdd : df a b
    · unfold df at hdd
      by_cases hk : okI (fn a b) <;> by_cases hl : okI (fd a b)
      · have hm := hid (hok.out hk hl)
        have hs1 := hid (show ∀ w, Calls Try.prog 31 #[.bool false, .int .u64 p] w fun e w' => e = .returned (.tuple #[.int .i64 (fn a b), .int .i64 0]) ∧ w = w' from fun w => by have := rsigned_any p false w p0 (by omega); rw [← he1.out, rv_ok hk, re_ok hk] at this; exact this)
        have hs2 := hid (show ∀ w, Calls Try.prog 31 #[.bool false, .int .u64 q] w fun e w' => e = .returned (.tuple #[.int .i64 (fd a b), .int .i64 0]) ∧ w = w' from fun w => by have := rsigned_any q false w q0 (by omega); rw [show sg q false = fd a b from he2.out.symm, rv_ok hl, re_ok hl] at this; exact this)
        clear hk hl
        go_enter Try.func24, Try.ntmps24
        go_wp2_with fail
        refine (hcu.out _).mono ?_
        rintro e w' ⟨rfl, rfl⟩
        go_wp2_with fail
        refine (hcv.out _).mono ?_
        rintro e w' ⟨rfl, rfl⟩
        go_wp2_with fail
        refine (hcg.out _).mono ?_
        rintro e w' ⟨rfl, n, rfl⟩
        go_wp2_with fail
        refine (hcu.out _).mono ?_
        rintro e w' ⟨rfl, rfl⟩
        go_wp2_with fail
        refine (hs1.out _).mono ?_
        rintro e w' ⟨rfl, rfl⟩
        go_wp2_with fail
        refine (hcv.out _).mono ?_
        rintro e w' ⟨rfl, rfl⟩
        go_wp2_with fail
        refine (hs2.out _).mono ?_
        rintro e w' ⟨rfl, rfl⟩
        go_wp2_with fail
        refine bodyPost_ret (v := .tuple #[.agg #[.int .i64 (fn a b), .int .i64 (fd a b)], .int .i64 0]) (by simp [results, Try.results24, go_sem]) rfl ⟨?_, ?_⟩
        · exact retF hm.out.1.symm hm.out.2.1.symm hm.out.2.2.symm
        · repeat (first | exact Bl.refl _ | apply Bl.drewN | apply Bl.alloc | (refine Bl.setCell ?_ (Nat.le_refl _) _))
      · have hm := hid (hno.out (fun x => hl x.2))
        have hs1 := hid (show ∀ w, Calls Try.prog 31 #[.bool false, .int .u64 p] w fun e w' => e = .returned (.tuple #[.int .i64 (fn a b), .int .i64 0]) ∧ w = w' from fun w => by have := rsigned_any p false w p0 (by omega); rw [← he1.out, rv_ok hk, re_ok hk] at this; exact this)
        have hs2 := hid (show ∀ w, Calls Try.prog 31 #[.bool false, .int .u64 q] w fun e w' => e = .returned (.tuple #[.int .i64 0, .int .i64 15]) ∧ w = w' from fun w => by have := rsigned_any q false w q0 (by omega); rw [show sg q false = fd a b from he2.out.symm, rv_no hl, re_no hl] at this; exact this)
        clear hk hl
        go_enter Try.func24, Try.ntmps24
        go_wp2_with fail
        refine (hcu.out _).mono ?_
        rintro e w' ⟨rfl, rfl⟩
        go_wp2_with fail
        refine (hcv.out _).mono ?_
        rintro e w' ⟨rfl, rfl⟩
        go_wp2_with fail
        refine (hcg.out _).mono ?_
        rintro e w' ⟨rfl, n, rfl⟩
        go_wp2_with fail
        refine (hcu.out _).mono ?_
        rintro e w' ⟨rfl, rfl⟩
        go_wp2_with fail
        refine (hs1.out _).mono ?_
        rintro e w' ⟨rfl, rfl⟩
        go_wp2_with fail
        refine (hcv.out _).mono ?_
        rintro e w' ⟨rfl, rfl⟩
        go_wp2_with fail
        refine (hs2.out _).mono ?_
        rintro e w' ⟨rfl, rfl⟩
        go_wp2_with fail
        refine bodyPost_ret (v := .tuple #[.agg #[.int .i64 0, .int .i64 0], .int .i64 15]) (by simp [results, Try.results24, go_sem]) rfl ⟨?_, ?_⟩
        · exact retF hm.out.1.symm hm.out.2.1.symm hm.out.2.2.symm
        · repeat (first | exact Bl.refl _ | apply Bl.drewN | apply Bl.alloc | (refine Bl.setCell ?_ (Nat.le_refl _) _))
      · have hm := hid (hno.out (fun x => hk x.1))
        have hs1 := hid (show ∀ w, Calls Try.prog 31 #[.bool false, .int .u64 p] w fun e w' => e = .returned (.tuple #[.int .i64 0, .int .i64 15]) ∧ w = w' from fun w => by have := rsigned_any p false w p0 (by omega); rw [← he1.out, rv_no hk, re_no hk] at this; exact this)
        have hs2 := hid (show ∀ w, Calls Try.prog 31 #[.bool false, .int .u64 q] w fun e w' => e = .returned (.tuple #[.int .i64 (fd a b), .int .i64 0]) ∧ w = w' from fun w => by have := rsigned_any q false w q0 (by omega); rw [show sg q false = fd a b from he2.out.symm, rv_ok hl, re_ok hl] at this; exact this)
        clear hk hl
        go_enter Try.func24, Try.ntmps24
        go_wp2_with fail
        refine (hcu.out _).mono ?_
        rintro e w' ⟨rfl, rfl⟩
        go_wp2_with fail
        refine (hcv.out _).mono ?_
        rintro e w' ⟨rfl, rfl⟩
        go_wp2_with fail
        refine (hcg.out _).mono ?_
        rintro e w' ⟨rfl, n, rfl⟩
        go_wp2_with fail
        refine (hcu.out _).mono ?_
        rintro e w' ⟨rfl, rfl⟩
        go_wp2_with fail
        refine (hs1.out _).mono ?_
        rintro e w' ⟨rfl, rfl⟩
        go_wp2_with fail
        refine (hcv.out _).mono ?_
        rintro e w' ⟨rfl, rfl⟩
        go_wp2_with fail
        refine (hs2.out _).mono ?_
        rintro e w' ⟨rfl, rfl⟩
        go_wp2_with fail
        refine bodyPost_ret (v := .tuple #[.agg #[.int .i64 0, .int .i64 0], .int .i64 15]) (by simp [results, Try.results24, go_sem]) rfl ⟨?_, ?_⟩
        · exact retF hm.out.1.symm hm.out.2.1.symm hm.out.2.2.symm
        · repeat (first | exact Bl.refl _ | apply Bl.drewN | apply Bl.alloc | (refine Bl.setCell ?_ (Nat.le_refl _) _))
      · have hm := hid (hno.out (fun x => hk x.1))
        have hs1 := hid (show ∀ w, Calls Try.prog 31 #[.bool false, .int .u64 p] w fun e w' => e = .returned (.tuple #[.int .i64 0, .int .i64 15]) ∧ w = w' from fun w => by have := rsigned_any p false w p0 (by omega); rw [← he1.out, rv_no hk, re_no hk] at this; exact this)
        have hs2 := hid (show ∀ w, Calls Try.prog 31 #[.bool false, .int .u64 q] w fun e w' => e = .returned (.tuple #[.int .i64 0, .int .i64 15]) ∧ w = w' from fun w => by have := rsigned_any q false w q0 (by omega); rw [show sg q false = fd a b from he2.out.symm, rv_no hl, re_no hl] at this; exact this)
        clear hk hl
        go_enter Try.func24, Try.ntmps24
        go_wp2_with fail
        refine (hcu.out _).mono ?_
        rintro e w' ⟨rfl, rfl⟩
        go_wp2_with fail
        refine (hcv.out _).mono ?_
        rintro e w' ⟨rfl, rfl⟩
        go_wp2_with fail
        refine (hcg.out _).mono ?_
        rintro e w' ⟨rfl, n, rfl⟩
        go_wp2_with fail
        refine (hcu.out _).mono ?_
        rintro e w' ⟨rfl, rfl⟩
        go_wp2_with fail
        refine (hs1.out _).mono ?_
        rintro e w' ⟨rfl, rfl⟩
        go_wp2_with fail
        refine (hcv.out _).mono ?_
        rintro e w' ⟨rfl, rfl⟩
        go_wp2_with fail
        refine (hs2.out _).mono ?_
        rintro e w' ⟨rfl, rfl⟩
        go_wp2_with fail
        refine bodyPost_ret (v := .tuple #[.agg #[.int .i64 0, .int .i64 0], .int .i64 15]) (by simp [results, Try.results24, go_sem]) rfl ⟨?_, ?_⟩
        · exact retF hm.out.1.symm hm.out.2.1.symm hm.out.2.2.symm
        · repeat (first | exact Bl.refl _ | apply Bl.drewN | apply Bl.alloc | (refine Bl.setCell ?_ (Nat.le_refl _) _))
    · unfold df at hdd
      by_cases hk : okI (fn a b) <;> by_cases hl : okI (fd a b)
      · have hm := hid (hok.out hk hl)
        have hs1 := hid (show ∀ w, Calls Try.prog 31 #[.bool false, .int .u64 p] w fun e w' => e = .returned (.tuple #[.int .i64 (fn a b), .int .i64 0]) ∧ w = w' from fun w => by have := rsigned_any p false w p0 (by omega); rw [← he1.out, rv_ok hk, re_ok hk] at this; exact this)
        have hs2 := hid (show ∀ w, Calls Try.prog 31 #[.bool false, .int .u64 q] w fun e w' => e = .returned (.tuple #[.int .i64 (fd a b), .int .i64 0]) ∧ w = w' from fun w => by have := rsigned_any q false w q0 (by omega); rw [show sg q false = fd a b from he2.out.symm, rv_ok hl, re_ok hl] at this; exact this)
        clear hk hl
        go_enter Try.func24, Try.ntmps24
        go_wp2_with fail
        refine (hcu.out _).mono ?_
        rintro e w' ⟨rfl, rfl⟩
        go_wp2_with fail
        refine (hcv.out _).mono ?_
        rintro e w' ⟨rfl, rfl⟩
        go_wp2_with fail
        refine (hcg.out _).mono ?_
        rintro e w' ⟨rfl, n, rfl⟩
        go_wp2_with fail
        refine (hcu.out _).mono ?_
        rintro e w' ⟨rfl, rfl⟩
        go_wp2_with fail
        refine (hs1.out _).mono ?_
        rintro e w' ⟨rfl, rfl⟩
        go_wp2_with fail
        refine (hcv.out _).mono ?_
        rintro e w' ⟨rfl, rfl⟩
        go_wp2_with fail
        refine (hs2.out _).mono ?_
        rintro e w' ⟨rfl, rfl⟩
        go_wp2_with fail
        refine bodyPost_ret (v := .tuple #[.agg #[.int .i64 (fn a b), .int .i64 (fd a b)], .int .i64 0]) (by simp [results, Try.results24, go_sem]) rfl ⟨?_, ?_⟩
        · exact retF hm.out.1.symm hm.out.2.1.symm hm.out.2.2.symm
        · repeat (first | exact Bl.refl _ | apply Bl.drewN | apply Bl.alloc | (refine Bl.setCell ?_ (Nat.le_refl _) _))
      · have hm := hid (hno.out (fun x => hl x.2))
        have hs1 := hid (show ∀ w, Calls Try.prog 31 #[.bool false, .int .u64 p] w fun e w' => e = .returned (.tuple #[.int .i64 (fn a b), .int .i64 0]) ∧ w = w' from fun w => by have := rsigned_any p false w p0 (by omega); rw [← he1.out, rv_ok hk, re_ok hk] at this; exact this)
        have hs2 := hid (show ∀ w, Calls Try.prog 31 #[.bool false, .int .u64 q] w fun e w' => e = .returned (.tuple #[.int .i64 0, .int .i64 15]) ∧ w = w' from fun w => by have := rsigned_any q false w q0 (by omega); rw [show sg q false = fd a b from he2.out.symm, rv_no hl, re_no hl] at this; exact this)
        clear hk hl
        go_enter Try.func24, Try.ntmps24
        go_wp2_with fail
        refine (hcu.out _).mono ?_
        rintro e w' ⟨rfl, rfl⟩
        go_wp2_with fail
        refine (hcv.out _).mono ?_
        rintro e w' ⟨rfl, rfl⟩
        go_wp2_with fail
        refine (hcg.out _).mono ?_
        rintro e w' ⟨rfl, n, rfl⟩
        go_wp2_with fail
        refine (hcu.out _).mono ?_
        rintro e w' ⟨rfl, rfl⟩
        go_wp2_with fail
        refine (hs1.out _).mono ?_
        rintro e w' ⟨rfl, rfl⟩
        go_wp2_with fail
        refine (hcv.out _).mono ?_
        rintro e w' ⟨rfl, rfl⟩
        go_wp2_with fail
        refine (hs2.out _).mono ?_
        rintro e w' ⟨rfl, rfl⟩
        go_wp2_with fail
        refine bodyPost_ret (v := .tuple #[.agg #[.int .i64 0, .int .i64 0], .int .i64 15]) (by simp [results, Try.results24, go_sem]) rfl ⟨?_, ?_⟩
        · exact retF hm.out.1.symm hm.out.2.1.symm hm.out.2.2.symm
        · repeat (first | exact Bl.refl _ | apply Bl.drewN | apply Bl.alloc | (refine Bl.setCell ?_ (Nat.le_refl _) _))
      · have hm := hid (hno.out (fun x => hk x.1))
        have hs1 := hid (show ∀ w, Calls Try.prog 31 #[.bool false, .int .u64 p] w fun e w' => e = .returned (.tuple #[.int .i64 0, .int .i64 15]) ∧ w = w' from fun w => by have := rsigned_any p false w p0 (by omega); rw [← he1.out, rv_no hk, re_no hk] at this; exact this)
        have hs2 := hid (show ∀ w, Calls Try.prog 31 #[.bool false, .int .u64 q] w fun e w' => e = .returned (.tuple #[.int .i64 (fd a b), .int .i64 0]) ∧ w = w' from fun w => by have := rsigned_any q false w q0 (by omega); rw [show sg q false = fd a b from he2.out.symm, rv_ok hl, re_ok hl] at this; exact this)
        clear hk hl
        go_enter Try.func24, Try.ntmps24
        go_wp2_with fail
        refine (hcu.out _).mono ?_
        rintro e w' ⟨rfl, rfl⟩
        go_wp2_with fail
        refine (hcv.out _).mono ?_
        rintro e w' ⟨rfl, rfl⟩
        go_wp2_with fail
        refine (hcg.out _).mono ?_
        rintro e w' ⟨rfl, n, rfl⟩
        go_wp2_with fail
        refine (hcu.out _).mono ?_
        rintro e w' ⟨rfl, rfl⟩
        go_wp2_with fail
        refine (hs1.out _).mono ?_
        rintro e w' ⟨rfl, rfl⟩
        go_wp2_with fail
        refine (hcv.out _).mono ?_
        rintro e w' ⟨rfl, rfl⟩
        go_wp2_with fail
        refine (hs2.out _).mono ?_
        rintro e w' ⟨rfl, rfl⟩
        go_wp2_with fail
        refine bodyPost_ret (v := .tuple #[.agg #[.int .i64 0, .int .i64 0], .int .i64 15]) (by simp [results, Try.results24, go_sem]) rfl ⟨?_, ?_⟩
        · exact retF hm.out.1.symm hm.out.2.1.symm hm.out.2.2.symm
        · repeat (first | exact Bl.refl _ | apply Bl.drewN | apply Bl.alloc | (refine Bl.setCell ?_ (Nat.le_refl _) _))
      · have hm := hid (hno.out (fun x => hk x.1))
        have hs1 := hid (show ∀ w, Calls Try.prog 31 #[.bool false, .int .u64 p] w fun e w' => e = .returned (.tuple #[.int .i64 0, .int .i64 15]) ∧ w = w' from fun w => by have := rsigned_any p false w p0 (by omega); rw [← he1.out, rv_no hk, re_no hk] at this; exact this)
        have hs2 := hid (show ∀ w, Calls Try.prog 31 #[.bool false, .int .u64 q] w fun e w' => e = .returned (.tuple #[.int .i64 0, .int .i64 15]) ∧ w = w' from fun w => by have := rsigned_any q false w q0 (by omega); rw [show sg q false = fd a b from he2.out.symm, rv_no hl, re_no hl] at this; exact this)
        clear hk hl
        go_enter Try.func24, Try.ntmps24
        go_wp2_with fail
        refine (hcu.out _).mono ?_
        rintro e w' ⟨rfl, rfl⟩
        go_wp2_with fail
        refine (hcv.out _).mono ?_
        rintro e w' ⟨rfl, rfl⟩
        go_wp2_with fail
        refine (hcg.out _).mono ?_
        rintro e w' ⟨rfl, n, rfl⟩
        go_wp2_with fail
        refine (hcu.out _).mono ?_
        rintro e w' ⟨rfl, rfl⟩
        go_wp2_with fail
        refine (hs1.out _).mono ?_
        rintro e w' ⟨rfl, rfl⟩
        go_wp2_with fail
        refine (hcv.out _).mono ?_
        rintro e w' ⟨rfl, rfl⟩
        go_wp2_with fail
        refine (hs2.out _).mono ?_
        rintro e w' ⟨rfl, rfl⟩
        go_wp2_with fail
        refine bodyPost_ret (v := .tuple #[.agg #[.int .i64 0, .int .i64 0], .int .i64 15]) (by simp [results, Try.results24, go_sem]) rfl ⟨?_, ?_⟩
        · exact retF hm.out.1.symm hm.out.2.1.symm hm.out.2.2.symm
        · repeat (first | exact Bl.refl _ | apply Bl.drewN | apply Bl.alloc | (refine Bl.setCell ?_ (Nat.le_refl _) _))
  · have gn : (a != 0) = true := by rw [bne_iff_ne]; exact ha0
    clear ha0 hua
    cases hd : df a b
    · rw [hd] at e1
      unfold df at hd
      have he1 := hid e1
      have he2 := hid e2
      clear e1 e2
      by_cases hk : okI (fn a b) <;> by_cases hl : okI (fd a b)
      · have hm := hid (hok.out hk hl)
        have hs1 := hid (show ∀ w, Calls Try.prog 31 #[.bool false, .int .u64 p] w fun e w' => e = .returned (.tuple #[.int .i64 (fn a b), .int .i64 0]) ∧ w = w' from fun w => by have := rsigned_any p false w p0 (by omega); rw [← he1.out, rv_ok hk, re_ok hk] at this; exact this)
        have hs2 := hid (show ∀ w, Calls Try.prog 31 #[.bool false, .int .u64 q] w fun e w' => e = .returned (.tuple #[.int .i64 (fd a b), .int .i64 0]) ∧ w = w' from fun w => by have := rsigned_any q false w q0 (by omega); rw [show sg q false = fd a b from he2.out.symm, rv_ok hl, re_ok hl] at this; exact this)
        clear hk hl
        go_enter Try.func24, Try.ntmps24
        go_wp2_with fail
        refine (hcu.out _).mono ?_
        rintro e w' ⟨rfl, rfl⟩
        go_wp2_with fail
        refine (hcv.out _).mono ?_
        rintro e w' ⟨rfl, rfl⟩
        go_wp2_with fail
        refine (hcg.out _).mono ?_
        rintro e w' ⟨rfl, n, rfl⟩
        go_wp2_with fail
        refine (hcu.out _).mono ?_
        rintro e w' ⟨rfl, rfl⟩
        go_wp2_with fail
        refine (hs1.out _).mono ?_
        rintro e w' ⟨rfl, rfl⟩
        go_wp2_with fail
        refine (hcv.out _).mono ?_
        rintro e w' ⟨rfl, rfl⟩
        go_wp2_with fail
        refine (hs2.out _).mono ?_
        rintro e w' ⟨rfl, rfl⟩
        go_wp2_with fail
        refine bodyPost_ret (v := .tuple #[.agg #[.int .i64 (fn a b), .int .i64 (fd a b)], .int .i64 0]) (by simp [results, Try.results24, go_sem]) rfl ⟨?_, ?_⟩
        · exact retF hm.out.1.symm hm.out.2.1.symm hm.out.2.2.symm
        · repeat (first | exact Bl.refl _ | apply Bl.drewN | apply Bl.alloc | (refine Bl.setCell ?_ (Nat.le_refl _) _))
      · have hm := hid (hno.out (fun x => hl x.2))
        have hs1 := hid (show ∀ w, Calls Try.prog 31 #[.bool false, .int .u64 p] w fun e w' => e = .returned (.tuple #[.int .i64 (fn a b), .int .i64 0]) ∧ w = w' from fun w => by have := rsigned_any p false w p0 (by omega); rw [← he1.out, rv_ok hk, re_ok hk] at this; exact this)
        have hs2 := hid (show ∀ w, Calls Try.prog 31 #[.bool false, .int .u64 q] w fun e w' => e = .returned (.tuple #[.int .i64 0, .int .i64 15]) ∧ w = w' from fun w => by have := rsigned_any q false w q0 (by omega); rw [show sg q false = fd a b from he2.out.symm, rv_no hl, re_no hl] at this; exact this)
        clear hk hl
        go_enter Try.func24, Try.ntmps24
        go_wp2_with fail
        refine (hcu.out _).mono ?_
        rintro e w' ⟨rfl, rfl⟩
        go_wp2_with fail
        refine (hcv.out _).mono ?_
        rintro e w' ⟨rfl, rfl⟩
        go_wp2_with fail
        refine (hcg.out _).mono ?_
        rintro e w' ⟨rfl, n, rfl⟩
        go_wp2_with fail
        refine (hcu.out _).mono ?_
        rintro e w' ⟨rfl, rfl⟩
        go_wp2_with fail
        refine (hs1.out _).mono ?_
        rintro e w' ⟨rfl, rfl⟩
        go_wp2_with fail
        refine (hcv.out _).mono ?_
        rintro e w' ⟨rfl, rfl⟩
        go_wp2_with fail
        refine (hs2.out _).mono ?_
        rintro e w' ⟨rfl, rfl⟩
        go_wp2_with fail
        refine bodyPost_ret (v := .tuple #[.agg #[.int .i64 0, .int .i64 0], .int .i64 15]) (by simp [results, Try.results24, go_sem]) rfl ⟨?_, ?_⟩
        · exact retF hm.out.1.symm hm.out.2.1.symm hm.out.2.2.symm
        · repeat (first | exact Bl.refl _ | apply Bl.drewN | apply Bl.alloc | (refine Bl.setCell ?_ (Nat.le_refl _) _))
      · have hm := hid (hno.out (fun x => hk x.1))
        have hs1 := hid (show ∀ w, Calls Try.prog 31 #[.bool false, .int .u64 p] w fun e w' => e = .returned (.tuple #[.int .i64 0, .int .i64 15]) ∧ w = w' from fun w => by have := rsigned_any p false w p0 (by omega); rw [← he1.out, rv_no hk, re_no hk] at this; exact this)
        have hs2 := hid (show ∀ w, Calls Try.prog 31 #[.bool false, .int .u64 q] w fun e w' => e = .returned (.tuple #[.int .i64 (fd a b), .int .i64 0]) ∧ w = w' from fun w => by have := rsigned_any q false w q0 (by omega); rw [show sg q false = fd a b from he2.out.symm, rv_ok hl, re_ok hl] at this; exact this)
        clear hk hl
        go_enter Try.func24, Try.ntmps24
        go_wp2_with fail
        refine (hcu.out _).mono ?_
        rintro e w' ⟨rfl, rfl⟩
        go_wp2_with fail
        refine (hcv.out _).mono ?_
        rintro e w' ⟨rfl, rfl⟩
        go_wp2_with fail
        refine (hcg.out _).mono ?_
        rintro e w' ⟨rfl, n, rfl⟩
        go_wp2_with fail
        refine (hcu.out _).mono ?_
        rintro e w' ⟨rfl, rfl⟩
        go_wp2_with fail
        refine (hs1.out _).mono ?_
        rintro e w' ⟨rfl, rfl⟩
        go_wp2_with fail
        refine (hcv.out _).mono ?_
        rintro e w' ⟨rfl, rfl⟩
        go_wp2_with fail
        refine (hs2.out _).mono ?_
        rintro e w' ⟨rfl, rfl⟩
        go_wp2_with fail
        refine bodyPost_ret (v := .tuple #[.agg #[.int .i64 0, .int .i64 0], .int .i64 15]) (by simp [results, Try.results24, go_sem]) rfl ⟨?_, ?_⟩
        · exact retF hm.out.1.symm hm.out.2.1.symm hm.out.2.2.symm
        · repeat (first | exact Bl.refl _ | apply Bl.drewN | apply Bl.alloc | (refine Bl.setCell ?_ (Nat.le_refl _) _))
      · have hm := hid (hno.out (fun x => hk x.1))
        have hs1 := hid (show ∀ w, Calls Try.prog 31 #[.bool false, .int .u64 p] w fun e w' => e = .returned (.tuple #[.int .i64 0, .int .i64 15]) ∧ w = w' from fun w => by have := rsigned_any p false w p0 (by omega); rw [← he1.out, rv_no hk, re_no hk] at this; exact this)
        have hs2 := hid (show ∀ w, Calls Try.prog 31 #[.bool false, .int .u64 q] w fun e w' => e = .returned (.tuple #[.int .i64 0, .int .i64 15]) ∧ w = w' from fun w => by have := rsigned_any q false w q0 (by omega); rw [show sg q false = fd a b from he2.out.symm, rv_no hl, re_no hl] at this; exact this)
        clear hk hl
        go_enter Try.func24, Try.ntmps24
        go_wp2_with fail
        refine (hcu.out _).mono ?_
        rintro e w' ⟨rfl, rfl⟩
        go_wp2_with fail
        refine (hcv.out _).mono ?_
        rintro e w' ⟨rfl, rfl⟩
        go_wp2_with fail
        refine (hcg.out _).mono ?_
        rintro e w' ⟨rfl, n, rfl⟩
        go_wp2_with fail
        refine (hcu.out _).mono ?_
        rintro e w' ⟨rfl, rfl⟩
        go_wp2_with fail
        refine (hs1.out _).mono ?_
        rintro e w' ⟨rfl, rfl⟩
        go_wp2_with fail
        refine (hcv.out _).mono ?_
        rintro e w' ⟨rfl, rfl⟩
        go_wp2_with fail
        refine (hs2.out _).mono ?_
        rintro e w' ⟨rfl, rfl⟩
        go_wp2_with fail
        refine bodyPost_ret (v := .tuple #[.agg #[.int .i64 0, .int .i64 0], .int .i64 15]) (by simp [results, Try.results24, go_sem]) rfl ⟨?_, ?_⟩
        · exact retF hm.out.1.symm hm.out.2.1.symm hm.out.2.2.symm
        · repeat (first | exact Bl.refl _ | apply Bl.drewN | apply Bl.alloc | (refine Bl.setCell ?_ (Nat.le_refl _) _))
    · rw [hd] at e1
      unfold df at hd
      have he1 := hid e1
      have he2 := hid e2
      clear e1 e2
      by_cases hk : okI (fn a b) <;> by_cases hl : okI (fd a b)
      · have hm := hid (hok.out hk hl)
        have hs1 := hid (show ∀ w, Calls Try.prog 31 #[.bool true, .int .u64 p] w fun e w' => e = .returned (.tuple #[.int .i64 (fn a b), .int .i64 0]) ∧ w = w' from fun w => by have := rsigned_any p true w p0 (by omega); rw [← he1.out, rv_ok hk, re_ok hk] at this; exact this)
        have hs2 := hid (show ∀ w, Calls Try.prog 31 #[.bool false, .int .u64 q] w fun e w' => e = .returned (.tuple #[.int .i64 (fd a b), .int .i64 0]) ∧ w = w' from fun w => by have := rsigned_any q false w q0 (by omega); rw [show sg q false = fd a b from he2.out.symm, rv_ok hl, re_ok hl] at this; exact this)
        clear hk hl
        go_enter Try.func24, Try.ntmps24
        go_wp2_with fail
        refine (hcu.out _).mono ?_
        rintro e w' ⟨rfl, rfl⟩
        go_wp2_with fail
        refine (hcv.out _).mono ?_
        rintro e w' ⟨rfl, rfl⟩
        go_wp2_with fail
        refine (hcg.out _).mono ?_
        rintro e w' ⟨rfl, n, rfl⟩
        go_wp2_with fail
        refine (hcu.out _).mono ?_
        rintro e w' ⟨rfl, rfl⟩
        go_wp2_with fail
        refine (hs1.out _).mono ?_
        rintro e w' ⟨rfl, rfl⟩
        go_wp2_with fail
        refine (hcv.out _).mono ?_
        rintro e w' ⟨rfl, rfl⟩
        go_wp2_with fail
        refine (hs2.out _).mono ?_
        rintro e w' ⟨rfl, rfl⟩
        go_wp2_with fail
        refine bodyPost_ret (v := .tuple #[.agg #[.int .i64 (fn a b), .int .i64 (fd a b)], .int .i64 0]) (by simp [results, Try.results24, go_sem]) rfl ⟨?_, ?_⟩
        · exact retF hm.out.1.symm hm.out.2.1.symm hm.out.2.2.symm
        · repeat (first | exact Bl.refl _ | apply Bl.drewN | apply Bl.alloc | (refine Bl.setCell ?_ (Nat.le_refl _) _))
      · have hm := hid (hno.out (fun x => hl x.2))
        have hs1 := hid (show ∀ w, Calls Try.prog 31 #[.bool true, .int .u64 p] w fun e w' => e = .returned (.tuple #[.int .i64 (fn a b), .int .i64 0]) ∧ w = w' from fun w => by have := rsigned_any p true w p0 (by omega); rw [← he1.out, rv_ok hk, re_ok hk] at this; exact this)
        have hs2 := hid (show ∀ w, Calls Try.prog 31 #[.bool false, .int .u64 q] w fun e w' => e = .returned (.tuple #[.int .i64 0, .int .i64 15]) ∧ w = w' from fun w => by have := rsigned_any q false w q0 (by omega); rw [show sg q false = fd a b from he2.out.symm, rv_no hl, re_no hl] at this; exact this)
        clear hk hl
        go_enter Try.func24, Try.ntmps24
        go_wp2_with fail
        refine (hcu.out _).mono ?_
        rintro e w' ⟨rfl, rfl⟩
        go_wp2_with fail
        refine (hcv.out _).mono ?_
        rintro e w' ⟨rfl, rfl⟩
        go_wp2_with fail
        refine (hcg.out _).mono ?_
        rintro e w' ⟨rfl, n, rfl⟩
        go_wp2_with fail
        refine (hcu.out _).mono ?_
        rintro e w' ⟨rfl, rfl⟩
        go_wp2_with fail
        refine (hs1.out _).mono ?_
        rintro e w' ⟨rfl, rfl⟩
        go_wp2_with fail
        refine (hcv.out _).mono ?_
        rintro e w' ⟨rfl, rfl⟩
        go_wp2_with fail
        refine (hs2.out _).mono ?_
        rintro e w' ⟨rfl, rfl⟩
        go_wp2_with fail
        refine bodyPost_ret (v := .tuple #[.agg #[.int .i64 0, .int .i64 0], .int .i64 15]) (by simp [results, Try.results24, go_sem]) rfl ⟨?_, ?_⟩
        · exact retF hm.out.1.symm hm.out.2.1.symm hm.out.2.2.symm
        · repeat (first | exact Bl.refl _ | apply Bl.drewN | apply Bl.alloc | (refine Bl.setCell ?_ (Nat.le_refl _) _))
      · have hm := hid (hno.out (fun x => hk x.1))
        have hs1 := hid (show ∀ w, Calls Try.prog 31 #[.bool true, .int .u64 p] w fun e w' => e = .returned (.tuple #[.int .i64 0, .int .i64 15]) ∧ w = w' from fun w => by have := rsigned_any p true w p0 (by omega); rw [← he1.out, rv_no hk, re_no hk] at this; exact this)
        have hs2 := hid (show ∀ w, Calls Try.prog 31 #[.bool false, .int .u64 q] w fun e w' => e = .returned (.tuple #[.int .i64 (fd a b), .int .i64 0]) ∧ w = w' from fun w => by have := rsigned_any q false w q0 (by omega); rw [show sg q false = fd a b from he2.out.symm, rv_ok hl, re_ok hl] at this; exact this)
        clear hk hl
        go_enter Try.func24, Try.ntmps24
        go_wp2_with fail
        refine (hcu.out _).mono ?_
        rintro e w' ⟨rfl, rfl⟩
        go_wp2_with fail
        refine (hcv.out _).mono ?_
        rintro e w' ⟨rfl, rfl⟩
        go_wp2_with fail
        refine (hcg.out _).mono ?_
        rintro e w' ⟨rfl, n, rfl⟩
        go_wp2_with fail
        refine (hcu.out _).mono ?_
        rintro e w' ⟨rfl, rfl⟩
        go_wp2_with fail
        refine (hs1.out _).mono ?_
        rintro e w' ⟨rfl, rfl⟩
        go_wp2_with fail
        refine (hcv.out _).mono ?_
        rintro e w' ⟨rfl, rfl⟩
        go_wp2_with fail
        refine (hs2.out _).mono ?_
        rintro e w' ⟨rfl, rfl⟩
        go_wp2_with fail
        refine bodyPost_ret (v := .tuple #[.agg #[.int .i64 0, .int .i64 0], .int .i64 15]) (by simp [results, Try.results24, go_sem]) rfl ⟨?_, ?_⟩
        · exact retF hm.out.1.symm hm.out.2.1.symm hm.out.2.2.symm
        · repeat (first | exact Bl.refl _ | apply Bl.drewN | apply Bl.alloc | (refine Bl.setCell ?_ (Nat.le_refl _) _))
      · have hm := hid (hno.out (fun x => hk x.1))
        have hs1 := hid (show ∀ w, Calls Try.prog 31 #[.bool true, .int .u64 p] w fun e w' => e = .returned (.tuple #[.int .i64 0, .int .i64 15]) ∧ w = w' from fun w => by have := rsigned_any p true w p0 (by omega); rw [← he1.out, rv_no hk, re_no hk] at this; exact this)
        have hs2 := hid (show ∀ w, Calls Try.prog 31 #[.bool false, .int .u64 q] w fun e w' => e = .returned (.tuple #[.int .i64 0, .int .i64 15]) ∧ w = w' from fun w => by have := rsigned_any q false w q0 (by omega); rw [show sg q false = fd a b from he2.out.symm, rv_no hl, re_no hl] at this; exact this)
        clear hk hl
        go_enter Try.func24, Try.ntmps24
        go_wp2_with fail
        refine (hcu.out _).mono ?_
        rintro e w' ⟨rfl, rfl⟩
        go_wp2_with fail
        refine (hcv.out _).mono ?_
        rintro e w' ⟨rfl, rfl⟩
        go_wp2_with fail
        refine (hcg.out _).mono ?_
        rintro e w' ⟨rfl, n, rfl⟩
        go_wp2_with fail
        refine (hcu.out _).mono ?_
        rintro e w' ⟨rfl, rfl⟩
        go_wp2_with fail
        refine (hs1.out _).mono ?_
        rintro e w' ⟨rfl, rfl⟩
        go_wp2_with fail
        refine (hcv.out _).mono ?_
        rintro e w' ⟨rfl, rfl⟩
        go_wp2_with fail
        refine (hs2.out _).mono ?_
        rintro e w' ⟨rfl, rfl⟩
        go_wp2_with fail
        refine bodyPost_ret (v := .tuple #[.agg #[.int .i64 0, .int .i64 0], .int .i64 15]) (by simp [results, Try.results24, go_sem]) rfl ⟨?_, ?_⟩
        · exact retF hm.out.1.symm hm.out.2.1.symm hm.out.2.2.symm
        · repeat (first | exact Bl.refl _ | apply Bl.drewN | apply Bl.alloc | (refine Bl.setCell ?_ (Nat.le_refl _) _))
end Go.Proofs.Ytjnlbgmfhomepaa.Num
