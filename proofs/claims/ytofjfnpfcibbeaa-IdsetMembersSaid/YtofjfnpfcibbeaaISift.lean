/- seeker; sifted: the set of the elements of one list that another one contains, or does not. -/
import Derived.Test.YtofjfnpfcibbeaaISeek
namespace Go.Proofs.Ytofjfnpfcibbeaa.Idset
open Go.RowKit
open Go.Proofs.Ytofjfnpfcibbeaa.Wire
set_option linter.unusedVariables false

/-- a step, and the list that it goes along -/
def Seeks (w : World) (ys : List Int) (e : Ending) (w' : World) : Prop :=
  ∃ (r : Nat) (A : Option Addr) (c : Nat), e = .returned (.func (.func 36) #[] #[.pointer (some ⟨r, 0, none⟩)]) ∧ w.heap.size ≤ r ∧ w'.heap[r]? = some (.cells #[.slice A ys.length c] 22 (0, 0)) ∧ ys.length ≤ c ∧ Sh w' w'.heap.size .i64 A ys.length ys ∧ Bl w w'

set_option maxHeartbeats 600000 in
theorem seeker_any (A : Option Addr) (n c : Nat) (xs : List Int) (w : World) (hS : Sh w w.heap.size .i64 A n xs) (hm : n ≤ 1099511627776) :
    Calls Try.prog 32 #[.slice A n c] w (Seeks w (nrm xs)) := by
  have hmf : ∀ (fn : Fn) (first cap : Array Value) (w : World), (Instr.makeFunc fn first cap).run Try.prog w = .ok (.func fn first cap) w := fun _ _ _ _ => rfl
  have R := fun T => hid (setOf_one A n c xs w T hS hm)
  generalize nrm xs = ys at *
  go_enter Try.func32, Try.ntmps32
  go_wp2_with fail
  refine (R _).out.mono ?_
  rintro e w1 ⟨A1, c1, rfl, hs, hc, hb⟩
  have hb1 : Bl w w1 := Bl.trans ((Bl.refl w).alloc _) hb
  clear R hb
  go_wp2_with fail
  go_ret
  exact ⟨w1.heap.size, A1, c1, rfl, hb1.size, heap_alloc_new w1 _, hc, hs.al _, hb1.alloc _⟩

theorem hasb_nrm (ys : List Int) (x : Int) : hasb (nrm ys) x = hasb ys x := by unfold hasb; simp only [nrm_mem]
theorem drop_at {S : List Int} {k : Nat} (h : k < S.length) : S.getD k 0 ∈ S.drop k := by
  have : S.getD k 0 = (S.drop k)[0]'(by simp; omega) := by simp [List.getD, List.getElem?_eq_getElem h]
  rw [this]; exact List.getElem_mem _
theorem drop_next {S : List Int} {k : Nat} (ha : asc S) (h : k < S.length) : ∀ y ∈ S.drop (k + 1), S.getD k 0 < y := by
  intro y hy
  rw [List.mem_iff_getElem] at hy
  obtain ⟨i, hi, rfl⟩ := hy
  rw [List.length_drop] at hi
  have := List.pairwise_iff_getElem.1 ha k (k + 1 + i) h (by omega) (by omega)
  simpa [List.getD, List.getElem?_eq_getElem h] using this
theorem sift_more {S R : List Int} {j j2 k : Nat} (ha : asc S) (h : k < S.length) (h1 : ∀ x ∈ R.take j, ∀ y ∈ S.drop k, x < y) (h2 : ∀ x ∈ (R.drop j).take j2, x < S.getD k 0) :
    ∀ x ∈ R.take (j + j2), ∀ y ∈ S.drop (k + 1), x < y := by
  intro x hx y hy
  rw [List.take_add] at hx
  rcases List.mem_append.1 hx with g | g
  · refine h1 x g y ?_
    have : S.drop (k + 1) = (S.drop k).drop 1 := by rw [List.drop_drop]
    rw [this] at hy
    exact List.mem_of_mem_drop hy
  · have a := h2 x g
    have b := drop_next ha h y hy
    omega

def sift (S R : List Int) (s : Bool) : List Int := S.filter fun x => hasb R x == s
theorem sift_in {l R : List Int} {x : Int} {s : Bool} (h : hasb R x = s) : sift (l ++ [x]) R s = sift l R s ++ [x] := by
  unfold sift; rw [List.filter_append, List.filter_cons, if_pos (by simp [h])]; rfl
theorem sift_out {l R : List Int} {x : Int} {s : Bool} (h : hasb R x = !s) : sift (l ++ [x]) R s = sift l R s := by
  unfold sift; rw [List.filter_append, List.filter_cons, if_neg (by simp [h])]; simp

set_option maxHeartbeats 2000000 in
theorem sifted_any (A : Option Addr) (n c : Nat) (xs : List Int) (A1 : Option Addr) (n1 c1 : Nat) (ys : List Int) (s : Bool) (w : World) (hS : Sh w w.heap.size .i64 A n xs) (hS1 : Sh w w.heap.size .i64 A1 n1 ys) (hm : n ≤ 1099511627776) (hm1 : n1 ≤ 1099511627776) :
    Calls Try.prog 27 #[.slice A n c, .slice A1 n1 c1, .bool s] w (Out2 w .i64 (sift (nrm xs) (nrm ys) s)) := by
  have R0 := hid (seeker_any A1 n1 c1 ys w hS1 hm1)
  have hnl := nrm_len xs
  have hnl1 := nrm_len ys
  rw [hS.len] at hnl
  rw [hS1.len] at hnl1
  have R1 := fun (w1 : World) (h : Sh w1 w1.heap.size .i64 A n xs) (T : TypeId) => setOf_one A n c xs w1 T h hm
  have aS := hid (nrm_asc xs)
  have aR := hid (nrm_asc ys)
  generalize nrm xs = S at *
  generalize nrm ys = R at *
  go_enter Try.func27, Try.ntmps27
  go_wp2_with fail
  refine R0.out.mono ?_
  rintro e w1 ⟨r, Ar, cr, rfl, hwr, hr, hcr, hsr, hb1⟩
  have r1 := hid (R1 w1 (hS.bl hb1))
  clear R1 R0
  have hR := hid hr
  have hrl := lt_of_block hr
  clear hr
  go_wp2_with fail
  refine (r1.out _).mono ?_
  rintro e w2 ⟨A2, c2, rfl, hs2, hc2, hb2⟩
  have hb12 : Bl w1 w2 := Bl.trans ((Bl.refl w1).alloc _) hb2
  have hR2 : Hid (w2.heap[r]? = some (.cells #[.slice Ar R.length cr] 22 (0, 0))) := hid ((hb12.block r hrl).trans hR.out)
  have hsr2 := hsr.bl hb12
  have hr2 := lt_of_block hR2.out
  have hb02 := Bl.trans hb1 hb12
  clear hb2 hb12 hsr hb1 r1
  generalize hna : S.length = na at *
  have HNA := hid hna
  clear hna
  generalize hnr : R.length = nr at *
  have HNR := hid hnr
  clear hnr
  go_wp2_with fail
  go_loopw [6, 16] (fun b i wr => ∃ (A6 : Option Addr) (n6 c6 k j m : Nat) (Aq : Option Addr) (cq : Nat) (L : List Int), b = .slice A6 n6 c6 ∧ i = .int .i64 k ∧ k ≤ na ∧ n6 ≤ k ∧ Ow wr w2.heap.size 3 .i64 A6 n6 c6 L ∧ Hid (L = sift (S.take k) R s) ∧
      Hid (wr.heap[r]? = some (.cells #[.slice Aq m cq] 22 (0, 0))) ∧ m ≤ cq ∧ Sh wr w2.heap.size .i64 Aq m (R.drop j) ∧ Hid (∀ x ∈ R.take j, ∀ y ∈ S.drop k, x < y) ∧ Sh wr w2.heap.size .i64 A2 na S ∧ Bl w wr ∧ w2.heap.size ≤ wr.heap.size) (fun _ i _ => na - (intOf i).toNat)
  case atStart => exact ⟨none, 0, 0, 0, 0, nr, Ar, cr, [], rfl, rfl, by omega, by omega, Ow.none_ _ _ _ _, hid rfl, hR2, hcr, by rw [List.drop_zero]; exact hsr2, hid (by simp), hs2, hb02, Nat.le_refl _⟩
  case round =>
    clear hs2 hsr2 hR2 hcr
    obtain ⟨A6, n6, c6, k, j, m, Aq, cq, L, rfl, rfl, hk, hn6, ho, hL, hq, hmq, hsq, hlt, hsS, hb, hsz⟩ := hrel
    by_cases hlk : k < na
    · obtain ⟨b, o, rfl, _, hcell⟩ := hsS.2 (by omega)
      have hc1 := hcell k hlk
      have hkl : k < S.length := by rw [HNA.out]; exact hlk
      have hsn := hid (take_snoc (l := S) (i := k) hkl)
      have hmem := hid (drop_at hkl)
      have hmore := fun (j2 : Nat) (h : ∀ x ∈ (R.drop j).take j2, x < S.getD k 0) => sift_more aS.out hkl hlt.out h
      have haq : asc (R.drop j) := List.Pairwise.sublist (List.drop_sublist _ _) aR.out
      have hml : m ≤ 1099511627776 := by have := hsq.len; rw [List.length_drop, HNR.out] at this; omega
      have st := step_any r _ Aq m cq (R.drop j) (S.getD k 0) wr hq.out hmq hsq haq hml
      have hbs : hasb (R.drop j) (S.getD k 0) = hasb R (S.getD k 0) := (hasb_lt (fun x hx => hlt.out x hx _ hmem.out)).symm
      unfold Step at st
      rw [hbs] at st
      have hmore' := hid hmore
      clear hcell hmore haq hbs hmem hkl
      generalize S.getD k 0 = x at *
      cases hh : hasb R x
      all_goals
        rw [hh] at st
        have ST := hid st
        clear st
      all_goals cases s
      · have fin := hid (show sift (S.take (k + 1)) R false = L ++ [x] by rw [hsn.out, sift_in hh, hL.out])
        clear hh
        go_wp2_with fail
        refine ST.out.mono ?_
        rintro e w3 ⟨Aq3, j3, m3, cq3, rfl, hq3, hmq3, hsq3, hlt3, hbut⟩
        have ho3 := Ow.but ho hq.out (by decide) hbut
        have hsS3 := Sh.but hsS hq.out hbut
        have hb3 := But.bl hb hbut hwr
        have hsz3 : w2.heap.size ≤ w3.heap.size := by rw [hbut.size]; exact hsz
        have HQ3 := hid hq3
        have HL3 := hid (hmore'.out _ hlt3)
        have hrl3 := lt_of_block hq3
        have HS3 := hid hsq3
        have HO3 := hid ho3
        have HE := hid hsS3
        clear hq3 hlt3 hbut hmore' hsq3 ho3 hsS3 hsS hq hsq ho
        go_wp2_with (at_builtin; refine wpList_app_own _ rfl (.tmp 25) (.tmp 27) _ rfl elI rfl (HO3.out.alloc _) rfl (Sh.one _ _ _ _) (by omega) (by omega) (by simp; omega) ?_; intro A7 c7 w4 ho4 hb4)
        have hb34 : Below w2.heap.size w3 w4 := Below.trans ((Below.refl _ w3).alloc hsz3 _) hb4
        go_roundw
        case rel => exact ⟨A7, n6 + 1, c7, k + 1, j + j3, m3, Aq3, cq3, L ++ [x], by rfl, by go_num, by omega, by omega, ho4, hid fin.out.symm, hid ((hb34.block r hr2).trans HQ3.out), hmq3, by have := HS3.out.below hb34; rw [List.drop_drop] at this; exact this, HL3, HE.out.below hb34, Below.trans hb3 (hb34.mono hb02.size), Nat.le_trans hsz3 hb34.size⟩
        case measure => simp [intOf]; omega
      · have fin := hid (show sift (S.take (k + 1)) R true = L by rw [hsn.out, sift_out hh, hL.out])
        clear hh
        go_wp2_with fail
        refine ST.out.mono ?_
        rintro e w3 ⟨Aq3, j3, m3, cq3, rfl, hq3, hmq3, hsq3, hlt3, hbut⟩
        have ho3 := Ow.but ho hq.out (by decide) hbut
        have hsS3 := Sh.but hsS hq.out hbut
        have hb3 := But.bl hb hbut hwr
        have hsz3 : w2.heap.size ≤ w3.heap.size := by rw [hbut.size]; exact hsz
        have HQ3 := hid hq3
        have HL3 := hid (hmore'.out _ hlt3)
        have hrl3 := lt_of_block hq3
        have HS3 := hid hsq3
        have HO3 := hid ho3
        have HE := hid hsS3
        clear hq3 hlt3 hbut hmore' hsq3 ho3 hsS3 hsS hq hsq ho
        go_wp2_with fail
        go_roundw
        case rel => exact ⟨A6, n6, c6, k + 1, j + j3, m3, Aq3, cq3, L, rfl, by go_num, by omega, by omega, HO3.out, hid fin.out.symm, HQ3, hmq3, by have := HS3.out; rw [List.drop_drop] at this; exact this, HL3, HE.out, hb3, hsz3⟩
        case measure => simp [intOf]; omega
      · have fin := hid (show sift (S.take (k + 1)) R false = L by rw [hsn.out, sift_out hh, hL.out])
        clear hh
        go_wp2_with fail
        refine ST.out.mono ?_
        rintro e w3 ⟨Aq3, j3, m3, cq3, rfl, hq3, hmq3, hsq3, hlt3, hbut⟩
        have ho3 := Ow.but ho hq.out (by decide) hbut
        have hsS3 := Sh.but hsS hq.out hbut
        have hb3 := But.bl hb hbut hwr
        have hsz3 : w2.heap.size ≤ w3.heap.size := by rw [hbut.size]; exact hsz
        have HQ3 := hid hq3
        have HL3 := hid (hmore'.out _ hlt3)
        have hrl3 := lt_of_block hq3
        have HS3 := hid hsq3
        have HO3 := hid ho3
        have HE := hid hsS3
        clear hq3 hlt3 hbut hmore' hsq3 ho3 hsS3 hsS hq hsq ho
        go_wp2_with fail
        go_roundw
        case rel => exact ⟨A6, n6, c6, k + 1, j + j3, m3, Aq3, cq3, L, rfl, by go_num, by omega, by omega, HO3.out, hid fin.out.symm, HQ3, hmq3, by have := HS3.out; rw [List.drop_drop] at this; exact this, HL3, HE.out, hb3, hsz3⟩
        case measure => simp [intOf]; omega
      · have fin := hid (show sift (S.take (k + 1)) R true = L ++ [x] by rw [hsn.out, sift_in hh, hL.out])
        clear hh
        go_wp2_with fail
        refine ST.out.mono ?_
        rintro e w3 ⟨Aq3, j3, m3, cq3, rfl, hq3, hmq3, hsq3, hlt3, hbut⟩
        have ho3 := Ow.but ho hq.out (by decide) hbut
        have hsS3 := Sh.but hsS hq.out hbut
        have hb3 := But.bl hb hbut hwr
        have hsz3 : w2.heap.size ≤ w3.heap.size := by rw [hbut.size]; exact hsz
        have HQ3 := hid hq3
        have HL3 := hid (hmore'.out _ hlt3)
        have hrl3 := lt_of_block hq3
        have HS3 := hid hsq3
        have HO3 := hid ho3
        have HE := hid hsS3
        clear hq3 hlt3 hbut hmore' hsq3 ho3 hsS3 hsS hq hsq ho
        go_wp2_with (at_builtin; refine wpList_app_own _ rfl (.tmp 25) (.tmp 27) _ rfl elI rfl (HO3.out.alloc _) rfl (Sh.one _ _ _ _) (by omega) (by omega) (by simp; omega) ?_; intro A7 c7 w4 ho4 hb4)
        have hb34 : Below w2.heap.size w3 w4 := Below.trans ((Below.refl _ w3).alloc hsz3 _) hb4
        go_roundw
        case rel => exact ⟨A7, n6 + 1, c7, k + 1, j + j3, m3, Aq3, cq3, L ++ [x], by rfl, by go_num, by omega, by omega, ho4, hid fin.out.symm, hid ((hb34.block r hr2).trans HQ3.out), hmq3, by have := HS3.out.below hb34; rw [List.drop_drop] at this; exact this, HL3, HE.out.below hb34, Below.trans hb3 (hb34.mono hb02.size), Nat.le_trans hsz3 hb34.size⟩
        case measure => simp [intOf]; omega
    · obtain rfl : na = k := by omega
      go_wp2_with fail
      go_ret
      have := hL.out
      rw [take_all (by rw [HNA.out]; omega)] at this
      rw [← this]
      exact ho.out hb
end Go.Proofs.Ytofjfnpfcibbeaa.Idset
