/- Contract of the reference of span: build. -/
import Derived.Test.YtdfnmohgkjonfaaSBuild
import Derived.IntWalk
namespace Go.Proofs.Ytdfnmohgkjonfaa.Span
open Go.RowKit
open Go.Proofs.Ytdfnmohgkjonfaa.Wire
open Go.Proofs.Ytdfnmohgkjonfaa.Idset
set_option linter.unusedVariables false

theorem bldk_yes {P : Int → Bool} {T : List Int} {k : Nat} (h : P (T.getD k 0) = true) : bldk P T (k + 1) = stp (bldk P T k) (T.getD k 0) (T.getD (k + 1) 0) := by
  show (if P (T.getD k 0) = true then _ else _) = _
  rw [if_pos h]
theorem bldk_no {P : Int → Bool} {T : List Int} {k : Nat} (h : P (T.getD k 0) = false) : bldk P T (k + 1) = bldk P T k := by
  show (if P (T.getD k 0) = true then _ else _) = _
  rw [if_neg (by rw [h]; decide)]
theorem stp_set {L : List Pr} {x y : Int} {j : Nat} (hl : L.length = j + 1) (h : (L.getD j (0, 0)).2 = x) : L.set j ((L.getD j (0, 0)).1, y) = stp L x y := by
  unfold stp lst
  rw [show L.length - 1 = j by omega, if_pos ⟨by omega, h⟩]
theorem stp_app {L : List Pr} {x y : Int} (h : ¬ (0 < L.length ∧ (L.getD (L.length - 1) (0, 0)).2 = x)) : L ++ [(x, y)] = stp L x y := by
  unfold stp lst
  rw [if_neg h]

set_option maxRecDepth 100000 in
set_option maxHeartbeats 4000000 in
theorem build_any (A : Option Addr) (n c : Nat) (ps : List Pr) (A1 : Option Addr) (n1 c1 : Nat) (qs : List Pr) (op : Int) (w : World) (hS : ShP w w.heap.size A n ps) (hS1 : ShP w w.heap.size A1 n1 qs) (hm : n + n1 ≤ 68719476736) :
    Calls Try.prog 32 #[.slice A n c, .slice A1 n1 c1, .int .i64 op] w (OutP w (mk op ps qs)) := by
  have r0 := hid (bounds_any A n c ps A1 n1 c1 qs w hS hS1 hm)
  have hbl := bds_len ps qs
  rw [hS.len, hS1.len] at hbl
  obtain ⟨P, hP⟩ : ∃ P : Int → Bool, P = fun n => wnt op (inb ps n) (inb qs n) := ⟨_, rfl⟩
  have hw := hid (fun N w' (h : Bl w w') => wanted_any A n c ps A1 n1 c1 qs N op w' _ (hS.bl h) (hS1.bl h) (by omega) (by omega))
  have hPx : ∀ N, wnt op (inb ps N) (inb qs N) = P N := fun N => by rw [hP]
  have HPX := hid hPx
  have HMK := hid (show mk op ps qs = bld P (bds ps qs) by rw [hP]; rfl)
  clear hP hPx
  generalize mk op ps qs = R at *
  generalize bds ps qs = T at *
  go_enter Try.func32, Try.ntmps32
  go_wp2_with fail
  refine r0.out.mono ?_
  rintro e w0 ⟨A7, c7, rfl, hT, hc7, hb0⟩
  clear r0
  generalize hq : T.length = q at *
  have HQ := hid hq
  clear hq
  go_wp2_with fail
  go_loopw [8, 9] (fun b i wr => ∃ (A' : Option Addr) (m c' k : Nat) (L : List Pr), b = .slice A' m c' ∧ i = .int .i64 k ∧ k ≤ q - 1 ∧ m ≤ k ∧ Hid (L = bldk P T k) ∧ OwP wr w0.heap.size 34 A' m c' L ∧ Bl w0 wr) (fun _ i _ => q - (intOf i).toNat)
  case atStart => exact ⟨none, 0, 0, 0, [], rfl, rfl, by omega, by omega, hid rfl, OwP.none_ _ _ _, Bl.refl _⟩
  case round =>
    obtain ⟨A', m, c', k, L, rfl, rfl, hk, hmk, hL, ho, hb⟩ := hrel
    have hsz := hb.size
    by_cases hlt : k + 1 < q
    · obtain ⟨b, o, rfl, hbB, hcell⟩ := hT.2 (by omega)
      have hk1 := hid (hcell k (by omega))
      have hk2 := hid (hcell (k + 1) hlt)
      have hc1 := (Below.cell hb (p := ⟨b, o + k, none⟩) hbB).trans (hcell k (by omega))
      have hc2 := (Below.cell hb (p := ⟨b, o + (k + 1), none⟩) hbB).trans (hcell (k + 1) hlt)
      have hwk := hw.out (T.getD k 0) wr (hb0.trans hb)
      rw [HPX.out] at hwk
      clear hcell
      cases hp : P (T.getD k 0)
      · rw [hp] at hwk
        have HW := hid hwk
        have fin := hid (show L = bldk P T (k + 1) by rw [bldk_no hp]; exact hL.out)
        clear hwk hp
        generalize T.getD k 0 = x at *
        generalize T.getD (k + 1) 0 = y at *
        go_wp2_with fail
        refine HW.out.mono ?_
        rintro e w' ⟨rfl, rfl⟩
        go_wp2_with fail
        go_roundw
        case rel => exact ⟨A', m, c', k + 1, L, rfl, by go_num, by omega, by omega, fin, ho, hb⟩
        case measure => simp [intOf]; omega
      · rw [hp] at hwk
        have HW := hid hwk
        have fin := hid (show bldk P T (k + 1) = stp L (T.getD k 0) (T.getD (k + 1) 0) by rw [bldk_yes hp, hL.out])
        clear hwk hp
        generalize T.getD k 0 = x at *
        generalize T.getD (k + 1) 0 = y at *
        have hml := hid ho.len
        by_cases hm0 : 0 < m
        · obtain ⟨j, hj⟩ : ∃ j, m = j + 1 := ⟨m - 1, by omega⟩
          subst hj
          obtain ⟨g, rfl, hg, hgl⟩ := ho.form (by omega)
          have q1 := ho.hi (j := j) (by omega)
          have q2 := ho.free (j * 2 + 1)
          by_cases hx : (L.getD j (0, 0)).2 = x
          · have hst := hid (stp_set (y := y) hml.out hx)
            rw [hx] at q1
            have HSET := hid (fun N => show OwP ((wr.drewN N).setCell ⟨g, j * 2 + 1, none⟩ (.int .i64 y)) w0.heap.size 34 (some ⟨g, 0, none⟩) (j + 1) c' (stp L x y) by rw [← hst.out]; exact (ho.drewN N).setHi (by omega) y)
            clear hx hm0
            go_wp2_with fail
            refine HW.out.mono ?_
            rintro e w' ⟨rfl, rfl⟩
            go_wp2_with fail
            go_quiet (fail)
            go_wp2_with fail
            go_roundw
            case rel => exact ⟨_, j + 1, c', k + 1, stp L x y, rfl, by go_num, by omega, by omega, hid fin.out.symm, HSET.out _, Below.setCell (Bl.drewN hb _) hg _⟩
            case measure => simp [intOf]; omega
          · have hst := hid (stp_app (L := L) (x := x) (y := y) (by rw [hml.out]; rintro ⟨_, h⟩; exact hx h))
            generalize (L.getD j (0, 0)).2 = h at *
            have t1 : (h == x) = false := by simpa using hx
            clear hx hm0 q2
            go_wp2_with fail
            refine HW.out.mono ?_
            rintro e w' ⟨rfl, rfl⟩
            go_wp2_with fail
            go_quiet (fail)
            go_wp2_with fail
            have i0 : (0 : Int) ≤ (k : Int) := by omega
            have i1 : (k : Int) < (q : Int) := by omega
            have i2 : (0 : Int) ≤ (k : Int) + 1 := by omega
            have i3 : (k : Int) + 1 < (q : Int) := by omega
            have i4 : ((k : Int) + 1).toNat = k + 1 := by omega
            have i5 : IntKind.i64.wrap ((k : Int) + 1) = (k : Int) + 1 := IntWalk.i64_in _ (by omega)
            go_region_held3 (fun w' => w'.cell? ⟨b, o + k, none⟩ = some (.int .i64 x) ∧ w'.cell? ⟨b, o + (k + 1), none⟩ = some (.int .i64 y))
              (first
                | go_keep
                | (exact ⟨(Below.cell (Below.trans ((Bl.drewN hb _).alloc _) hb2) (p := ⟨b, o + k, none⟩) hbB).trans hk1.out, (Below.cell (Below.trans ((Bl.drewN hb _).alloc _) hb2) (p := ⟨b, o + (k + 1), none⟩) hbB).trans hk2.out⟩))
              ((refine step_appP_own _ (by rfl) (.tmp 57) (.tmp 68) _ (by rfl) elR (by rfl) (((OwP.drewN ho _).alloc _).drew) (by rfl) ((ShP.one _ _ _ _).drew) (by omega) (by simp; omega) ?_; intro A2 c2 w2 ho2 hb2))
            go_wp2_with fail
            go_roundw
            case rel => exact ⟨A2, j + 1 + 1, c2, k + 1, stp L x y, rfl, by go_num, by omega, by omega, hid fin.out.symm, by rw [← hst.out]; exact ho2, Below.trans ((Bl.drewN hb _).alloc _) hb2⟩
            case measure => simp [intOf]; omega
        · have t1 : decide ((0 : Int) < (m : Int)) = false := by simp; omega
          have hst := hid (stp_app (L := L) (x := x) (y := y) (by rw [hml.out]; rintro ⟨h, _⟩; exact hm0 h))
          go_wp2_with fail
          refine HW.out.mono ?_
          rintro e w' ⟨rfl, rfl⟩
          go_wp2_with fail
          go_quiet (fail)
          go_wp2_with fail
          have i0 : (0 : Int) ≤ (k : Int) := by omega
          have i1 : (k : Int) < (q : Int) := by omega
          have i2 : (0 : Int) ≤ (k : Int) + 1 := by omega
          have i3 : (k : Int) + 1 < (q : Int) := by omega
          have i4 : ((k : Int) + 1).toNat = k + 1 := by omega
          have i5 : IntKind.i64.wrap ((k : Int) + 1) = (k : Int) + 1 := IntWalk.i64_in _ (by omega)
          go_region_held3 (fun w' => w'.cell? ⟨b, o + k, none⟩ = some (.int .i64 x) ∧ w'.cell? ⟨b, o + (k + 1), none⟩ = some (.int .i64 y))
            (first
              | go_keep
              | (exact ⟨(Below.cell (Below.trans ((Bl.drewN hb _).alloc _) hb2) (p := ⟨b, o + k, none⟩) hbB).trans hk1.out, (Below.cell (Below.trans ((Bl.drewN hb _).alloc _) hb2) (p := ⟨b, o + (k + 1), none⟩) hbB).trans hk2.out⟩))
            ((refine step_appP_own _ (by rfl) (.tmp 57) (.tmp 68) _ (by rfl) elR (by rfl) (((OwP.drewN ho _).alloc _).drew) (by rfl) ((ShP.one _ _ _ _).drew) (by omega) (by simp; omega) ?_; intro A2 c2 w2 ho2 hb2))
          go_wp2_with fail
          go_roundw
          case rel => exact ⟨A2, m + 1, c2, k + 1, stp L x y, rfl, by go_num, by omega, by omega, hid fin.out.symm, by rw [← hst.out]; exact ho2, Below.trans ((Bl.drewN hb _).alloc _) hb2⟩
          case measure => simp [intOf]; omega
    · obtain rfl : k = q - 1 := by omega
      go_wp2_with fail
      go_ret
      have h1 := hL.out
      have h2 : L = R := by rw [HMK.out, h1]; unfold bld; rw [HQ.out]
      rw [h2] at ho
      exact ho.out (hb0.trans hb)
end Go.Proofs.Ytdfnmohgkjonfaa.Span
