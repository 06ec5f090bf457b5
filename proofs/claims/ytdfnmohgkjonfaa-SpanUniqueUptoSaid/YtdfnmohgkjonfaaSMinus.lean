/- Minus. -/
import Derived.Test.YtdfnmohgkjonfaaSInter
import Derived.OneCell
namespace Go.Proofs.Ytdfnmohgkjonfaa.Span
open Go.RowKit
open Go.Proofs.Ytdfnmohgkjonfaa.Wire
set_option linter.unusedVariables false

theorem sbx_one {S R : List Pr} {k : Nat} (h : k < S.length) : sbx (S.take (k + 1)) R = sbx (S.take k) R ++ gap (S.getD k (0, 0)).1 (S.getD k (0, 0)).2 (R.filter (shr (S.getD k (0, 0)))) := by rw [take_snocP h, sbx_snoc]
theorem sbx_bound {S R : List Pr} (hS : vd S) (hR : vd R) (k : Nat) : (sbx (S.take k) R).length ≤ 2 * S.length + 2 * R.length := by
  have h := sbx_len (vd_tk hS k) hR
  rw [List.length_take] at h; omega
theorem drop_cons {l : List Pr} {i : Nat} (h : i < l.length) : l.drop i = l.getD i (0, 0) :: l.drop (i + 1) := by
  rw [List.drop_eq_getElem_cons h]
  congr 1
  simp [List.getD, List.getElem?_eq_getElem h]
theorem OwP.other {w : World} {B n c k : Nat} {e : TypeId} {A : Option Addr} {ps : List Pr} (h : OwP w B e A n c ps) (ho : Off A k) (i : Nat) (u : Value) : OwP (w.setCell ⟨k, i, none⟩ u) B e A n c ps :=
  ownsRow_setCell_other h (a := ⟨k, i, none⟩) (by
    intro he
    cases A with
    | none => cases he
    | some a => injection he with he; exact ho a rfl he) u

set_option maxHeartbeats 4000000 in
theorem Minus_any (A : Option Addr) (n c : Nat) (ps : List Pr) (A1 : Option Addr) (n1 c1 : Nat) (qs : List Pr) (w : World) (hS : ShP w w.heap.size A n ps) (hS1 : ShP w w.heap.size A1 n1 qs) (hc : n ≤ c) (hc1 : n1 ≤ c1) (ho : okp ps) (ho1 : okp qs) (hm : n ≤ 67108864) (hm1 : n1 ≤ 67108864) :
    Calls Try.prog 26 #[.slice A n c, .slice A1 n1 c1] w (OutP w (mns ps qs)) := by
  have R0 := hid (seeker_any A1 n1 c1 qs w hS1 hc1 ho1 hm1)
  have hnl := nor_len ps
  have hnl1 := nor_len qs
  rw [hS.len] at hnl
  rw [hS1.len] at hnl1
  have R1 := fun (w1 : World) (h : ShP w1 w1.heap.size A n ps) => Normal_any A n c ps w1 h hc ho hm
  have HVS := hid (nor_vd ps)
  have HVR := hid (nor_vd qs)
  have HFIN := hid (sbx_mns (a := ps) (b := qs) rfl rfl)
  generalize mns ps qs = E at *
  generalize nor ps = S at *
  generalize nor qs = R at *
  go_enter Try.func26, Try.ntmps26
  go_wp2_with fail
  refine R0.out.mono ?_
  rintro e w1 ⟨r, Ar, cr, rfl, hwr, hr, hcr, hsr, hb1⟩
  have r1 := hid (R1 w1 (hS.bl hb1))
  clear R1 R0
  have hR := hid hr
  have hrl := lt_of_block hr
  clear hr
  go_wp2_with fail
  refine r1.out.mono ?_
  rintro e w2 ⟨A2, c2, rfl, hs2, hc2, hb2⟩
  have hR2 : Hid (w2.heap[r]? = some (.cells #[.slice Ar R.length cr] 22 (0, 0))) := hid ((hb2.block r hrl).trans hR.out)
  have hsr2 := hsr.bl hb2
  have hr2 := lt_of_block hR2.out
  have hb02 := Bl.trans hb1 hb2
  have HB := hid (fun k => sbx_bound HVS.out HVR.out k)
  clear hb2 hsr hb1 r1 hR hrl
  generalize hna : S.length = na at *
  have HNA := hid hna
  clear hna
  generalize hnr : R.length = nr at *
  have HNR := hid hnr
  clear hnr
  go_wp2_with fail
  go_loopw [4, 15] (fun a b wr => ∃ (A6 : Option Addr) (n6 c6 k j m : Nat) (Aq : Option Addr) (cq : Nat) (L : List Pr), a = .slice A6 n6 c6 ∧ b = .int .i64 k ∧ k ≤ na ∧ OwP wr w2.heap.size 34 A6 n6 c6 L ∧ Hid (L = sbx (S.take k) R) ∧
      Hid (wr.heap[r]? = some (.cells #[.slice Aq m cq] 22 (0, 0))) ∧ m ≤ cq ∧ m ≤ 1099511627776 ∧ ShP wr w2.heap.size Aq m (R.drop j) ∧ Hid (∀ p ∈ R.take j, ∀ q ∈ S.drop k, p.2 ≤ q.1) ∧ ShP wr w2.heap.size A2 na S ∧ Bl w wr ∧ w2.heap.size ≤ wr.heap.size) (fun _ b _ => na - (intOf b).toNat)
  case atStart => exact ⟨none, 0, 0, 0, 0, nr, Ar, cr, [], rfl, rfl, by omega, OwP.none_ _ _ _, hid rfl, hR2, hcr, by omega, by rw [List.drop_zero]; exact hsr2, hid (by simp), hs2, hb02, Nat.le_refl _⟩
  case round =>
    clear hs2 hsr2 hR2 hcr
    obtain ⟨A6, n6, c6, k, j, m, Aq, cq, L, rfl, rfl, hk, hoL, hL, hq, hmq, hmm, hsq, hlt, hsS, hb, hsz⟩ := hrel
    by_cases hlk : k < na
    · obtain ⟨b, o, rfl, hbB, hcell⟩ := hsS.2 (by omega)
      have hcc1 := (hcell k hlk).1
      have hcc2 := (hcell k hlk).2
      have hkS : k < S.length := by rw [HNA.out]; exact hlk
      have hone := hid (sbx_one (R := R) hkS)
      have hbk := hid (HB.out (k + 1))
      have hne := vd_ne HVS.out hkS
      have hla := hid (fun (j3 : Nat) (h : ∀ p ∈ R.take j3, p.2 ≤ (S.getD k (0, 0)).1) => later HVS.out hkS h)
      have hltk : ∀ p ∈ R.take j, p.2 ≤ (S.getD k (0, 0)).1 := fun p hp => hlt.out p hp _ (getD_drop hkS)
      clear hcell hkS
      generalize S.getD k (0, 0) = g at *
      obtain ⟨x, y⟩ := g
      simp only at hcc1 hcc2 hne hltk
      have hba : Bl wr (wr.alloc (.cells #[.int .i64 x, .int .i64 y] 34)) := (Bl.refl wr).alloc _
      have hqa := (hba.block r (by omega)).trans hq.out
      have ST := hid (step_any r w2.heap.size Aq m cq j R x y _ hqa hmq (hsq.below (hba.mono hsz)) HVR.out hltk hne hmm (by simp; omega))
      have HQA := hid hqa
      have HOL := hid hoL
      have HSS := hid hsS
      have HBA := hid hba
      clear hqa hltk hsq hq hoL hsS hba hlt
      go_wp2_with fail
      refine ST.out.mono ?_
      rintro e w3 ⟨Aq3, A8, j3, m3, cq3, kf, cf, rfl, hkc, hsf, hq3, hmq3, hmm3, hsq3, hlt3, hbu⟩
      have ho3 := OwP.bu (HOL.out.alloc _) HQA.out (by decide) hbu
      have hsS3 := ShP.bu (HSS.out.below (HBA.out.mono hsz)) HQA.out hbu
      have bx3 : BxP w3 wr.heap.size x y 34 := (hbu.block wr.heap.size (by simp) (by omega)).trans (BxP.new wr x y _ rfl)
      have off3 := HOL.out.offNew
      have hb3 := Bu.bl (hb.alloc _) hbu hwr
      have hsz3 : w2.heap.size ≤ w3.heap.size := by have := hbu.size; simp at this; omega
      have HQ3 := hid hq3
      have HS3 := hid hsS3
      have HSQ3 := hid hsq3
      have HLA := hid (hla.out j3 hlt3)
      have hFl := hsf.len
      have hkf : kf ≤ 134217728 := by
        have h1 := List.length_filter_le (shr (x, y)) R
        rw [hFl, HNR.out] at h1; omega
      generalize R.filter (shr (x, y)) = F at *
      have HF := hid hFl
      have HL3 := hid ho3.len
      generalize wr.heap.size = bx at *
      clear HBA HOL HSS HQA ST hq3 hsS3 hsq3 hlt3 hla hFl hbu hb
      go_wp2_with fail
      go_loopw [4, 23] (fun a b wx => ∃ (A7 : Option Addr) (n7 c7 i : Nat) (lo : Int) (L7 : List Pr), a = .slice A7 n7 c7 ∧ b = .int .i64 i ∧ i ≤ kf ∧ OwP wx w2.heap.size 34 A7 n7 c7 L7 ∧ Hid (L7 ++ gap lo y (F.drop i) = L ++ gap x y F) ∧ Off A7 bx ∧ BxP wx bx lo y 34 ∧ Below w2.heap.size w3 wx) (fun _ b _ => kf - (intOf b).toNat)
      case atStart => exact ⟨A6, n6, c6, 0, x, L, rfl, rfl, by omega, ho3, hid (by simp), off3, bx3, Below.refl _ _⟩
      case round =>
        clear ho3 off3 bx3
        obtain ⟨A7, n7, c7, i, lo, L7, rfl, rfl, hi, ho7, hL7, off7, bx7, hb7⟩ := hrel
        have hsz7 := hb7.size
        have hn7 : n7 ≤ 1073741824 := by
          have h1 := hbk.out
          rw [hone.out, ← hL.out, ← hL7.out, List.length_append] at h1
          have h2 := ho7.len
          omega
        by_cases hik : i < kf
        · obtain ⟨b8, o8, rfl, _, hcell⟩ := (hsf.below hb7).2 (by omega)
          have hd1 := (hcell i hik).1
          have hd2 := (hcell i hik).2
          have hdr := hid (drop_cons (l := F) (i := i) (by rw [HF.out]; exact hik))
          clear hcell
          generalize F.getD i (0, 0) = g at *
          obtain ⟨u, v⟩ := g
          simp only at hd1 hd2
          have bxa := bx7.al (.cells #[.int .i64 u, .int .i64 v] 34)
          have e1 := bxa.fst
          have offN := ho7.offNew
          have HO7 := hid ho7
          have HBX := hid bx7
          have hbl7 := bx7.lt
          by_cases hlo : lo < u
          · have fin := hid (show (L7 ++ [(lo, u)]) ++ gap v y (F.drop (i + 1)) = L ++ gap x y F by rw [← hL7.out, hdr.out, gap_yes (s := (u, v)) hlo, List.append_assoc]; rfl)
            clear ho7 bxa bx7
            go_wp2_with (at_builtin; refine wpList_appP_off _ rfl (.tmp 32) (.tmp 38) _ rfl elR rfl ((HO7.out.alloc _).alloc _) rfl (ShP.oneAt _ _ _ _ _ (by simp)) (by omega) (by omega) (by simp; omega) ?_; intro A9 c9 w9 ho9 hb9 hoff9; have hx9 : BxP w9 bx lo y 34 := (hoff9 bx (by simp; omega) off7).2.trans ((HBX.out.al _).al _); have f1 := hx9.fst; have f2 := hx9.free 0; have hy9 : BxP w9 wr.heap.size u v 34 := (hoff9 wr.heap.size (by simp; omega) offN).2.trans ((BxP.new wr u v _ rfl).al _); have f3 := hy9.snd)
            go_roundw
            case rel => exact ⟨A9, n7 + 1, c9, i + 1, v, _, rfl, by go_num, by omega, OwP.other ho9 (hoff9 bx (by simp; omega) off7).1 _ _, fin, (hoff9 bx (by simp; omega) off7).1, hx9.setLo v, Below.setCell (Below.trans hb7 (Below.trans (((Below.refl _ _).alloc (by omega) _).alloc (by simp; omega) _) hb9)) hsz _⟩
            case measure => simp [intOf]; omega
          · have fin := hid (show L7 ++ gap v y (F.drop (i + 1)) = L ++ gap x y F by rw [← hL7.out, hdr.out, gap_no (s := (u, v)) hlo])
            have t1 : decide (lo < u) = false := by simpa using hlo
            have f2 := bxa.free 0
            clear ho7 bxa bx7
            go_wp2_with fail
            go_roundw
            case rel => exact ⟨A7, n7, c7, i + 1, v, L7, rfl, by go_num, by omega, (OwP.other HO7.out off7 _ _).alloc _, fin, off7, (HBX.out.setLo v).al _, Below.alloc (Below.setCell hb7 hsz _) (by simp [World.setCell]; omega) _⟩
            case measure => simp [intOf]; omega
        · obtain rfl : kf = i := by omega
          have e1 := bx7.fst
          have e2 := bx7.snd
          have hem' := fun w' => empty_any (lo, y) w'
          have hgap := hid (show L7 ++ gap lo y [] = sbx (S.take (k + 1)) R by
            have h1 := hL7.out
            rw [List.drop_eq_nil_of_le (by rw [HF.out]; exact Nat.le_refl _)] at h1
            rw [h1, hone.out, ← hL.out])
          have HO7 := hid ho7
          have HBX := hid bx7
          clear ho7 bx7
          cases hx : ne (lo, y)
          · rw [hx] at hem'
            have hem := hid hem'
            have hlo : ¬ lo < y := fun h => by have := (ne_iff (lo, y)).2 h; rw [hx] at this; cases this
            have fin := hid (show L7 = sbx (S.take (k + 1)) R by rw [← hgap.out]; unfold gap; rw [if_neg hlo, List.append_nil])
            clear hx hem' hlo
            go_wp2_with (go_at_call 31; refine (hem.out _).mono ?_; rintro e w8 ⟨rfl, hb8⟩)
            go_wp2_with fail
            have hbb : Below w2.heap.size w3 w8 := Below.trans hb7 (hb8.mono (by omega))
            go_roundw
            case rel => exact ⟨A7, n7, c7, k + 1, j3, m3, Aq3, cq3, L7, rfl, by go_num, by omega, HO7.out.below hb8, fin, hid ((hbb.block r hr2).trans HQ3.out), hmq3, hmm3, HSQ3.out.below hbb, HLA, HS3.out.below hbb, Below.trans hb3 (hbb.mono hb02.size), by have := hbb.size; omega⟩
            case measure => simp [intOf]; omega
          · rw [hx] at hem'
            have hem := hid hem'
            have hlo : lo < y := (ne_iff (lo, y)).1 hx
            have fin := hid (show L7 ++ [(lo, y)] = sbx (S.take (k + 1)) R by rw [← hgap.out]; unfold gap; rw [if_pos hlo])
            clear hx hem' hlo
            go_wp2_with (first
              | (go_at_call 31; refine (hem.out _).mono ?_; rintro e w8 ⟨rfl, hb8⟩; have bx8 := BxP.bl HBX.out hb8; have e3 := bx8.fst; have e4 := bx8.snd; have hbb : Below w2.heap.size w3 w8 := Below.trans hb7 (hb8.mono (by omega)))
              | (at_builtin; refine wpList_appP_own _ rfl (.tmp 47) (.tmp 49) _ rfl elR rfl ((HO7.out.below hb8).alloc _) rfl (ShP.oneAt _ _ _ _ _ rfl) (by omega) (by have := hbb.size; simp; omega) ?_; intro A9 c9 w9 ho9 hb9; have hbc : Below w2.heap.size w3 w9 := Below.trans hbb (Below.trans ((Below.refl _ _).alloc (by have := hbb.size; omega) _) hb9)))
            go_roundw
            case rel => exact ⟨A9, n7 + 1, c9, k + 1, j3, m3, Aq3, cq3, _, rfl, by go_num, by omega, ho9, fin, hid ((hbc.block r hr2).trans HQ3.out), hmq3, hmm3, HSQ3.out.below hbc, HLA, HS3.out.below hbc, Below.trans hb3 (hbc.mono hb02.size), by have := hbc.size; omega⟩
            case measure => simp [intOf]; omega
    · obtain rfl : na = k := by omega
      go_wp2_with fail
      go_ret
      have h := hL.out
      rw [take_allP (by rw [HNA.out]; exact Nat.le_refl _), HFIN.out] at h
      rw [← h]
      exact hoL.out hb
end Go.Proofs.Ytdfnmohgkjonfaa.Span
