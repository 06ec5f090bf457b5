/- Inter. -/
import Derived.Test.YtdfnmohgkjonfaaSSeek
namespace Go.Proofs.Ytdfnmohgkjonfaa.Span
open Go.RowKit
open Go.Proofs.Ytdfnmohgkjonfaa.Wire
set_option linter.unusedVariables false

theorem isx_one {S R : List Pr} {k : Nat} (h : k < S.length) : isx (S.take (k + 1)) R = isx (S.take k) R ++ (R.filter (shr (S.getD k (0, 0)))).map (cutr (S.getD k (0, 0))) := by rw [take_snocP h, isx_snoc]
theorem isx_bound {S R : List Pr} (hS : vd S) (hR : vd R) (k : Nat) : (isx (S.take k) R).length ≤ 2 * S.length + 2 * R.length := by
  have h := isx_len (vd_tk hS k) hR
  rw [List.length_take] at h; omega
theorem drop_keep {S : List Pr} {k : Nat} {P : Pr → Prop} (h : ∀ q ∈ S.drop k, P q) : ∀ q ∈ S.drop (k + 1), P q := fun q hq => h q (by
  have e : S.drop (k + 1) = (S.drop k).drop 1 := by rw [List.drop_drop]
  rw [e] at hq; exact List.mem_of_mem_drop hq)
theorem getD_drop {S : List Pr} {k : Nat} (h : k < S.length) : S.getD k (0, 0) ∈ S.drop k := by
  have e : (S.drop k).getD 0 (0, 0) = S.getD k (0, 0) := by simp [List.getD]
  rw [← e]
  exact getD_mem (by rw [List.length_drop]; omega)
/-- what the later ones of a valid list are behind, the earlier's are behind -/
theorem later {S R : List Pr} {j3 k : Nat} (hv : vd S) (h : k < S.length) (h2 : ∀ p ∈ R.take j3, p.2 ≤ (S.getD k (0, 0)).1) : ∀ p ∈ R.take j3, ∀ q ∈ S.drop (k + 1), p.2 ≤ q.1 := by
  intro p hp q hq
  have a := h2 p hp
  obtain ⟨i, hi, rfl⟩ := mem_getD hq
  rw [List.length_drop] at hi
  have e : (S.drop (k + 1)).getD i (0, 0) = S.getD (k + 1 + i) (0, 0) := by simp [List.getD]
  rw [e]
  have b := vd_lt hv (show k < k + 1 + i by omega) (by omega)
  have c := vd_ne hv h
  omega

set_option maxHeartbeats 4000000 in
theorem Inter_any (A : Option Addr) (n c : Nat) (ps : List Pr) (A1 : Option Addr) (n1 c1 : Nat) (qs : List Pr) (w : World) (hS : ShP w w.heap.size A n ps) (hS1 : ShP w w.heap.size A1 n1 qs) (hc : n ≤ c) (hc1 : n1 ≤ c1) (ho : okp ps) (ho1 : okp qs) (hm : n ≤ 67108864) (hm1 : n1 ≤ 67108864) :
    Calls Try.prog 24 #[.slice A n c, .slice A1 n1 c1] w (OutP w (int ps qs)) := by
  have R0 := hid (seeker_any A1 n1 c1 qs w hS1 hc1 ho1 hm1)
  have hnl := nor_len ps
  have hnl1 := nor_len qs
  rw [hS.len] at hnl
  rw [hS1.len] at hnl1
  have R1 := fun (w1 : World) (h : ShP w1 w1.heap.size A n ps) => Normal_any A n c ps w1 h hc ho hm
  have HVS := hid (nor_vd ps)
  have HVR := hid (nor_vd qs)
  have HFIN := hid (isx_int (a := ps) (b := qs) rfl rfl)
  generalize int ps qs = E at *
  generalize nor ps = S at *
  generalize nor qs = R at *
  go_enter Try.func24, Try.ntmps24
  go_wp2_with fail
  refine R0.out.mono ?_
  rintro e w1 ⟨r, Ar, cr, rfl, hwr, hr, hcr, hsr, hb1⟩
  have r1 := hid (R1 w1 (hS.bl hb1))
  clear R1 R0
  have hR := hid hr
  have hrl := lt_of_block hr
  clear hr
  go_wp2_with fail
  refine r1.out.mono ?_
  rintro e w2 ⟨A2, c2, rfl, hs2, hc2, hb2⟩
  have hR2 : Hid (w2.heap[r]? = some (.cells #[.slice Ar R.length cr] 22 (0, 0))) := hid ((hb2.block r hrl).trans hR.out)
  have hsr2 := hsr.bl hb2
  have hr2 := lt_of_block hR2.out
  have hb02 := Bl.trans hb1 hb2
  have HB := hid (fun k => isx_bound HVS.out HVR.out k)
  clear hb2 hsr hb1 r1 hR hrl
  generalize hna : S.length = na at *
  have HNA := hid hna
  clear hna
  generalize hnr : R.length = nr at *
  have HNR := hid hnr
  clear hnr
  go_wp2_with fail
  go_loopw [4, 15] (fun a b wr => ∃ (A6 : Option Addr) (n6 c6 k j m : Nat) (Aq : Option Addr) (cq : Nat) (L : List Pr), a = .slice A6 n6 c6 ∧ b = .int .i64 k ∧ k ≤ na ∧ OwP wr w2.heap.size 34 A6 n6 c6 L ∧ Hid (L = isx (S.take k) R) ∧
      Hid (wr.heap[r]? = some (.cells #[.slice Aq m cq] 22 (0, 0))) ∧ m ≤ cq ∧ m ≤ 1099511627776 ∧ ShP wr w2.heap.size Aq m (R.drop j) ∧ Hid (∀ p ∈ R.take j, ∀ q ∈ S.drop k, p.2 ≤ q.1) ∧ ShP wr w2.heap.size A2 na S ∧ Bl w wr ∧ w2.heap.size ≤ wr.heap.size) (fun _ b _ => na - (intOf b).toNat)
  case atStart => exact ⟨none, 0, 0, 0, 0, nr, Ar, cr, [], rfl, rfl, by omega, OwP.none_ _ _ _, hid rfl, hR2, hcr, by omega, by rw [List.drop_zero]; exact hsr2, hid (by simp), hs2, hb02, Nat.le_refl _⟩
  case round =>
    clear hs2 hsr2 hR2 hcr
    obtain ⟨A6, n6, c6, k, j, m, Aq, cq, L, rfl, rfl, hk, hoL, hL, hq, hmq, hmm, hsq, hlt, hsS, hb, hsz⟩ := hrel
    by_cases hlk : k < na
    · obtain ⟨b, o, rfl, hbB, hcell⟩ := hsS.2 (by omega)
      have hcc1 := (hcell k hlk).1
      have hcc2 := (hcell k hlk).2
      have hkS : k < S.length := by rw [HNA.out]; exact hlk
      have hone := hid (isx_one (R := R) hkS)
      have hbk := hid (HB.out (k + 1))
      have hne := vd_ne HVS.out hkS
      have hla := hid (fun (j3 : Nat) (h : ∀ p ∈ R.take j3, p.2 ≤ (S.getD k (0, 0)).1) => later HVS.out hkS h)
      have hltk : ∀ p ∈ R.take j, p.2 ≤ (S.getD k (0, 0)).1 := fun p hp => hlt.out p hp _ (getD_drop hkS)
      clear hcell hkS
      generalize S.getD k (0, 0) = g at *
      obtain ⟨x, y⟩ := g
      simp only at hcc1 hcc2 hne hltk
      have hba : Bl wr (wr.alloc (.cells #[.int .i64 x, .int .i64 y] 34)) := (Bl.refl wr).alloc _
      have hqa := (hba.block r (by omega)).trans hq.out
      have ST := hid (step_any r w2.heap.size Aq m cq j R x y _ hqa hmq (hsq.below (hba.mono hsz)) HVR.out hltk hne hmm (by simp; omega))
      have HQA := hid hqa
      have HOL := hid hoL
      have HSS := hid hsS
      have HBA := hid hba
      clear hqa hltk hsq hq hoL hsS hba hlt
      go_wp2_with fail
      refine ST.out.mono ?_
      rintro e w3 ⟨Aq3, A8, j3, m3, cq3, kf, cf, rfl, hkc, hsf, hq3, hmq3, hmm3, hsq3, hlt3, hbu⟩
      have ho3 := OwP.bu (HOL.out.alloc _) HQA.out (by decide) hbu
      have hsS3 := ShP.bu (HSS.out.below (HBA.out.mono hsz)) HQA.out hbu
      have bx3 : BxP w3 wr.heap.size x y 34 := (hbu.block wr.heap.size (by simp) (by omega)).trans (BxP.new wr x y _ rfl)
      have off3 := HOL.out.offNew
      have hb3 := Bu.bl (hb.alloc _) hbu hwr
      have hsz3 : w2.heap.size ≤ w3.heap.size := by have := hbu.size; simp at this; omega
      have HQ3 := hid hq3
      have HS3 := hid hsS3
      have HSQ3 := hid hsq3
      have HLA := hid (hla.out j3 hlt3)
      have hFl := hsf.len
      generalize R.filter (shr (x, y)) = F at *
      have HF := hid hFl
      have HL3 := hid ho3.len
      generalize wr.heap.size = bx at *
      clear HBA HOL HSS HQA ST hq3 hsS3 hsq3 hlt3 hla hFl hbu hb
      have hkf : kf ≤ 1073741824 := by
        have h1 := hbk.out
        rw [hone.out, ← hL.out, List.length_append, List.length_map, HF.out] at h1
        omega
      go_wp2_with fail
      go_loopw [4, 23] (fun a b wx => ∃ (A7 : Option Addr) (n7 c7 i : Nat) (L7 : List Pr), a = .slice A7 n7 c7 ∧ b = .int .i64 i ∧ i ≤ kf ∧ OwP wx w2.heap.size 34 A7 n7 c7 L7 ∧ Hid (L7 = L ++ (F.take i).map (cutr (x, y))) ∧ Off A7 bx ∧ BxP wx bx x y 34 ∧ Below w2.heap.size w3 wx) (fun _ b _ => kf - (intOf b).toNat)
      case atStart => exact ⟨A6, n6, c6, 0, L, rfl, rfl, by omega, ho3, hid (by simp), off3, bx3, Below.refl _ _⟩
      case round =>
        clear ho3 off3 bx3
        obtain ⟨A7, n7, c7, i, L7, rfl, rfl, hi, ho7, hL7, off7, bx7, hb7⟩ := hrel
        have hsz7 := hb7.size
        by_cases hik : i < kf
        · obtain ⟨b8, o8, rfl, _, hcell⟩ := (hsf.below hb7).2 (by omega)
          have hd1 := (hcell i hik).1
          have hd2 := (hcell i hik).2
          have hsn := hid (show L ++ (F.take (i + 1)).map (cutr (x, y)) = L7 ++ [cutr (x, y) (F.getD i (0, 0))] by rw [take_snocP (by rw [HF.out]; exact hik), List.map_append, ← List.append_assoc, hL7.out]; rfl)
          have hn7 : n7 ≤ 1073741824 := by
            have h1 := hbk.out
            rw [hone.out, ← hL.out, List.length_append, List.length_map, HF.out] at h1
            have h2 := ho7.len
            rw [hL7.out, List.length_append, List.length_map, List.length_take, HF.out] at h2
            omega
          clear hcell
          generalize F.getD i (0, 0) = g at *
          obtain ⟨u, v⟩ := g
          simp only at hd1 hd2
          have hsn2 : Hid (L ++ (F.take (i + 1)).map (cutr (x, y)) = L7 ++ [(max x u, min y v)]) := hsn
          have bxa := bx7.al (.cells #[.int .i64 u, .int .i64 v] 34)
          have e1 := bxa.fst
          have e2 := bxa.snd
          have HO7 := hid ho7
          have HBX := hid bx7
          have hbl7 := bx7.lt
          clear ho7 bxa bx7 hsn
          go_wp2_with (at_builtin; refine wpList_appP_off _ rfl (.tmp 27) (.tmp 39) _ rfl elR rfl ((HO7.out.alloc _).alloc _) rfl (ShP.oneAt _ _ _ _ _ (by simp)) (by omega) (by omega) (by simp; omega) ?_; intro A9 c9 w9 ho9 hb9 hoff9)
          go_roundw
          case rel => exact ⟨A9, n7 + 1, c9, i + 1, _, rfl, by go_num, by omega, ho9, hid hsn2.out.symm, (hoff9 bx (by simp; omega) off7).1, (hoff9 bx (by simp; omega) off7).2.trans ((HBX.out.al _).al _), Below.trans hb7 (Below.trans (((Below.refl _ _).alloc (by omega) _).alloc (by simp; omega) _) hb9)⟩
          case measure => simp [intOf]; omega
        · obtain rfl : kf = i := by omega
          have fin := hid (show L7 = isx (S.take (k + 1)) R by rw [hone.out, hL7.out, hL.out, take_allP (l := F) (n := kf) (by rw [HF.out]; exact Nat.le_refl _)])
          go_wp2_with fail
          go_roundw
          case rel => exact ⟨A7, n7, c7, k + 1, j3, m3, Aq3, cq3, L7, rfl, by go_num, by omega, ho7, fin, hid ((hb7.block r hr2).trans HQ3.out), hmq3, hmm3, HSQ3.out.below hb7, HLA, HS3.out.below hb7, Below.trans hb3 (hb7.mono hb02.size), by omega⟩
          case measure => simp [intOf]; omega
    · obtain rfl : na = k := by omega
      go_wp2_with fail
      go_ret
      have h := hL.out
      rw [take_allP (by rw [HNA.out]; exact Nat.le_refl _), HFIN.out] at h
      rw [← h]
      exact hoL.out hb
end Go.Proofs.Ytdfnmohgkjonfaa.Span
