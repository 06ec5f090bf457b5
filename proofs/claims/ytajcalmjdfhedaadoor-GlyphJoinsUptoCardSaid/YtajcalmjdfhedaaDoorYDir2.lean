/- Contract of glyph: directions, whole. -/
import Derived.Test.YtajcalmjdfhedaaDoorYDir
import Derived.Test.YtajcalmjdfhedaaDoorYBack
import Derived.Test.YtajcalmjdfhedaaDoorYBridge
import Derived.Deep.CutRange
import Derived.Laws.EntriesVeiled
namespace Go.Proofs.YtajcalmjdfhedaaDoor.Glyph
open Go.RowKit Go.Shelf
open Go.Proofs.YtajcalmjdfhedaaDoor.Wire
set_option linter.unusedVariables false
set_option linter.unusedSimpArgs false

theorem infoB : (Tryd.prog.info? 4).map (fun i => (i.zero, i.size, i.bytes)) = some (some (.bool false), 1, 1) := by kernel_rfl
theorem cell_drew {w : World} {p : Addr} {v : Value} (h : w.cell? p = some v) : w.drew.cell? p = some v := h
theorem cell_al {w : World} {p : Addr} {v : Value} {o : Obj} (h : w.cell? p = some v) (hp : p.block < w.heap.size) : (w.alloc o).cell? p = some v := (World.cell?_alloc_lt w o p hp).trans h
theorem own_lt {w : World} {B g n c : Nat} {e : TypeId} {vs : List Value} (h : Vw w B e (some ⟨g, 0, none⟩) n c vs) : g < w.heap.size := (h.lt g rfl).2
/-- what directions leaves: the base direction, and a row of its own of the directions -/
def DirOut (xs : List Int) (w : World) (e : Ending) (w' : World) : Prop :=
  ∃ (g : Nat), e = .returned (.tuple #[.bool (lbs xs), .slice (some ⟨g, 0, none⟩) xs.length xs.length]) ∧ w.heap.size ≤ g ∧ Vw w' w.heap.size 4 (some ⟨g, 0, none⟩) xs.length xs.length ((List.range xs.length).map fun i => .bool (lf xs i)) ∧ Bl w w'

/-- where everything lies while directions runs -/
structure Ds (w wr : World) (b1 gl ga gb gv n : Nat) (base la lb : Bool) (D : List Value) : Prop where
  bl : Bl w wr
  f1 : Bx wr b1 4 (.bool base)
  f2 : Bx wr (b1 + 1) 56 (.slice (some ⟨gl, 0, none⟩) n n)
  row : Vw wr w.heap.size 4 (some ⟨gl, 0, none⟩) n n D
  fa : Bx wr ga 4 (.bool la)
  fb : Bx wr gb 4 (.bool lb)
  fv : Bx wr gv 36 (.func (.func 57) #[] #[.pointer (some ⟨gb, 0, none⟩)])
/-- .. and that it lies apart -/
structure Ap (w : World) (b1 gl ga gb gv : Nat) : Prop where
  h0 : b1 = w.heap.size
  h1 : b1 + 1 < gl
  h2 : gl < ga
  h3 : gl < gb
  h4 : gl < gv
  h5 : ga ≠ gb
  h6 : ga ≠ gv
  h7 : gb ≠ gv
section
variable {w wr w' : World} {b1 gl ga gb gv n : Nat} {base la lb : Bool} {D : List Value}
theorem Ds.lay (h : Ds w wr b1 gl ga gb gv n base la lb D) (hb : Bl wr w') : Ds w w' b1 gl ga gb gv n base la lb D :=
  ⟨h.bl.trans hb, h.f1.bl hb, h.f2.bl hb, h.row.bl hb, h.fa.bl hb, h.fb.bl hb, h.fv.bl hb⟩
theorem some_ne {a b : Nat} (h : a ≠ b) : (some ⟨a, 0, none⟩ : Option Addr) ≠ some ⟨b, 0, none⟩ := fun e => by injection e with e; injection e with e; exact h e
theorem Ds.stepA (h : Ds w wr b1 gl ga gb gv n base la lb D) (p : Ap w b1 gl ga gb gv) {x : Bool} (hB : Bx w' ga 4 (.bool x)) (hu : Bu ga wr w') : Ds w w' b1 gl ga gb gv n base x lb D := by
  obtain ⟨h0, h1, h2, h3, h4, h5, h6, h7⟩ := p
  exact ⟨Bu.bl h.bl hu (by omega), h.f1.bu hu (by omega), h.f2.bu hu (by omega), h.row.bu hu (some_ne (by omega)), hB, h.fb.bu hu (by omega), h.fv.bu hu (by omega)⟩
theorem Ds.stepB (h : Ds w wr b1 gl ga gb gv n base la lb D) (p : Ap w b1 gl ga gb gv) {x : Bool} (hB : Bx w' gb 4 (.bool x)) (hu : Bu gb wr w') : Ds w w' b1 gl ga gb gv n base la x D := by
  obtain ⟨h0, h1, h2, h3, h4, h5, h6, h7⟩ := p
  exact ⟨Bu.bl h.bl hu (by omega), h.f1.bu hu (by omega), h.f2.bu hu (by omega), h.row.bu hu (some_ne (by omega)), h.fa.bu hu (by omega), hB, h.fv.bu hu (by omega)⟩
theorem Ds.put (h : Ds w wr b1 gl ga gb gv n base la lb D) (p : Ap w b1 gl ga gb gv) (j : Nat) (y : Value) : Ds w (wr.setCell ⟨gl, j, none⟩ y) b1 gl ga gb gv n base la lb (D.set j y) := by
  obtain ⟨h0, h1, h2, h3, h4, h5, h6, h7⟩ := p
  exact ⟨Below.setCell (p := ⟨gl, j, none⟩) h.bl (show w.heap.size ≤ gl by omega) _, h.f1.other (by omega) _ _, h.f2.other (by omega) _ _, h.row.set j y, h.fa.other (by omega) _ _, h.fb.other (by omega) _ _, h.fv.other (by omega) _ _⟩
theorem Ds.drewN (h : Ds w wr b1 gl ga gb gv n base la lb D) (m : Nat) : Ds w (wr.drewN m) b1 gl ga gb gv n base la lb D := ⟨h.bl.drewN m, h.f1, h.f2, h.row, h.fa, h.fb, h.fv⟩
theorem Ds.drew (h : Ds w wr b1 gl ga gb gv n base la lb D) : Ds w wr.drew b1 gl ga gb gv n base la lb D := ⟨h.bl.drew, h.f1, h.f2, h.row, h.fa, h.fb, h.fv⟩
end
theorem three0 (w : World) (x y z : Obj) : (((w.alloc x).alloc y).alloc z).heap[w.heap.size]? = some x :=
  ((((Bl.refl (w.alloc x)).alloc y).alloc z).block w.heap.size (by simp)).trans (heap_alloc_new w x)
theorem three1 (w : World) (x y z : Obj) : (((w.alloc x).alloc y).alloc z).heap[w.heap.size + 1]? = some y :=
  (((Bl.refl ((w.alloc x).alloc y)).alloc z).block (w.heap.size + 1) (by simp)).trans (heap_alloc2_new w x y)
theorem three2 (w : World) (x y z : Obj) : (((w.alloc x).alloc y).alloc z).heap[w.heap.size + 1 + 1]? = some z := by
  have := heap_alloc_new ((w.alloc x).alloc y) z
  rw [World.size_alloc, World.size_alloc] at this
  exact this
theorem blT (w : World) (x y z : Obj) : Bl w (((w.alloc x).alloc y).alloc z).drew := ((((Bl.refl w).alloc x).alloc y).alloc z).drew

/-- the row while the first loop runs -/
def rowB (l : List Int) (n k : Nat) : List Value := (List.range n).map fun i => .bool (if i < k then lfB l i else false)
theorem rowB_zero (l : List Int) (n : Nat) : rowB l n 0 = List.replicate n (.bool false) := by
  unfold rowB
  apply List.ext_getElem
  · simp
  · intro i h1 h2; simp
theorem rowB_at (l : List Int) {n k : Nat} (h : k < n) : (rowB l n k)[k]? = some (.bool false) := by unfold rowB; simp [h]
theorem rowB_set (l : List Int) (n k : Nat) : (rowB l n k).set k (.bool (lfB l k)) = rowB l n (k + 1) := by
  unfold rowB
  apply List.ext_getElem
  · simp
  · intro i h1 h2
    have hi : i < n := by simpa using h2
    rw [List.getElem_set]
    by_cases hk : k = i
    · subst hk; simp
    · rw [if_neg hk]
      simp only [List.getElem_map, List.getElem_range]
      by_cases hlt : i < k
      · rw [if_pos hlt, if_pos (by omega)]
      · rw [if_neg hlt, if_neg (by omega)]

/-- what the second loop does, of the directions so far -/
def bst (xs : List Int) (base : Bool) (S : Bool × List Bool) (i : Nat) : Bool × List Bool :=
  (nx S.1 (xs.getD i 0), if nx S.1 (xs.getD i 0) = S.2.getD i false then S.2 else S.2.set i base)
def brun (xs : List Int) (base : Bool) (n : Nat) (pre : List {i : Nat // i < n}) : Bool × List Bool := (pre.map (·.1)).foldl (bst xs base) (base, (List.range n).map (lfB xs))
theorem brun_snoc (xs : List Int) (base : Bool) (n : Nat) (pre : List {i : Nat // i < n}) (x : {i : Nat // i < n}) : brun xs base n (pre ++ [x]) = bst xs base (brun xs base n pre) x.1 := by
  unfold brun
  rw [List.map_append, List.foldl_append]; rfl
theorem bst_len (xs : List Int) (base : Bool) (S : Bool × List Bool) (i : Nat) : (bst xs base S i).2.length = S.2.length := by
  unfold bst
  split <;> simp
theorem brun_len (xs : List Int) (base : Bool) (n : Nat) (pre : List {i : Nat // i < n}) : (brun xs base n pre).2.length = n := by
  unfold brun
  suffices h : ∀ (l : List Nat) (S : Bool × List Bool), (l.foldl (bst xs base) S).2.length = S.2.length by rw [h]; simp
  intro l
  induction l with
  | nil => intro S; rfl
  | cons a l ih => intro S; rw [List.foldl_cons, ih, bst_len]
theorem brun_all {xs : List Int} {n : Nat} (hn : xs.length = n) : ∀ k, k ≤ n → ((List.range n).reverse.take k).foldl (bst xs (lbs xs)) (lbs xs, (List.range n).map (lfB xs)) =
    (decide (fst' (bas xs) (xs.drop (n - k)) < 0), (List.range n).map fun i => if n - k ≤ i then lf xs i else lfB xs i) := by
  intro k
  induction k with
  | zero =>
    intro _
    rw [List.take_zero, List.foldl_nil, Nat.sub_zero, List.drop_of_length_le (by omega)]
    refine Prod.ext rfl ?_
    apply List.map_congr_left
    intro i hi
    rw [if_neg (by have := List.mem_range.1 hi; omega)]
  | succ k ih =>
    intro hk
    rw [rev_take (by omega), List.foldl_append, ih (by omega)]
    have hi : n - 1 - k < xs.length := by omega
    have e2 : xs.drop (n - (k + 1)) = xs.getD (n - 1 - k) 0 :: xs.drop (n - k) := by
      rw [show n - (k + 1) = n - 1 - k by omega, List.drop_eq_getElem_cons hi, show n - 1 - k + 1 = n - k by omega]
      simp [List.getD, List.getElem?_eq_getElem hi]
    have hA : lfA xs (n - 1 - k) = decide (fst' (bas xs) (xs.drop (n - (k + 1))) < 0) := by unfold lfA; rw [show n - (k + 1) = n - 1 - k by omega]
    have hnx := nx_fst (bas xs) (xs.drop (n - k)) (xs.getD (n - 1 - k) 0)
    rw [← e2, ← hA] at hnx
    have hlf := lf_eq xs hi
    have hg : ((List.range n).map fun i => if n - k ≤ i then lf xs i else lfB xs i).getD (n - 1 - k) false = lfB xs (n - 1 - k) := by
      simp only [List.getD, List.getElem?_map, List.getElem?_range (show n - 1 - k < n by omega), Option.map_some, Option.getD_some]
      rw [if_neg (by omega)]
    rw [List.foldl_cons, List.foldl_nil]
    unfold bst
    simp only
    rw [hnx, hg, ← hA]
    refine Prod.ext rfl ?_
    simp only
    apply List.ext_getElem
    · split <;> simp
    · intro i h1 h2
      have hin : i < n := by simpa using h2
      by_cases hii : i = n - 1 - k
      · subst hii
        by_cases hc : lfA xs (n - 1 - k) = lfB xs (n - 1 - k)
        · rw [if_pos hc] at hlf
          simp only [if_pos hc, List.getElem_map, List.getElem_range]
          rw [if_neg (by omega), if_pos (by omega), hlf]
        · rw [if_neg hc] at hlf
          simp only [if_neg hc, List.getElem_set_self, List.getElem_map, List.getElem_range]
          rw [if_pos (by omega), hlf]
      · split
        · simp only [List.getElem_map, List.getElem_range]
          by_cases h : n - k ≤ i
          · rw [if_pos h, if_pos (by omega)]
          · rw [if_neg h, if_neg (by omega)]
        · simp only [List.getElem_set, List.getElem_map, List.getElem_range]
          rw [if_neg (fun h => hii h.symm)]
          by_cases h : n - k ≤ i
          · rw [if_pos h, if_pos (by omega)]
          · rw [if_neg h, if_neg (by omega)]
theorem brun_end {xs : List Int} {n : Nat} (hn : xs.length = n) {ys : List {i : Nat // i < n}} (hy : ys.map (·.1) = (List.range n).reverse) : (brun xs (lbs xs) n ys).2 = (List.range n).map (lf xs) := by
  have h := brun_all hn n (Nat.le_refl _)
  rw [List.take_of_length_le (by simp)] at h
  unfold brun
  rw [hy, h]
  apply List.map_congr_left
  intro i _
  rw [if_pos (by omega)]
theorem Ds.grown {w W W' : World} {b1 gl ga gb gv n : Nat} {base la lb : Bool} {D : List Value} {B : Nat} {row : Option Nat} (h : Ds w W b1 gl ga gb gv n base la lb D) (hB : w.heap.size ≤ B)
    (hg : W.grownBy W' row) (hr : ∀ r, row = some r → B ≤ r ∧ ∃ o : Obj, W.heap[r]? = some o ∧ o.isCells = false) : Ds w W' b1 gl ga gb gv n base la lb D := by
  have key : ∀ (g : Nat) (cs : Array Value) (T : TypeId) (fr : Nat × Nat), W.heap[g]? = some (.cells cs T fr) → W'.heap[g]? = W.heap[g]? := fun g cs T fr hh => by
    refine hg.block g (Array.getElem?_eq_some_iff.1 hh).1 fun he => ?_
    obtain ⟨_, o, ho, hc⟩ := hr g he.symm
    rw [hh] at ho
    injection ho with ho
    subst ho
    cases hc
  have kb : ∀ {g : Nat} {T : TypeId} {v : Value}, Bx W g T v → Bx W' g T v := fun hb => (key _ _ _ _ hb).trans hb
  refine ⟨h.bl.grown hg (Nat.le_trans h.bl.size (Nat.le_refl _)) (fun r e => by have := (hr r e).1; omega), kb h.f1, kb h.f2, ?_, kb h.fa, kb h.fb, kb h.fv⟩
  refine ⟨h.row.1, ?_⟩
  rcases h.row.2 with h0 | ⟨g, cap, cur, hv, hb, hh, rest⟩
  · exact .inl h0
  · exact .inr ⟨g, cap, cur, hv, hb, (key _ _ _ _ hh).trans hh, rest⟩

theorem idx_one (xs : List Int) : ∃ I : Int, (∀ w e w', IdxOut xs w e w' → e = .returned (.int .i64 I) ∧ Bl w w') ∧ ((I = -1 ∧ lbs xs = false) ∨ ∃ k : Nat, k < xs.length ∧ I = k ∧ lbs xs = (scr (xs.getD k 0) == 4)) := by
  by_cases hx : ∀ x ∈ xs, st x = 0
  · refine ⟨-1, ?_, .inl ⟨rfl, by unfold lbs bas; rw [fst_none hx]; rfl⟩⟩
    rintro w e w' ⟨h1 | ⟨k, hk, he, hz, hn⟩, hb⟩
    · exact ⟨h1.1, hb⟩
    · exact absurd (hx _ (mem_at hk)) hn
  · have hex : ∃ k, k < xs.length ∧ st (xs.getD k 0) ≠ 0 := by
      refine Classical.byContradiction fun hno => hx fun x hx => Classical.byContradiction fun h0 => hno ?_
      obtain ⟨i, hi, rfl⟩ := List.mem_iff_getElem.1 hx
      exact ⟨i, hi, by simpa [List.getD, List.getElem?_eq_getElem hi] using h0⟩
    have hmin : ∃ k, k < xs.length ∧ st (xs.getD k 0) ≠ 0 ∧ ∀ j, j < k → st (xs.getD j 0) = 0 := by
      obtain ⟨k, hk, hn⟩ := hex
      induction k using Nat.strongRecOn with
      | _ k ih =>
        by_cases hall : ∀ j, j < k → st (xs.getD j 0) = 0
        · exact ⟨k, hk, hn, hall⟩
        · obtain ⟨j, hj⟩ := Classical.not_forall.1 hall
          obtain ⟨hjk, hj0⟩ := Classical.not_imp.1 hj
          exact ih j hjk (by omega) hj0
    obtain ⟨k, hk, hn, hz⟩ := hmin
    refine ⟨k, ?_, .inr ⟨k, hk, rfl, ?_⟩⟩
    · rintro w e w' ⟨h1 | ⟨k', hk', he, hz', hn'⟩, hb⟩
      · exact absurd h1.2 hx
      · have : k' = k := by
          rcases Nat.lt_trichotomy k' k with h | h | h
          · exact absurd (hz k' h) hn'
          · exact h
          · exact absurd (hz' k h) hn
        subst this
        exact ⟨he, hb⟩
    · unfold lbs bas
      rw [fst_first hk hz hn]
      have h := st_cases (xs.getD k 0)
      by_cases h4 : scr (xs.getD k 0) = 4
      · have : st (xs.getD k 0) = -1 := by omega
        rw [this, h4]; rfl
      · have : st (xs.getD k 0) = 1 := by omega
        rw [this, beq_eq_false_iff_ne.2 h4]; rfl

attribute [local go_sem] Oper.semAt_some
set_option maxHeartbeats 2000000 in
theorem directions_any (A : Option Addr) (n c : Nat) (xs : List Int) (w : World) (hS : Sh w w.heap.size .i64 A n xs) (hm : n ≤ 1048576) (hO : ∀ x ∈ xs, -9223372036854775808 ≤ x ∧ x ≤ 9223372036854775807) (hT : Tab w) :
    Calls Tryd.prog 35 #[.slice A n c] w (DirOut xs w) := by
  refine (callsIn_wide (n := 10)).1 ?_
  refine callsIn_of_wp_marks Tryd.func35 rfl trivial ?_ rfl
  refine wpIn_wide.2 ?_
  simp only [Tryd.ntmps35, List.size_toArray, List.length_cons, List.length_nil, Nat.reduceAdd, Nat.reduceSub, Array.replicate_succ, Array.replicate_zero, List.push_toArray, List.append_toArray, List.nil_append, List.cons_append]
  have cI := hid (fun w' (hb : Bl w w') => Index_any A n c xs w' (hS.bl hb) hm hO (hT.bl hb))
  have cS := hid (fun r w' (hb : Bl w w') (h0 : -9223372036854775808 ≤ r) (h1 : r ≤ 9223372036854775807) => Script_any r w' h0 h1 (hT.bl hb))
  have HT := hid hT
  have HS := hid hS
  have HO := hid hO
  have hl := hid hS.len
  clear hT hS hO
  obtain ⟨I, hI1, hI2⟩ := idx_one xs
  have cI := hid (fun w' hb => (cI.out w' hb).mono fun e w'' h => hI1 w' e w'' h)
  have HI := hid hI2
  clear hI1 hI2
  go_upto_if 14 with (go_at_call 46; refine (cI.out _ (((Bl.refl w).alloc _).alloc _)).mono ?_; rintro e w1 ⟨rfl, hb1⟩)
  obtain ⟨b1, hb1'⟩ : ∃ b1, b1 = w.heap.size := ⟨_, rfl⟩
  have HB1 := hid hb1'
  have hx1 : Bx w1 b1 4 (.bool false) := by rw [hb1']; exact ((Bx.new w _ _).al _).bl hb1
  have hx2 : Bx w1 (b1 + 1) 56 (.slice none 0 0) := by
    rw [hb1']
    have := (Bx.new (w.alloc (.cells #[.bool false] 4)) 56 (.slice none 0 0)).bl hb1
    rw [World.size_alloc] at this
    exact this
  have hbw1 := (((Bl.refl w).alloc _).alloc _).trans hb1
  rw [← hb1']
  clear hb1' hb1 cI
  go_cut [] from 15 to 20 (fun wx => Bx wx b1 4 (.bool (lbs xs)) ∧ Bx wx (b1 + 1) 56 (.slice none 0 0) ∧ Bl w wx)
  case first =>
    rcases HI.out with ⟨rfl, hlb⟩ | ⟨k, hk, rfl, hlb⟩
    · go_wp2
      go_meet
      case rel => exact ⟨by rw [hlb]; exact hx1, hx2, hbw1⟩
    · have hkn : k < n := by rw [← hl.out]; exact hk
      obtain ⟨b, o, rfl, _, hcell⟩ := (HS.out.bl hbw1).2 (by omega)
      have hc1 := hcell k hkn
      have hxk := HO.out _ (mem_at hk)
      have cS1 := hid (cS.out _ w1 hbw1 hxk.1 hxk.2)
      clear hcell
      have HLB := hid hlb
      clear hlb
      generalize xs.getD k 0 = x at *
      have t0 : decide ((0 : Int) ≤ (k : Int)) = true := decide_eq_true (by omega)
      go_wp2_with (go_at_call 18; refine cS1.out.mono ?_; rintro e w2 ⟨rfl, hb2⟩; have hx12 := hx1.bl hb2; have hf12 := hx12.free; have hc12 := hx12.cell)
      go_meet
      case rel => exact ⟨by rw [HLB.out]; exact hx12.set _, (hx2.bl hb2).other (by omega) 0 _, Below.setCell (p := ⟨b1, 0, none⟩) (hbw1.trans hb2) (by rw [HB1.out]; exact Nat.le_refl _) _⟩
  case rest =>
    obtain ⟨hy1, hy2, hbc⟩ := hcut
    clear hx1 hx2 hbw1
    obtain ⟨base, hbase⟩ : ∃ b, b = lbs xs := ⟨_, rfl⟩
    have HBS := hid hbase
    rw [← hbase] at hy1
    clear hbase
    have hyf2 := hy2.free
    have hyc2 := hy2.cell
    obtain ⟨ib, hib, hbz0, hbz1, hbz2⟩ := info_parts infoB
    go_upto_region 5 with (at_make; refine wpList_make_full _ rfl _ _ 56 rfl wc.heap.size 4 ib (.bool false) 1 Tryd.underlying56 hib hbz0 hbz1 .i64 .i64 _ _ n rfl rfl rfl rfl (by rw [hbz2]; omega) (by unfold maxLen; omega) (Nat.le_refl _) ?_; intro w3 hV3 hg3; have hb3 : Bl wc w3 := (Below.refl wc.heap.size wc).grown hg3 (Nat.le_refl _) (fun g hk => by cases hk); have hy23 := hy2.bl hb3; have hyc23 := hy23.cell; have hyf23 := hy23.free)
    have hf2 := hid (hy23.set (.slice (some ⟨wc.heap.size, 0, none⟩) n n))
    have hf1 := hid ((hy1.bl hb3).other (g' := b1 + 1) (by omega) 0 (.slice (some ⟨wc.heap.size, 0, none⟩) n n))
    have hlt12 : b1 + 1 < wc.heap.size := hy2.lt
    have hbw : w.heap.size ≤ wc.heap.size := hbc.size
    have hf3 := hid (Vw.other (B := wc.heap.size) (e := 4) (b := b1 + 1) hV3 (fun he => by injection he with he; injection he with he; omega) 0 (.slice (some ⟨wc.heap.size, 0, none⟩) n n))
    have hf4 := hid (Below.setCell (p := ⟨b1 + 1, 0, none⟩) (hbc.trans hb3) (by rw [HB1.out]; show w.heap.size ≤ w.heap.size + 1; omega) (.slice (some ⟨wc.heap.size, 0, none⟩) n n))
    have hf5 : wc.heap.size < w3.heap.size := own_lt hV3
    generalize w3.setCell ⟨b1 + 1, 0, none⟩ (.slice (some ⟨wc.heap.size, 0, none⟩) n n) = w4 at *
    clear hV3 hg3 hb3 hy23 hyc23 hyf23 hyf2 hyc2 hy1 hy2 hbc
    have hc4 := hf1.out.cell
    have hb14 := hf1.out.lt
    have hf3 := hid (hf3.out.less hbw)
    rw [Nat.mul_one, show (Value.bool false).cells = #[.bool false] by rfl, toList_madeCells_one] at hf3
    have hgl4 : wc.heap.size < w4.heap.size := own_lt hf3.out
    obtain ⟨gl, hgl⟩ : ∃ gl, gl = wc.heap.size := ⟨_, rfl⟩
    rw [← hgl] at hf2 hf3 hlt12 hgl4 ⊢
    clear hgl hbw hf5
    go_cut [5, 6] from 24 to 27 (fun f p wx => ∃ ga gb gv : Nat, f = .func (.func 57) #[] #[.pointer (some ⟨ga, 0, none⟩)] ∧ p = .pointer (some ⟨gv, 0, none⟩) ∧ w4.heap.size ≤ ga ∧ w4.heap.size ≤ gb ∧ w4.heap.size ≤ gv ∧ ga ≠ gb ∧ ga ≠ gv ∧ gb ≠ gv ∧
      Bx wx ga 4 (.bool base) ∧ Bx wx gb 4 (.bool base) ∧ Bx wx gv 36 (.func (.func 57) #[] #[.pointer (some ⟨gb, 0, none⟩)]) ∧ Bl w4 wx)
    case first =>
      go_region_held3 (fun w' => w'.cell? ⟨b1, 0, none⟩ = some (.bool base)) (repeat (first | (with_reducible exact hc4) | (with_reducible refine cell_drew ?_) | (with_reducible refine cell_al ?_ ?_; rotate_left; focus (show b1 < _; first | exact hb14 | (simp only [World.size_alloc]; omega))))) (first | (go_at_call 48; refine (nearest_any _ _).mono ?_; rintro e w5 ⟨rfl, rfl⟩))
      · go_wp2_with fail
        go_meet
        case rel => exact ⟨w4.heap.size, w4.heap.size + 1, w4.heap.size + 1 + 1, rfl, rfl, by omega, by omega, by omega, by omega, by omega, by omega, three0 w4 _ _ _, three1 w4 _ _ _, three2 w4 _ _ _, blT w4 _ _ _⟩
      · go_wp2_with fail
        go_meet
        case rel => exact ⟨w4.heap.size, w4.heap.size + 1 + 1, w4.heap.size + 1, rfl, rfl, by omega, by omega, by omega, by omega, by omega, by omega, three0 w4 _ _ _, three2 w4 _ _ _, three1 w4 _ _ _, blT w4 _ _ _⟩
      · go_wp2_with fail
        go_meet
        case rel => exact ⟨w4.heap.size + 1, w4.heap.size + 1 + 1, w4.heap.size, rfl, rfl, by omega, by omega, by omega, by omega, by omega, by omega, three1 w4 _ _ _, three2 w4 _ _ _, three0 w4 _ _ _, blT w4 _ _ _⟩
    case rest =>
      obtain ⟨ga, gb, gv, rfl, rfl, q1, q2, q3, q4, q5, q6, q7, q8, q9, q10⟩ := hcut
      have hap : Ap w b1 gl ga gb gv := ⟨HB1.out, hlt12, by omega, by omega, by omega, q4, q5, q6⟩
      have hds : Ds w wc b1 gl ga gb gv n base base base (rowB xs n 0) := by
        refine ⟨Bl.trans hf4.out q10, hf1.out.bl q10, hf2.out.bl q10, ?_, q7, q8, q9⟩
        rw [rowB_zero]
        exact hf3.out.bl q10
      clear hf1 hf2 hf3 hf4 q1 q2 q3 q4 q5 q6 q7 q8 q9 q10 hc4 hb14 hgl4 hlt12
      have cN := hid (fun g b r w' (hb : Bl w w') (hB : Bx w' g 4 (.bool b)) (h0 : -9223372036854775808 ≤ r) (h1 : r ≤ 9223372036854775807) => stepN_any g b r w' hB h0 h1 (HT.out.bl hb))
      have HAP := hid hap
      have HBS2 := hid (show base = decide (lst' (bas xs) (xs.take 0) < 0) by rw [HBS.out]; rfl)
      go_wp2_with fail
      go_loopw [30, 7, 8] (fun i _ _ wr => ∃ (k : Nat) (la : Bool), i = .int .i64 (k : Nat) ∧ k ≤ n ∧ Hid (la = decide (lst' (bas xs) (xs.take k) < 0)) ∧ Ds w wr b1 gl ga gb gv n base la base (rowB xs n k)) (fun i _ _ _ => n - (intOf i).toNat)
      case atStart => exact ⟨0, base, rfl, by omega, hid HBS2.out, hds⟩
      case round =>
        clear hds
        obtain ⟨k, la, rfl, hk, hla, hD⟩ := hrel
        by_cases hlt : k < n
        · obtain ⟨b, o, rfl, _, hcell⟩ := (HS.out.bl hD.bl).2 (by omega)
          have hc1 := hcell k hlt
          have hxk := HO.out _ (mem_at (xs := xs) (j := k) (by rw [hl.out]; exact hlt))
          have hsn := hid (take_snoc (l := xs) (i := k) (by rw [hl.out]; exact hlt))
          clear hcell
          have hnx := hid (show nx la (xs.getD k 0) = lfB xs k by rw [hla.out, nx_lst _ (bas_dir xs), ← hsn.out]; rfl)
          have hrs := hid (rowB_set xs n k)
          have hcr := hid (rowB_at xs hlt)
          have cN1 := hid (cN.out ga la (xs.getD k 0) wr.drew hD.bl.drew hD.fa hxk.1 hxk.2)
          rw [hnx.out] at cN1
          have hla2 := hid (show lfB xs k = decide (lst' (bas xs) (xs.take (k + 1)) < 0) by rfl)
          generalize xs.getD k 0 = x at *
          generalize lfB xs k = y at *
          have HD := hid hD
          have hc2 := hD.f2.cell
          have hap' := HAP.out
          clear hD hnx hsn
          have hbg : b1 + 1 ≠ ga := by have := hap'.h1; have := hap'.h2; omega
          go_upto_region 9 with fail
          go_region_held3 (fun w' => w'.cell? ⟨b1 + 1, 0, none⟩ = some (.slice (some ⟨gl, 0, none⟩) n n)) (first | (with_reducible exact hc2) | (with_reducible exact cell_drew hc2) | go_keep | (with_reducible exact hc5) | (with_reducible exact hc8)) (first | (go_at_call 57; refine cN1.out.mono ?_; rintro e w5 ⟨rfl, hB5, hu5⟩; have hD5 := HD.out.drew.stepA hap' hB5 hu5; have hc5 := hD5.f2.cell; have hc6 := (hD5.row.cellAt (j := k) hlt).trans hcr.out; have hc7 := hD5.row.free k; have hc8 := (hD5.put hap' k (.bool y)).f2.cell))
          go_wp2_with fail
          go_roundw
          case rel => exact ⟨k + 1, y, by go_num, by omega, hid hla2.out, by rw [← hrs.out]; exact hD5.put hap' k _⟩
          case measure => simp [intOf]; omega
        · obtain rfl : k = n := by omega
          have hcb := hD.f2.cell
          go_wp2_with fail
          refine (back_any A k c wr).mono ?_
          rintro e w9 ⟨rfl, rfl⟩
          go_wp2_with fail
          have hbox := Bx.new wr 22 (.slice A k c)
          have hD9 := hD.lay ((Bl.refl wr).alloc (.cells #[.slice A k c] 22))
          have hs9 : wr.heap.size < (wr.alloc (.cells #[.slice A k c] 22)).heap.size := by simp
          have hw9 := hD9.bl.size
          have hgb := hD.fb.lt
          have hgl : gl < wr.heap.size := own_lt hD.row
          have hrow : rowB xs k k = ((List.range k).map (lfB xs)).map .bool := by
            unfold rowB
            rw [List.map_map]
            apply List.map_congr_left
            intro i hi
            simp [List.mem_range.1 hi]
          rw [hrow] at hD9
          generalize wr.alloc (.cells #[.slice A k c] 22) = w9 at *
          obtain ⟨s, hs⟩ : ∃ s, s = wr.heap.size := ⟨_, rfl⟩
          rw [← hs] at hbox hs9 hgb hgl ⊢
          clear hs hD hcb hrow
          have hgl1 := hap.h1
          have hb10 := hid hap.h0
          have hap := hid hap
          refine (wpIn_wide (n := 10)).1 ?_
          refine wpIn_rangeFunc_ownG (F := Fence.wide) (n := 10) rfl (by decide) (gf := 58) (lb := #[.pointer (some ⟨s, 0, none⟩)]) rfl trivial (enters_of Tryd.func58 (by kernel_rfl) rfl)
            (back_stops Fence.wide (10 - 1) trivial rfl (by decide) s w.heap.size k c A xs hm w9 hbox.cell (HS.out.below hD9.bl) hs9 hw9) (fun h g => Kq.trans h g) (fun W l o o' hl h h1 h2 => Kq.put hw9 hs9 W l o o' hl h h1 h2) (Below.refl _ _) (fun _ => rfl)
            (fun pre W => Ds w W b1 gl ga gb gv k base la (brun xs base k pre).1 ((brun xs base k pre).2.map .bool) ∧ Bx W s 22 (.slice A k c)) (fun _ _ _ => False)
            (fun pre W W' row h hg hr => ⟨h.1.grown hw9 hg hr, ?own⟩) (fun _ _ _ _ _ hs _ _ => hs) ⟨hD9, hbox⟩ ?a1 ?assign ?body ?done ?stop
          case own =>
            refine (hg.block s (Array.getElem?_eq_some_iff.1 h.2).1 fun he => ?_).trans h.2
            obtain ⟨_, o, ho, hc⟩ := hr s he.symm
            rw [show W.heap[s]? = _ from h.2] at ho
            injection ho with ho
            subst ho
            cases hc
          case assign =>
            intro l x W K hK
            dsimp only [bkv]
            gi_wp2
            exact hK
          case body =>
            rintro l pre ⟨i, hi⟩ W ⟨hd, hbx⟩ hlen
            have hvb := HO.out _ (mem_at (xs := xs) (j := i) (by rw [hl.out]; exact hi))
            have hc1 := hd.fv.cell
            have hc2 := hd.f2.cell
            have hc3 := hd.row.cellAt hi
            have hcv : ((brun xs base k pre).2.map Value.bool)[i]? = some (.bool ((brun xs base k pre).2.getD i false)) := by
              have := brun_len xs base k pre
              simp [List.getD, List.getElem?_eq_getElem (show i < (brun xs base k pre).2.length by omega)]
            rw [hcv] at hc3
            have hcv5 := hid hcv
            have hsn := hid (brun_snoc xs base k pre ⟨i, hi⟩)
            have hb := hid (show bst xs base (brun xs base k pre) i = (nx (brun xs base k pre).1 (xs.getD i 0), if nx (brun xs base k pre).1 (xs.getD i 0) = (brun xs base k pre).2.getD i false then (brun xs base k pre).2 else (brun xs base k pre).2.set i base) from rfl)
            have cN1 := hid (cN.out gb (brun xs base k pre).1 (xs.getD i 0) W.drew hd.bl.drew hd.fb hvb.1 hvb.2)
            have HD := hid hd
            dsimp only
            clear hd hcv hvb
            generalize brun xs base k pre = S at *
            obtain ⟨lb, D⟩ := S
            simp only at hc3 cN1 hb
            generalize hv : xs[i]?.getD 0 = v
            have hv' : xs.getD i 0 = v := hv
            rw [hv'] at cN1 hb
            clear hv hv'
            generalize D.getD i false = d at *
            generalize nx lb v = y at *
            have hap' := hap.out
            gi_wp2
            refine region_in (S := fun w' => w'.cell? ⟨gv, 0, none⟩ = some (.func (.func 57) #[] #[.pointer (some ⟨gb, 0, none⟩)]) ∧ w'.cell? ⟨b1 + 1, 0, none⟩ = some (.slice (some ⟨gl, 0, none⟩) k k) ∧ w'.cell? ⟨gl, i, none⟩ = some (.bool d)) l _ _ (by kernel_rfl) (by kernel_rfl) ⟨hc1, hc2, hc3⟩ (fun hS0 => ?_)
            refine wpAnyH_take (i := 0) (oi := _) (v := .func (.func 57) #[] #[.pointer (some ⟨gb, 0, none⟩)]) rfl (by kernel_rfl) (by kernel_rfl) (by kernel_rfl) (fun _ _ _ h => h) (Or.inl ⟨by rfl, ?_⟩) hS0 ?_
            · rintro w' ⟨e1, e2, e3⟩
              go_simp
            try simp only [Act.put, List.setIfInBounds_toArray, List.set_cons_zero, List.set_cons_succ, List.getElem_toArray, List.getElem_cons_succ, List.getElem_cons_zero]
            refine wpAnyH_take (i := 1) (oi := _) (v := .int .i64 v) rfl (by kernel_rfl) (by kernel_rfl) (by kernel_rfl) (fun _ _ _ h => h) (Or.inl ⟨by rfl, ?_⟩) hS0 ?_
            · rintro w' ⟨e1, e2, e3⟩
              go_simp
            try simp only [Act.put, List.setIfInBounds_toArray, List.set_cons_zero, List.set_cons_succ, List.getElem_toArray, List.getElem_cons_succ, List.getElem_cons_zero]
            refine wpAnyH_take (i := 3) (oi := _) (v := .slice (some ⟨gl, 0, none⟩) k k) rfl (by kernel_rfl) (by kernel_rfl) (by kernel_rfl) (fun _ _ _ h => h) (Or.inl ⟨by rfl, ?_⟩) hS0 ?_
            · rintro w' ⟨e1, e2, e3⟩
              go_simp
            try simp only [Act.put, List.setIfInBounds_toArray, List.set_cons_zero, List.set_cons_succ, List.getElem_toArray, List.getElem_cons_succ, List.getElem_cons_zero]
            refine wpAnyH_take (i := 4) (oi := _) (v := .int .i64 (i : Nat)) rfl (by kernel_rfl) (by kernel_rfl) (by kernel_rfl) (fun _ _ _ h => h) (Or.inl ⟨by rfl, ?_⟩) hS0 ?_
            · rintro w' ⟨e1, e2, e3⟩
              go_simp
            try simp only [Act.put, List.setIfInBounds_toArray, List.set_cons_zero, List.set_cons_succ, List.getElem_toArray, List.getElem_cons_succ, List.getElem_cons_zero]
            refine wpAnyH_take (i := 5) (oi := _) (v := .pointer (some ⟨gl, i, none⟩)) rfl (by kernel_rfl) (by kernel_rfl) (by kernel_rfl) (fun _ _ _ h => h) (Or.inl ⟨by rfl, ?_⟩) hS0 ?_
            · rintro w' ⟨e1, e2, e3⟩
              go_simp
            try simp only [Act.put, List.setIfInBounds_toArray, List.set_cons_zero, List.set_cons_succ, List.getElem_toArray, List.getElem_cons_succ, List.getElem_cons_zero]
            refine wpAnyH_take (i := 6) (oi := _) (v := .bool d) rfl (by kernel_rfl) (by kernel_rfl) (by kernel_rfl) (fun _ _ _ h => h) (Or.inl ⟨by rfl, ?_⟩) hS0 ?_
            · rintro w' ⟨e1, e2, e3⟩
              go_simp
            try simp only [Act.put, List.setIfInBounds_toArray, List.set_cons_zero, List.set_cons_succ, List.getElem_toArray, List.getElem_cons_succ, List.getElem_cons_zero]
            refine wpAnyH_ready (rs := [2]) (by kernel_rfl) (by simp) ?_
            refine AllReadyH.cons (o := _) rfl (fun K hK => ?_) AllReadyH.nil
            go_simp
            refine cN1.out.mono ?_
            rintro e w5 ⟨rfl, hB5, hu5⟩
            have hD5 := HD.out.drew.stepB hap' hB5 hu5
            refine hK.out _ _ ⟨hD5.fv.cell, hD5.f2.cell, (hD5.row.cellAt (j := i) hi).trans hcv5.out⟩ (fun hS0 => ?_)
            clear hK K
            try simp only [Act.put, List.setIfInBounds_toArray, List.set_cons_zero, List.set_cons_succ, List.getElem_toArray, List.getElem_cons_succ, List.getElem_cons_zero]
            have hgbx := hap'.h3
            have hgbl := hap'.h1
            have hK5 : KeepsFrom w9.heap.size W w5 ∧ Kq w.heap.size s W w5 ∧ Bx w5 s 22 (.slice A k c) := by
              have hws := HD.out.bl.size
              have hsW : s < W.heap.size := hbx.lt
              have hb1w := hap'.h0
              refine ⟨⟨hu5.size, fun j o _ ho hc => ?_⟩, fun j hj => hu5.block j (show j < W.heap.size by omega) (by omega), Bx.bu (w := W.drew) hbx hu5 (by omega)⟩
              refine (hu5.block j (Array.getElem?_eq_some_iff.1 ho).1 fun he => ?_).trans ho
              subst he
              rw [show W.heap[j]? = _ from HD.out.fb] at ho
              injection ho with ho
              subst ho
              cases hc
            by_cases hyd : y = d
            · have hb := hid (hb.out.trans (by rw [if_pos hyd]))
              have t1 : (y == d) = true := by rw [hyd]; exact beq_self_eq_true _
              have t2 : (!(y == d)) = false := by rw [t1]; rfl
              refine wpAnyH_take (i := 7) (oi := _) (v := .bool false) rfl (by kernel_rfl) (by kernel_rfl) (by kernel_rfl) (fun _ _ _ h => h) (Or.inl ⟨by rfl, ?_⟩) hS0 ?_
              · rintro w' ⟨e1, e2, e3⟩
                go_simp
              try simp only [Act.put, List.setIfInBounds_toArray, List.set_cons_zero, List.set_cons_succ, List.getElem_toArray, List.getElem_cons_succ, List.getElem_cons_zero]
              clear t1 t2
              refine wpAnyH_done (by kernel_rfl) ?_ _
              refine qn_normal ?_
              gi_wp2
              refine ⟨hK5.1, hK5.2.1, ?_, hK5.2.2⟩
              rw [hsn.out, hb.out]
              exact hD5
            · have hb := hid (hb.out.trans (by rw [if_neg hyd]))
              have t1 : (y == d) = false := beq_eq_false_iff_ne.2 hyd
              have t2 : (!(y == d)) = true := by rw [t1]; rfl
              refine wpAnyH_take (i := 7) (oi := _) (v := .bool true) rfl (by kernel_rfl) (by kernel_rfl) (by kernel_rfl) (fun _ _ _ h => h) (Or.inl ⟨by rfl, ?_⟩) hS0 ?_
              · rintro w' ⟨e1, e2, e3⟩
                go_simp
              try simp only [Act.put, List.setIfInBounds_toArray, List.set_cons_zero, List.set_cons_succ, List.getElem_toArray, List.getElem_cons_succ, List.getElem_cons_zero]
              clear t1 t2 hyd
              refine wpAnyH_done (by kernel_rfl) ?_ _
              refine qn_normal ?_
              have hc6 := hD5.f2.cell
              have hc7 := hD5.f1.cell
              have hc8 := (hD5.row.cellAt (j := i) hi).trans hcv5.out
              have hc9 := hD5.row.free i
              gi_wp2
              refine ⟨hK5.1.trans ((KeepsOthers.setCell _ _ _).from _), hK5.2.1.trans (fun j hj => heap_setCell_other w5 ⟨gl, i, none⟩ j _ (by have := hap'.h0; show j ≠ gl; omega)), ?_, hK5.2.2.other (by omega) _ _⟩
              rw [hsn.out, hb.out]
              have := hD5.put hap' i (.bool base)
              rw [← List.map_set] at this
              exact this
          case done =>
            rintro D ys W hD hys ⟨hd, hbx⟩ hK
            have hend := brun_end hl.out hys
            rw [HBS.out] at hd
            rw [hend, ← HBS.out] at hd
            generalize (brun xs base k ys).1 = lb at *
            have hap' := hap.out
            have hc1 := hd.f1.cell
            have hc2 := hd.f2.cell
            have hf1 := hd.f1.free
            have hf2 := hd.f2.free
            have hB1 : Bx (W.setCell ⟨b1, 0, none⟩ (.bool base)) b1 4 (.bool base) := Bx.set hd.f1 _
            have hB2 : Bx (W.setCell ⟨b1, 0, none⟩ (.bool base)) (b1 + 1) 56 (.slice (some ⟨gl, 0, none⟩) k k) := Bx.other hd.f2 (by omega) _ _
            have hB3 : Bx ((W.setCell ⟨b1, 0, none⟩ (.bool base)).setCell ⟨b1 + 1, 0, none⟩ (.slice (some ⟨gl, 0, none⟩) k k)) b1 4 (.bool base) := hB1.other (by omega) _ _
            have hB4 : Bx ((W.setCell ⟨b1, 0, none⟩ (.bool base)).setCell ⟨b1 + 1, 0, none⟩ (.slice (some ⟨gl, 0, none⟩) k k)) (b1 + 1) 56 (.slice (some ⟨gl, 0, none⟩) k k) := hB2.set _
            have hc3 := hB1.cell
            have hc4 := hB2.cell
            have hf3 := hB1.free
            have hf4 := hB2.free
            have hc5 := hB3.cell
            have hc6 := hB4.cell
            go_wp2_with fail
            go_region_held3 (fun w' => w'.cell? ⟨b1, 0, none⟩ = some (.bool base) ∧ w'.cell? ⟨b1 + 1, 0, none⟩ = some (.slice (some ⟨gl, 0, none⟩) k k)) (first | go_keep | (constructor <;> first | (with_reducible exact hc1) | (with_reducible exact hc2) | (with_reducible exact cell_drew hc1) | (with_reducible exact cell_drew hc2) | (with_reducible exact cell_drew hc3) | (with_reducible exact cell_drew hc4) | (with_reducible exact cell_drew hc5) | (with_reducible exact cell_drew hc6))) (first | fail)
            have hg1 := hap'.h1
            have hg2 := hap'.h2
            have hg3 := hap'.h3
            have hg4 := hap'.h4
            have hg0 := hid hap'.h0
            have hDs : b1 + 1 < D := by omega
            have hd2 : Ds w ((W.setCell ⟨b1, 0, none⟩ (.bool base)).setCell ⟨b1 + 1, 0, none⟩ (.slice (some ⟨gl, 0, none⟩) k k)).drew b1 gl ga gb gv k base la lb (((List.range k).map (lf xs)).map .bool) := by
              refine ⟨Bl.drew (Below.setCell (p := ⟨b1 + 1, 0, none⟩) (Below.setCell (p := ⟨b1, 0, none⟩) hd.bl (by rw [hg0.out]; exact Nat.le_refl _) _) (by rw [hg0.out]; show w.heap.size ≤ w.heap.size + 1; omega) _), hB3, hB4, ?_, ?_, ?_, ?_⟩
              · exact Vw.other (b := b1 + 1) (hd.row.other (b := b1) (some_ne (show gl ≠ b1 by omega)) 0 (.bool base)) (some_ne (show gl ≠ b1 + 1 by omega)) 0 _
              · exact (hd.fa.other (g' := b1) (show ga ≠ b1 by omega) 0 (.bool base)).other (g' := b1 + 1) (show ga ≠ b1 + 1 by omega) 0 _
              · exact (hd.fb.other (g' := b1) (show gb ≠ b1 by omega) 0 (.bool base)).other (g' := b1 + 1) (show gb ≠ b1 + 1 by omega) 0 _
              · exact (hd.fv.other (g' := b1) (show gv ≠ b1 by omega) 0 (.bool base)).other (g' := b1 + 1) (show gv ≠ b1 + 1 by omega) 0 _
            have hK2 : ((W.setCell ⟨b1, 0, none⟩ (.bool base)).setCell ⟨b1 + 1, 0, none⟩ (.slice (some ⟨gl, 0, none⟩) k k)).drew.heap[D]? = some (.deferred (some [])) :=
              (heap_setCell_other (W.setCell ⟨b1, 0, none⟩ (.bool base)) ⟨b1 + 1, 0, none⟩ D _ (by show D ≠ b1 + 1; omega)).trans ((heap_setCell_other W ⟨b1, 0, none⟩ D _ (by show D ≠ b1; omega)).trans hK)
            generalize ((W.setCell ⟨b1, 0, none⟩ (.bool base)).setCell ⟨b1 + 1, 0, none⟩ (.slice (some ⟨gl, 0, none⟩) k k)).drew = W2 at *
            go_wp2_with fail
            refine ⟨by simp, .inl ⟨_, _, rfl, run_takeDeferred hK2, ?_⟩⟩
            have hd3 := hd2.grown (B := w9.heap.size) hw9 (grownBy_putObj' W2 D (.deferred none)) (fun r e => by cases e; exact ⟨hD, _, hK2, rfl⟩)
            have hc7 := hd3.f1.cell
            have hc8 := hd3.f2.cell
            refine ⟨.tuple #[.bool base, .slice (some ⟨gl, 0, none⟩) k k], by simp [results, Tryd.results35, go_sem, hc7, hc8], gl, ?_, by rw [← hg0.out]; omega, ?_, hd3.bl⟩
            · rw [HBS.out, hl.out]
            · have := hd3.row
              rw [List.map_map] at this
              rw [hl.out]
              exact this
          case stop =>
            rintro D c' pre W _ _ h _
            exact h.elim
end Go.Proofs.YtajcalmjdfhedaaDoor.Glyph
