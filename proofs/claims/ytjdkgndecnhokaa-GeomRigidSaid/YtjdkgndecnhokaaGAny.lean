/- A region that draws its order, by an invariant over what has come up: one proof for each operation in place of one for each order. No function of the program. -/
import Derived.Test.YtjdkgndecnhokaaGQuiet
namespace Go.Proofs.Ytjdkgndecnhokaa.Wire
open Go.RowKit
set_option linter.unusedVariables false

theorem count_set {l : List Bool} : ∀ {i : Nat}, l.getD i true = false → (l.set i true).count false < l.count false := by
  induction l with
  | nil => intro i h; simp at h
  | cons b t ih =>
    intro i h
    cases i with
    | zero =>
      have hb : b = false := by simpa using h
      subst hb
      simp
    | succ i =>
      have h' : t.getD i true = false := by simpa using h
      have := ih h'
      simp only [List.set_cons_succ, List.count_cons]
      omega
theorem wpAny_inv {P : Program} {md : Region.Mode} {ops : Array Oper} {Q : Exit → Act → World → Prop} (J : List Bool → Act → World → Prop)
    (hd : ∀ l a w, J l a w → Region.ready md ops l.toArray = [] → Q .normal a w)
    (hs : ∀ i l a w, i ∈ Region.ready md ops l.toArray → J l a w → wpOp P ops Q i (J (l.set i true)) a w) :
    ∀ (fuel : Nat) (l : List Bool) (a : Act) (w : World), l.count false ≤ fuel → J l a w → wpAny P md ops Q fuel l.toArray a w
  | 0, l, a, w, hc, hJ => by
    have h0 : Region.ready md ops l.toArray = [] := List.eq_nil_iff_forall_not_mem.2 fun i hi => by
      have h := (mem_ready.1 hi).1
      have := count_set (l := l) (i := i) (by simpa using h)
      omega
    exact ⟨h0, hd l a w hJ h0⟩
  | fuel + 1, l, a, w, hc, hJ => ⟨fun h0 => hd l a w hJ h0, fun i hi => by
      have h := (mem_ready.1 hi).1
      have hlt := count_set (l := l) (i := i) (by simpa using h)
      refine wpOp_mono (fun a' w' h' => ?_) (hs i l a w hi hJ)
      rw [show l.toArray.setIfInBounds i true = (l.set i true).toArray by simp]
      exact wpAny_inv J hd hs fuel (l.set i true) a' w' (by omega) h'⟩
/-- every operation waits only for operations that stand before it -/
def backB (ops : Array Oper) : Bool := (List.range ops.size).all fun i => ((ops[i]?).map fun o => o.after.all fun e => !Region.binds .any e || decide (e.on < i)).getD true
theorem getD_defs {l : List Bool} {i : Nat} (hi : i < l.length) (h : l.getD i true = true) : l.toArray.getD i false = true := by
  simp only [List.getD, List.getElem?_eq_getElem hi, Option.getD_some] at h
  simp [hi, h]
theorem ready_nil {ops : Array Oper} (hb : backB ops = true) {l : List Bool} (hl0 : l.length = ops.size) (h : Region.ready .any ops l.toArray = []) : ∀ i, i < ops.size → l.getD i true = true := by
  intro i
  induction i using Nat.strongRecOn with
  | ind i ih =>
    intro hi
    cases hl : l.getD i true with
    | true => rfl
    | false =>
      exfalso
      have hx : i ∈ Region.ready .any ops l.toArray := by
        refine mem_ready.2 ⟨by simpa using hl, ops[i], by simp [hi], fun e he hbd => ?_⟩
        have h1 := List.all_eq_true.1 hb i (by simpa using hi)
        simp only [Array.getElem?_eq_getElem hi, Option.map_some, Option.getD_some, Array.all_eq_true_iff_forall_mem] at h1
        have h2 : e.on < i := by
          have h3 := h1 e he
          rw [hbd] at h3
          simpa using h3
        exact getD_defs (by omega) (ih e.on h2 (by omega))
      rw [h] at hx
      cases hx
/-- THE LAW: J holds at the beginning, is kept by each operation that may come up, and gives what is asked when all have come up -/
theorem wp_region_inv {P : Program} {id : Nat} {ops : List Oper} {Q : Exit → Act → World → Prop} {a : Act} {w : World} (J : List Bool → Act → World → Prop)
    (hm : P.follows .mixedOrders = true) (hb : backB ops.toArray = true) (hlen : ∀ l a w, J l a w → l.length = ops.length)
    (h0 : J (List.replicate ops.length false) a w.drew)
    (hd : ∀ l a w, J l a w → (∀ i, i < ops.length → l.getD i true = true) → Q .normal a w)
    (hs : ∀ i l a w, i < ops.length → l.getD i true = false → (∀ o, ops[i]? = some o → ∀ e ∈ o.after, Region.binds .any e = true → l.getD e.on false = true) → J l a w → wpOp P ops.toArray Q i (J (l.set i true)) a w) :
    (Code.region id ops.toArray true).wp P Q a w := by
  refine wp_region_any hm ?_
  have e : Array.replicate ops.toArray.size false = (List.replicate ops.length false).toArray := by simp
  rw [e]
  refine wpAny_inv J (fun l a w hJ hr => hd l a w hJ fun i hi => ready_nil hb (by rw [hlen l a w hJ]; simp) hr i (by simpa using hi)) (fun i l a w hi hJ => ?_) _ _ _ _ ?_ h0
  · obtain ⟨hj, o, ho, hall⟩ := mem_ready.1 hi
    have hi' : i < ops.length := by have := (Array.getElem?_eq_some_iff.1 ho).1; simpa using this
    refine hs i l a w hi' (by simpa using hj) (fun o' ho' e he hbd => ?_) hJ
    have : o' = o := by
      have h1 : ops.toArray[i]? = some o' := by simpa using ho'
      rw [h1] at ho
      exact Option.some.inj ho
    subst this
    simpa using hall e he hbd
  · simp
/-! the slots that a region fills, in whatever order -/
def look (a0 : Act) (ds : List (Option Nat)) (l : List Bool) (f : Nat → Value) (s : Nat) : Value :=
  match ds.idxOf? (some s) with
  | some i => if l.getD i false = true then f i else a0.tmps.getD s undef
  | none => a0.tmps.getD s undef
structure Sl (a0 : Act) (ds : List (Option Nat)) (l : List Bool) (f : Nat → Value) (a : Act) : Prop where
  len : l.length = ds.length
  def_ : a.defers = a0.defers
  size : a.tmps.size = a0.tmps.size
  at_ : ∀ s, a.tmps.getD s undef = look a0 ds l f s
def upd (f : Nat → Value) (i : Nat) (v : Value) : Nat → Value := fun j => if j = i then v else f j
theorem upd_same (f : Nat → Value) (i : Nat) (v : Value) : upd f i v i = v := if_pos rfl
theorem upd_ne (f : Nat → Value) {i j : Nat} (v : Value) (h : j ≠ i) : upd f i v j = f j := if_neg h
theorem idxOf_at {ds : List (Option Nat)} {s j : Nat} (h : ds.idxOf? (some s) = some j) : ds[j]? = some (some s) := by
  rw [List.idxOf?, List.findIdx?_eq_some_iff_getElem] at h
  obtain ⟨hj, hb, _⟩ := h
  rw [List.getElem?_eq_getElem hj]
  simpa using hb
theorem getD_put {ts : Array Value} {d s : Nat} {v : Value} (hd : d < ts.size) : (ts.setIfInBounds d v).getD s undef = if s = d then v else ts.getD s undef := by
  by_cases h : s = d
  · subst h; rw [if_pos rfl]; simp [hd]
  · rw [if_neg h]
    simp [Array.getElem?_setIfInBounds_ne (Ne.symm h)]
theorem Sl.start (a0 : Act) (ds : List (Option Nat)) (f : Nat → Value) : Sl a0 ds (List.replicate ds.length false) f a0 :=
  ⟨by simp, rfl, rfl, fun s => by
    unfold look
    split
    · rename_i i hi
      rw [if_neg]
      intro h
      rcases Nat.lt_or_ge i ds.length with g | g
      · simp [List.getD, g] at h
      · simp [List.getD, Nat.not_lt.2 g] at h
    · rfl⟩
theorem Sl.put {a0 a : Act} {ds : List (Option Nat)} {l : List Bool} {f : Nat → Value} (h : Sl a0 ds l f a) {i d : Nat} (hi : ds.idxOf? (some d) = some i) (hd : d < a0.tmps.size) (v : Value) : Sl a0 ds (l.set i true) (upd f i v) (a.put (some d) v) := by
  have hat := idxOf_at hi
  have hil : i < l.length := by rw [h.len]; exact (List.getElem?_eq_some_iff.1 hat).1
  refine ⟨by simp [h.len], h.def_, by simp [Act.put, h.size], fun s => ?_⟩
  show (a.tmps.setIfInBounds d v).getD s undef = _
  rw [getD_put (by rw [h.size]; exact hd)]
  unfold look
  by_cases hs : s = d
  · subst hs
    rw [if_pos rfl, hi]
    simp only
    rw [if_pos (by simp [List.getD, hil]), upd_same]
  · rw [if_neg hs, h.at_ s]
    unfold look
    split
    · rename_i j hj
      have hji : j ≠ i := by
        rintro rfl
        have := idxOf_at hj
        rw [hat] at this
        exact hs (by injection this with g; injection g with g; exact g.symm)
      rw [upd_ne _ _ hji, show (l.set i true).getD j false = l.getD j false by simp [List.getD, List.getElem?_set_ne (Ne.symm hji)]]
    · rfl
theorem Sl.skip {a0 a : Act} {ds : List (Option Nat)} {l : List Bool} {f : Nat → Value} (h : Sl a0 ds l f a) {i : Nat} (hi : ds[i]? = some none) (v : Value) : Sl a0 ds (l.set i true) f (a.put none v) := by
  refine ⟨by simp [h.len], h.def_, h.size, fun s => ?_⟩
  show a.tmps.getD s undef = _
  rw [h.at_ s]
  unfold look
  split
  · rename_i j hj
    have hji : j ≠ i := by
      rintro rfl
      have := idxOf_at hj
      rw [hi] at this
      cases this
    rw [show (l.set i true).getD j false = l.getD j false by simp [List.getD, List.getElem?_set_ne (Ne.symm hji)]]
  · rfl
theorem Sl.done {a0 a : Act} {ds : List (Option Nat)} {l : List Bool} {f : Nat → Value} (h : Sl a0 ds l f a) {i d : Nat} (hi : ds.idxOf? (some d) = some i) (hl : l.getD i false = true) : a.eval (.tmp d) = f i := by
  show a.tmps.getD d undef = _
  rw [h.at_ d]; unfold look; rw [hi]; exact if_pos hl
theorem Sl.old {a0 a : Act} {ds : List (Option Nat)} {l : List Bool} {f : Nat → Value} (h : Sl a0 ds l f a) {d : Nat} (hi : ds.idxOf? (some d) = none) : a.eval (.tmp d) = a0.eval (.tmp d) := by
  show a.tmps.getD d undef = _
  rw [h.at_ d]; unfold look; rw [hi]; rfl
def putFrom (a : Act) (f : Nat → Value) : Nat → List (Option Nat) → Act
  | _, [] => a
  | k, d :: ds => putFrom (a.put d (f k)) f (k + 1) ds
def goodB (n : Nat) (ds : List (Option Nat)) : Bool := (List.range ds.length).all fun i => match ds.getD i none with
  | none => true
  | some d => decide (ds.idxOf? (some d) = some i) && decide (d < n)
theorem upd_id (f : Nat → Value) (i : Nat) : upd f i (f i) = f := by
  funext j
  unfold upd
  split
  · rename_i h; rw [h]
  · rfl
theorem putFrom_sl {a0 : Act} {ds : List (Option Nat)} (hg : goodB a0.tmps.size ds = true) {f : Nat → Value} : ∀ (suf : List (Option Nat)) (k : Nat) (l : List Bool) (a : Act), ds.drop k = suf → Sl a0 ds l f a → (∀ i, i < k → l.getD i false = true) →
    ∃ l', Sl a0 ds l' f (putFrom a f k suf) ∧ ∀ i, i < ds.length → l'.getD i false = true
  | [], k, l, a, hd, h, hl => ⟨l, h, fun i hi => hl i (by have := List.drop_eq_nil_iff.1 hd; omega)⟩
  | d :: suf, k, l, a, hd, h, hl => by
    have hk : k < ds.length := by
      rcases Nat.lt_or_ge k ds.length with g | g
      · exact g
      · rw [List.drop_eq_nil_of_le g] at hd; cases hd
    have hdk : ds[k] = d := by
      rw [List.drop_eq_getElem_cons hk] at hd
      injection hd
    have hsuf : ds.drop (k + 1) = suf := by
      rw [List.drop_eq_getElem_cons hk] at hd
      injection hd
    have hg' := List.all_eq_true.1 hg k (by simpa using hk)
    rw [show ds.getD k none = d by simp [List.getD, List.getElem?_eq_getElem hk, hdk]] at hg'
    have hset : ∀ i, i < k + 1 → (l.set k true).getD i false = true := fun i hi => by
      by_cases hik : i = k
      · subst hik
        have : i < l.length := by rw [h.len]; exact hk
        simp [List.getD, this]
      · rw [show (l.set k true).getD i false = l.getD i false by simp [List.getD, List.getElem?_set_ne (Ne.symm hik)]]
        exact hl i (by omega)
    cases d with
    | none =>
      exact putFrom_sl hg suf (k + 1) (l.set k true) (a.put none (f k)) hsuf (h.skip (by rw [List.getElem?_eq_getElem hk, hdk]) (f k)) hset
    | some d =>
      simp only [Bool.and_eq_true, decide_eq_true_eq] at hg'
      have := h.put hg'.1 hg'.2 (f k)
      rw [upd_id] at this
      exact putFrom_sl hg suf (k + 1) (l.set k true) (a.put (some d) (f k)) hsuf this hset
theorem Sl.eq {a0 a a' : Act} {ds : List (Option Nat)} {l l' : List Bool} {f : Nat → Value} (h : Sl a0 ds l f a) (h' : Sl a0 ds l' f a') (hl : ∀ i, i < ds.length → l.getD i false = true) (hl' : ∀ i, i < ds.length → l'.getD i false = true) : a = a' := by
  have ht : a.tmps = a'.tmps := by
    apply Array.ext
    · rw [h.size, h'.size]
    · intro i h1 h2
      have e1 := h.at_ i
      have e2 := h'.at_ i
      have e : look a0 ds l f i = look a0 ds l' f i := by
        unfold look
        split
        · rename_i j hj
          have hj' : j < ds.length := (List.getElem?_eq_some_iff.1 (idxOf_at hj)).1
          rw [hl j hj', hl' j hj']
        · rfl
      rw [e, ← e2] at e1
      simpa [h1, h2] using e1
  cases a; cases a'
  have hdd := h.def_.trans h'.def_.symm
  simp only at ht hdd
  subst ht hdd
  rfl
theorem Sl.final {a0 a : Act} {ds : List (Option Nat)} {l : List Bool} {f : Nat → Value} (h : Sl a0 ds l f a) (hg : goodB a0.tmps.size ds = true) (hl : ∀ i, i < ds.length → l.getD i false = true) : a = putFrom a0 f 0 ds := by
  obtain ⟨l', h', hl'⟩ := putFrom_sl hg ds 0 _ a0 rfl (Sl.start a0 ds f) (fun i hi => absurd hi (by omega))
  exact h.eq h' hl hl'
theorem wp_region_slots {P : Program} {id : Nat} {ops : List Oper} {Q : Exit → Act → World → Prop} {a : Act} {w : World} (ds : List (Option Nat)) (G : List Bool → (Nat → Value) → World → Prop)
    (n : Nat) (hz : a.tmps.size = n) (hm : P.follows .mixedOrders = true) (hb : backB ops.toArray = true) (hn : ds.length = ops.length) (hg : goodB n ds = true)
    (h0 : ∀ f, G (List.replicate ops.length false) f w.drew)
    (hs : (∀ d, d < n → d < a.tmps.size) → ∀ i l f a' w', i < ops.length → l.getD i true = false → (∀ o, ops[i]? = some o → ∀ e ∈ o.after, Region.binds .any e = true → l.getD e.on false = true) → Sl a ds l f a' → G l f w' →
      wpOp P ops.toArray Q i (fun a'' w'' => ∃ f', Sl a ds (l.set i true) f' a'' ∧ G (l.set i true) f' w'') a' w')
    (hd : ∀ l f w', G l f w' → (∀ i, i < ops.length → l.getD i false = true) → Q .normal (putFrom a f 0 ds) w') :
    (Code.region id ops.toArray true).wp P Q a w := by
  refine wp_region_inv (fun l a' w' => ∃ f, Sl a ds l f a' ∧ G l f w') hm hb (fun l a' w' ⟨f, h, _⟩ => h.len.trans hn) ⟨fun _ => undef, by rw [← hn]; exact Sl.start a ds _, h0 _⟩ ?_ ?_
  · rintro l a' w' ⟨f, h, hG⟩ hl
    have hlen := h.len
    have hall : ∀ i, i < ds.length → l.getD i false = true := fun i hi => by
      have := hl i (by omega)
      simpa [List.getD, hlen, hi] using this
    rw [h.final (hz ▸ hg) hall]
    exact hd l f w' hG (fun i hi => hall i (by omega))
  · rintro i l a' w' hi hf hdep ⟨f, h, hG⟩
    exact hs (fun d hd => hz ▸ hd) i l f a' w' hi hf hdep h hG
theorem wpOp_of {P : Program} {ops : List Oper} {Q : Exit → Act → World → Prop} {i : Nat} {o : Oper} {K : Act → World → Prop} {a : Act} {w : World} (ho : ops[i]? = some o) (hgd : o.guard = none) (h : o.wp P a w K Q) : wpOp P ops.toArray Q i K a w := by
  unfold wpOp
  rw [show ops.toArray[i]? = some o by simpa using ho]
  simp only
  rw [if_pos (by simp [Region.wanted, hgd])]
  exact .inl h
end Go.Proofs.Ytjdkgndecnhokaa.Wire
