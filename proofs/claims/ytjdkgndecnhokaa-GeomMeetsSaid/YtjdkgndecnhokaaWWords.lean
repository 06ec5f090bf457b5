/- Words for lists of integers in memory: what a slice shows, what the call owns, append onto a slice without spare room or of the call's own. -/
import Derived.Test.YtjdkgndecnhokaaRows
import Derived.WalkKit
import Derived.WalkSpells
import Derived.WalkLawsBesides
import Derived.Deep.QuietTactic
import Derived.BigQuiet
import Derived.ArgAppend
import Derived.Lib.AppendStr
import Derived.Laws.BytesArg
import Derived.Laws.OwnMore
namespace Go.Proofs.Ytjdkgndecnhokaa.Wire
open Go.RowKit

theorem hid {p : Prop} (h : p) : Hid p := h

def iv (k : IntKind) (xs : List Int) : List Value := xs.map (Value.int k)
theorem iv_len (k : IntKind) (xs : List Int) : (iv k xs).length = xs.length := by simp [iv]
theorem iv_app (k : IntKind) (xs ys : List Int) : iv k (xs ++ ys) = iv k xs ++ iv k ys := by simp [iv]
theorem iv_at {k : IntKind} {xs : List Int} {i : Nat} (h : i < xs.length) : (iv k xs)[i]? = some (.int k (xs.getD i 0)) := by
  simp [iv, List.getD, List.getElem?_eq_getElem h]
theorem iv_get {k : IntKind} {xs : List Int} {i : Nat} {u : Value} (h : (iv k xs)[i]? = some u) : i < xs.length ∧ u = .int k (xs.getD i 0) := by
  have hl : i < xs.length := by
    rcases Nat.lt_or_ge i xs.length with g | g
    · exact g
    · rw [List.getElem?_eq_none (by rw [iv_len]; exact g)] at h; cases h
  rw [iv_at hl] at h
  exact ⟨hl, (Option.some.inj h).symm⟩
theorem iv_one (k : IntKind) (xs : List Int) : ∀ u ∈ iv k xs, u.oneCell' = true := by
  intro u hu
  obtain ⟨n, _, rfl⟩ := List.mem_map.1 hu
  rfl

/-- the slice (A, n) shows the numbers xs, in blocks below B -/
def Sh (w : World) (B : Nat) (k : IntKind) (A : Option Addr) (n : Nat) (xs : List Int) : Prop :=
  xs.length = n ∧ (0 < n → ∃ b o, A = some ⟨b, o, none⟩ ∧ b < B ∧ ∀ i, i < n → w.cell? ⟨b, o + i, none⟩ = some (.int k (xs.getD i 0)))
/-- the slice is the call's own -/
def Ow (w : World) (B : Nat) (e : TypeId) (k : IntKind) (A : Option Addr) (n c : Nat) (xs : List Int) : Prop := w.ownsRow B e 1 (.slice A n c) n (iv k xs)
/-- the slice is the call's own, or has no spare room -/
def Tip (w : World) (B : Nat) (e : TypeId) (k : IntKind) (A : Option Addr) (n c : Nat) (xs : List Int) : Prop :=
  Ow w B e k A n c xs ∨ (c = n ∧ Sh w B k A n xs)
/-- the type t is a list of numbers of kind k -/
def El (P : Program) (t e : TypeId) (k : IntKind) (bytes : Nat) : Prop :=
  P.underlying t = some (.slice e) ∧ ∃ i, P.info? e = some i ∧ i.zero = some (.int k 0) ∧ i.size = 1 ∧ i.bytes = bytes

section
variable {w w' : World} {B B' n c : Nat} {k : IntKind} {A : Option Addr} {xs : List Int} {e : TypeId}
theorem Sh.len (h : Sh w B k A n xs) : xs.length = n := h.1
theorem Sh.nil (w : World) (B : Nat) (k : IntKind) (A : Option Addr) : Sh w B k A 0 [] := ⟨rfl, fun h => absurd h (by omega)⟩
theorem Sh.keep (h : Sh w B k A n xs) (hk : ∀ p : Addr, p.block < B → w'.cell? p = w.cell? p) : Sh w' B k A n xs :=
  ⟨h.1, fun hn => by
    obtain ⟨b, o, e, hb, hc⟩ := h.2 hn
    exact ⟨b, o, e, hb, fun i hi => (hk _ hb).trans (hc i hi)⟩⟩
theorem Sh.below (h : Sh w B k A n xs) (hb : Below B w w') : Sh w' B k A n xs := h.keep fun _ hp => hb.cell hp
theorem Sh.more (h : Sh w B k A n xs) (hB : B ≤ B') : Sh w B' k A n xs :=
  ⟨h.1, fun hn => by
    obtain ⟨b, o, e, hb, hc⟩ := h.2 hn
    exact ⟨b, o, e, by omega, hc⟩⟩
theorem Sh.drewN (h : Sh w B k A n xs) (m : Nat) : Sh (w.drewN m) B k A n xs := h
theorem Sh.alloc (h : Sh w B k A n xs) (hB : B ≤ w.heap.size) (o : Obj) : Sh (w.alloc o) B k A n xs := h.keep fun p hp => World.cell?_alloc_lt w o p (by omega)
theorem Sh.take {m : Nat} (h : Sh w B k A n xs) (hm : m ≤ n) : Sh w B k A m (xs.take m) :=
  ⟨by rw [List.length_take, h.1]; omega, fun hn => by
    obtain ⟨b, o, e, hb, hc⟩ := h.2 (by omega)
    refine ⟨b, o, e, hb, fun i hi => ?_⟩
    rw [hc i (by omega)]
    simp [List.getD, List.getElem?_take_of_lt hi]⟩
theorem add_lit' (b o j : Nat) : (⟨b, o, none⟩ : Addr).add j = ⟨b, o + j, none⟩ := by unfold Addr.add; split <;> simp_all
theorem Sh.drop {m : Nat} (h : Sh w B k A n xs) (hm : m ≤ n) {A' : Option Addr} (hA : m < n → ∀ b o, A = some ⟨b, o, none⟩ → A' = some ⟨b, o + m, none⟩) : Sh w B k A' (n - m) (xs.drop m) :=
  ⟨by rw [List.length_drop, h.1], fun hn => by
    obtain ⟨b, o, e, hb, hc⟩ := h.2 (by omega)
    refine ⟨b, o + m, hA (by omega) b o e, hb, fun i hi => ?_⟩
    rw [Nat.add_assoc, hc (m + i) (by omega)]
    simp [List.getD]⟩
theorem Sh.one (w : World) (k : IntKind) (x : Int) (t : TypeId) : Sh (w.alloc (.cells #[.int k x] t)) (w.heap.size + 1) k (some ⟨w.heap.size, 0, none⟩) 1 [x] :=
  ⟨rfl, fun _ => ⟨_, _, rfl, by omega, fun i hi => by
    obtain rfl : i = 0 := by omega
    simp⟩⟩

theorem Ow.len (h : Ow w B e k A n c xs) : xs.length = n := by have := h.1; rw [iv_len] at this; omega
theorem Ow.sh (h : Ow w B e k A n c xs) : Sh w w.heap.size k A n xs := by
  have hl := h.len
  refine ⟨hl, fun hn => ?_⟩
  rcases h.2 with ⟨_, h0⟩ | ⟨g, cap, cur, hv, hg, hh, _⟩
  · omega
  · injection hv with hA _ hc
    subst hA
    have hgl : g < w.heap.size := by
      rcases Nat.lt_or_ge g w.heap.size with hlt | hge
      · exact hlt
      · rw [Array.getElem?_eq_none hge] at hh; cases hh
    refine ⟨g, 0, rfl, hgl, fun i hi => ?_⟩
    have := h.cells (g := g) rfl i _ (iv_at (by omega))
    rwa [add_lit'] at this
theorem Ow.none_ (w : World) (B : Nat) (e : TypeId) (k : IntKind) : Ow w B e k none 0 0 [] := World.ownsRow_nil _ _ _ _
theorem Ow.new (w : World) (t : TypeId) (k : IntKind) : Ow (w.alloc (.cells #[] t)) w.heap.size t k (some ⟨w.heap.size, 0, none⟩) 0 0 [] :=
  World.ownsRow_made w #[] 0 (Nat.le_refl _) (by decide) rfl
theorem Ow.alloc (h : Ow w B e k A n c xs) (o : Obj) : Ow (w.alloc o) B e k A n c xs := World.ownsRow.alloc h o
theorem Ow.below (h : Ow w B e k A n c xs) (hb : Below w.heap.size w w') : Ow w' B e k A n c xs := by
  refine ⟨h.1, ?_⟩
  rcases h.2 with h0 | ⟨g, cap, cur, hv, hg, hh, hr⟩
  · exact .inl h0
  · refine .inr ⟨g, cap, cur, hv, hg, ?_, hr⟩
    rw [hb.block g ?_, hh]
    rcases Nat.lt_or_ge g w.heap.size with hlt | hge
    · exact hlt
    · rw [Array.getElem?_eq_none hge] at hh; cases hh
theorem Ow.drewN (h : Ow w B e k A n c xs) (m : Nat) : Ow (w.drewN m) B e k A n c xs := h
theorem Ow.less (h : Ow w B e k A n c xs) (hB : B' ≤ B) : Ow w B' e k A n c xs := by
  refine ⟨h.1, ?_⟩
  rcases h.2 with h0 | ⟨g, cap, cur, hv, hg, hr⟩
  · exact .inl h0
  · exact .inr ⟨g, cap, cur, hv, by omega, hr⟩
theorem Tip.len (h : Tip w B e k A n c xs) : xs.length = n := by
  rcases h with h | h
  · exact h.len
  · exact h.2.1
theorem Tip.alloc (h : Tip w B e k A n c xs) (hB : B ≤ w.heap.size) (o : Obj) : Tip (w.alloc o) B e k A n c xs := by
  rcases h with h | h
  · exact .inl (h.alloc o)
  · exact .inr ⟨h.1, h.2.alloc hB o⟩
theorem below_drewN {a : World} (h : Below B a w) (m : Nat) : Below B a (w.drewN m) := ⟨h.os, h.tape, h.output, h.size, h.block⟩
theorem below_own (hg : w.grownBy w' (Value.slice A n c).ownBlock) (h : Ow w B e k A n c xs) (hB : B ≤ w.heap.size) : Below B w w' :=
  (Below.refl B w).grown hg hB fun g hk => by
    rcases h.2 with ⟨hv, _⟩ | ⟨g', cap, cur, hv, hg', _⟩
    · rw [hv] at hk; simp [Value.ownBlock] at hk
    · rw [hv] at hk; simp [Value.ownBlock] at hk; omega
end

theorem own_form {w : World} {B n : Nat} {e : TypeId} {v : Value} {xs : List Value} (h : w.ownsRow B e 1 v n xs) : ∃ A c, v = .slice A n c := by
  rcases h.2 with ⟨rfl, rfl⟩ | ⟨g, cap, cur, rfl, _⟩
  · exact ⟨_, _, rfl⟩
  · exact ⟨_, _, rfl⟩

section
variable {P : Program} (w : World)

theorem run_app_own {t e : TypeId} {k : IntKind} {bytes : Nat} (hE : El P t e k bytes) (ty : TypeId) {B : Nat} {A : Option Addr} {n c : Nat} {xs : List Int} (hown : Ow w B e k A n c xs)
    {B' : Nat} {A' : Option Addr} {m c' : Nat} {ys : List Int} (hr : Sh w B' k A' m ys) (hb : (n + m) * bytes ≤ 140737488355328) (h63 : n + m ≤ 140737488355328) (hB : B ≤ w.heap.size) :
    ∃ A'' c'' w', (Builtin.append_ #[t, t] ty #[.slice A n c, .slice A' m c']).run P w = .ok (.slice A'' (n + m) c'') w' ∧ Ow w' B e k A'' (n + m) c'' (xs ++ ys) ∧ Below B w w' := by
  obtain ⟨ht, i, hi, hz, hs, hby⟩ := hE
  rcases A' with _ | ad
  · have hm : m = 0 := by
      rcases Nat.eq_zero_or_pos m with h0 | h0
      · exact h0
      · obtain ⟨_, _, h, _⟩ := hr.2 h0; cases h
    subst hm
    have hy : ys = [] := List.eq_nil_of_length_eq_zero hr.1
    subst hy
    refine ⟨A, c, w, ?_, by simpa using hown, Below.refl _ _⟩
    rcases hown.2 with ⟨hv, h0⟩ | ⟨g, cap, cur, hv, _, _, hnc, _⟩
    · injection hv with h1 _ h2
      subst h1 h2 h0
      simp [Builtin.append_, run_underlying ht, sizeOf, typeInfo, hi, Builtin.lenOf, Builtin.firstCells]
    · injection hv with h1 _ h2
      subst h1 h2
      simp [Builtin.append_, run_underlying ht, sizeOf, typeInfo, hi, Builtin.lenOf, Builtin.firstCells, hnc, storeCells]
  · have hc : ∀ j u, (iv k ys)[j]? = some u → w.cell? (ad.add j) = some u := by
      intro j u hu
      obtain ⟨hj, rfl⟩ := iv_get hu
      have hl := hr.1
      obtain ⟨b, o, h, _, hc⟩ := hr.2 (by omega)
      injection h with h
      subst h
      rw [add_lit']
      exact hc j (by omega)
    obtain ⟨v', w', hrun, ho, hg, _⟩ := run_append_own (P := P) w B t ty e i (.int k 0) 1 bytes ht hi hz hs hby rfl (by omega) (.slice A n c) n (iv k xs) hown ad m c' (iv k ys) (by rw [iv_len, hr.1]; omega) hc (iv_one _ _)
      (by unfold maxLen; omega) hb hB
    obtain ⟨A'', c'', rfl⟩ := own_form ho
    exact ⟨A'', c'', w', hrun, by unfold Ow; rw [iv_app]; exact ho, below_own hg hown hB⟩

theorem run_app_tip {t e : TypeId} {k : IntKind} {bytes : Nat} (hE : El P t e k bytes) (ty : TypeId) {B : Nat} {A : Option Addr} {n c : Nat} {xs : List Int} (htip : Tip w B e k A n c xs)
    {B' : Nat} {A' : Option Addr} {m c' : Nat} {ys : List Int} (hr : Sh w B' k A' m ys) (hm : 0 < m) (hb : (n + m) * bytes ≤ 140737488355328) (h63 : n + m ≤ 140737488355328) (hB : B ≤ w.heap.size) :
    ∃ A'' c'' w', (Builtin.append_ #[t, t] ty #[.slice A n c, .slice A' m c']).run P w = .ok (.slice A'' (n + m) c'') w' ∧ Ow w' B e k A'' (n + m) c'' (xs ++ ys) ∧ Below B w w' := by
  rcases htip with h | ⟨hcn, hsh⟩
  · exact run_app_own w hE ty h hr hb h63 hB
  subst hcn
  by_cases h0 : c = 0
  · subst h0
    have hx : xs = [] := List.eq_nil_of_length_eq_zero hsh.1
    subst hx
    rcases A with _ | b
    · exact run_app_own w hE ty (Ow.none_ w B e k) hr hb h63 hB
    · obtain ⟨ht, i, hi, hz, hs, hby⟩ := hE
      obtain ⟨b', o', h, _, hc⟩ := hr.2 hm
      subst h
      obtain ⟨v', w', hrun, ho, hg⟩ := run_append_arg_grows (P := P) w t ty e i (.int k 0) 1 bytes ht hi hz hs hby rfl (by omega) b 0 0 [] rfl (by simp) ⟨b', o', none⟩ m c' (iv k ys) (by rw [iv_len, hr.1]; omega)
        (fun j u hu => by
          obtain ⟨hj, rfl⟩ := iv_get hu
          have hl := hr.1
          rw [add_lit']; exact hc j (by omega)) (by omega) (by unfold maxLen; omega) hb
      obtain ⟨A'', c'', rfl⟩ := own_form ho
      exact ⟨A'', c'', w', hrun, (show Ow w' w.heap.size e k A'' (0 + m) c'' ([] ++ ys) by unfold Ow; rw [List.nil_append]; exact ho).less hB, (Below.refl _ _).grown hg hB (fun k hk => by cases hk)⟩
  · obtain ⟨b, o, rfl, hbB, hcell⟩ := hsh.2 (by omega)
    have hl := hsh.1
    obtain ⟨ht, i, hi, hz, hs, hby⟩ := hE
    obtain ⟨b', o', h, _, hc⟩ := hr.2 hm
    subst h
    obtain ⟨v', w', hrun, ho, hg⟩ := run_append_arg_grows (P := P) w t ty e i (.int k 0) 1 bytes ht hi hz hs hby rfl (by omega) ⟨b, o, none⟩ c c (iv k xs) (by rw [iv_len]; omega) (fun j u hu => by
          obtain ⟨hj, rfl⟩ := iv_get hu
          rw [add_lit']; exact hcell j (by omega)) ⟨b', o', none⟩ m c' (iv k ys) (by rw [iv_len, hr.1]; omega)
        (fun j u hu => by
          obtain ⟨hj, rfl⟩ := iv_get hu
          have hl := hr.1
          rw [add_lit']; exact hc j (by omega)) (by omega) (by unfold maxLen; omega) hb
    obtain ⟨A'', c'', rfl⟩ := own_form ho
    exact ⟨A'', c'', w', hrun, (show Ow w' w.heap.size e k A'' (c + m) c'' (xs ++ ys) by unfold Ow; rw [iv_app]; exact ho).less hB, (Below.refl _ _).grown hg hB (fun k hk => by cases hk)⟩

/-- append of the slice x onto the slice s, which is the call's own -/
theorem wpList_app_own {ops : Array Oper} {rest : List Oper} {o : Oper} {a : Act} {Q : Exit → Act → World → Prop} (hgd : o.guard = none) (s x : Operand) (t : TypeId)
    (ho : o.op = .call { callee := .builtin .append, args := #[s, x], argTypes := #[t, t] })
    {e : TypeId} {k : IntKind} {bytes : Nat} (hE : El P t e k bytes) {B : Nat} {A : Option Addr} {n c : Nat} {xs : List Int} (hs : a.eval s = .slice A n c) (hown : Ow w B e k A n c xs)
    {B' : Nat} {A' : Option Addr} {m c' : Nat} {ys : List Int} (hx : a.eval x = .slice A' m c') (hr : Sh w B' k A' m ys) (hb : (n + m) * bytes ≤ 140737488355328) (h63 : n + m ≤ 140737488355328) (hB : B ≤ w.heap.size)
    (h : ∀ A'' c'' w', Ow w' B e k A'' (n + m) c'' (xs ++ ys) → Below B w w' → wpList P ops Q rest (a.put o.dst (.slice A'' (n + m) c'')) w') : wpList P ops Q (o :: rest) a w := by
  obtain ⟨A'', c'', w', hrun, h2, h3⟩ := run_app_own (P := P) w hE o.type hown (c' := c') hr hb h63 hB
  refine wpList_plain hgd fun K hK => ?_
  unfold Oper.wp execOp
  simp only [ho, resolve, invoke, builtin, Sem.run_bind, Sem.run_pure, Result.andThen_ok, List.map_toArray, List.map_cons, List.map_nil, hs, hx, hrun]
  exact hK _ _ (h _ _ _ h2 h3)

/-- append of the slice x, not empty, onto the slice s, which is the call's own or has no spare room -/
theorem wpList_app_tip {ops : Array Oper} {rest : List Oper} {o : Oper} {a : Act} {Q : Exit → Act → World → Prop} (hgd : o.guard = none) (s x : Operand) (t : TypeId)
    (ho : o.op = .call { callee := .builtin .append, args := #[s, x], argTypes := #[t, t] })
    {e : TypeId} {k : IntKind} {bytes : Nat} (hE : El P t e k bytes) {B : Nat} {A : Option Addr} {n c : Nat} {xs : List Int} (hs : a.eval s = .slice A n c) (htip : Tip w B e k A n c xs)
    {B' : Nat} {A' : Option Addr} {m c' : Nat} {ys : List Int} (hx : a.eval x = .slice A' m c') (hr : Sh w B' k A' m ys) (hm : 0 < m) (hb : (n + m) * bytes ≤ 140737488355328) (h63 : n + m ≤ 140737488355328) (hB : B ≤ w.heap.size)
    (h : ∀ A'' c'' w', Ow w' B e k A'' (n + m) c'' (xs ++ ys) → Below B w w' → wpList P ops Q rest (a.put o.dst (.slice A'' (n + m) c'')) w') : wpList P ops Q (o :: rest) a w := by
  obtain ⟨A'', c'', w', hrun, h2, h3⟩ := run_app_tip (P := P) w hE o.type htip (c' := c') hr hm hb h63 hB
  refine wpList_plain hgd fun K hK => ?_
  unfold Oper.wp execOp
  simp only [ho, resolve, invoke, builtin, Sem.run_bind, Sem.run_pure, Result.andThen_ok, List.map_toArray, List.map_cons, List.map_nil, hs, hx, hrun]
  exact hK _ _ (h _ _ _ h2 h3)

/-- a string's bytes -/
def sb (s : ByteArray) : List Int := s.data.toList.map fun b => (b.toNat : Int)
theorem sb_len (s : ByteArray) : (sb s).length = s.size := by simp [sb]
theorem iv_sb (s : ByteArray) : iv .u8 (sb s) = Lib.strCells s := by
  unfold iv sb Lib.strCells
  rw [List.map_map]; rfl

/-- append of the string x onto the slice of bytes s, which is the call's own -/
theorem wpList_app_str {ops : Array Oper} {rest : List Oper} {o : Oper} {a : Act} {Q : Exit → Act → World → Prop} (hgd : o.guard = none) (s x : Operand) (t u : TypeId)
    (ho : o.op = .call { callee := .builtin .append, args := #[s, x], argTypes := #[t, u] }) (hu : P.underlying u = some .string)
    {e : TypeId} (hE : El P t e .u8 1) {B : Nat} {A : Option Addr} {n c : Nat} {xs : List Int} (hs : a.eval s = .slice A n c) (hown : Ow w B e .u8 A n c xs)
    {str : ByteArray} (hx : a.eval x = .string str) (hb : n + str.size ≤ 140737488355328) (hB : B ≤ w.heap.size)
    (h : ∀ A'' c'' w', Ow w' B e .u8 A'' (n + str.size) c'' (xs ++ sb str) → Below B w w' → wpList P ops Q rest (a.put o.dst (.slice A'' (n + str.size) c'')) w') : wpList P ops Q (o :: rest) a w := by
  obtain ⟨ht, i, hi, hz, hsz, hby⟩ := hE
  refine Lib.wpList_append_own_string (P := P) w hgd s x t u ho B e i ht hu hi hz hsz hby (.slice A n c) n (iv .u8 xs) hs hown str hx (by unfold maxLen; omega) hb hB ?_
  intro v' w' ho' hg _
  obtain ⟨A'', c'', rfl⟩ := own_form ho'
  refine h A'' c'' w' ?_ (below_own hg hown hB)
  unfold Ow
  rw [iv_app, iv_sb]
  exact ho'
end

end Go.Proofs.Ytjdkgndecnhokaa.Wire
