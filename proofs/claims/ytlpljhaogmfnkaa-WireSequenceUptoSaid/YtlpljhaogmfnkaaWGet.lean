/- Contracts of wire and its reference: the counts, Text. -/
import Derived.Test.YtlpljhaogmfnkaaWRInt
import Derived.Test.YtlpljhaogmfnkaaWPlain2
import Derived.Laws.BytesArg
namespace Go.Proofs.Ytlpljhaogmfnkaa.Wire
open Go.RowKit
set_option linter.unusedVariables false

set_option maxHeartbeats 600000 in
theorem readCount_any (A : Option Addr) (n c : Nat) (xs : List Int) (m : Int) (w : World) (B : Nat) (hS : Sh w B .u8 A n xs) (hb : byts xs) (hc : n ≤ c) (hm : n ≤ 140737488355328) :
    Calls Try.prog 29 #[.slice A n c, .int .i64 m] w fun e w' => e = .returned (.tuple #[.int .i64 (cn xs m), .int .i64 (cu xs m), .int .i64 (ce xs m)]) ∧ w = w' := by
  have c1 := hid (fun w hS => Int_any A n c xs w B hS hb hc hm)
  have hd := dec_b hb
  rcases cnt_cases xs m with ⟨h, e⟩ | ⟨h, h1, e⟩ | ⟨h, h1, h2, e⟩ | ⟨h, h1, h2, e⟩
  all_goals
    have fin := hid (c3 e)
    clear e
    generalize dn xs = N at *
    generalize du xs = U at *
    generalize de xs = E at *
    have hd := hid hd
    try subst h
  · have t : (E == 0) = false := by simpa using h
    clear h
    go_enter Try.func29, Try.ntmps29
    go_wp2_with fail
    refine (c1.out _ hS).mono ?_
    rintro e w' ⟨rfl, rfl⟩
    go_wp2_with fail
    go_ret3
    exact ⟨ret3 fin.out.1 fin.out.2.1 fin.out.2.2, rfl⟩
  · go_enter Try.func29, Try.ntmps29
    go_wp2_with fail
    refine (c1.out _ hS).mono ?_
    rintro e w' ⟨rfl, rfl⟩
    go_wp2_with fail
    go_ret3
    exact ⟨ret3 fin.out.1 fin.out.2.1 fin.out.2.2, rfl⟩
  · by_cases hm0 : m < 0
    all_goals
      have h3 : m < N := by omega
      have h4 : 0 < N := by omega
      clear h2
      go_enter Try.func29, Try.ntmps29
      go_wp2_with fail
      refine (c1.out _ hS).mono ?_
      rintro e w' ⟨rfl, rfl⟩
      go_wp2_with fail
      go_ret3
      exact ⟨ret3 fin.out.1 fin.out.2.1 fin.out.2.2, rfl⟩
  · by_cases hm0 : m < 0
    · have h3 : N ≤ 0 := by omega
      clear h2
      go_enter Try.func29, Try.ntmps29
      go_wp2_with fail
      refine (c1.out _ hS).mono ?_
      rintro e w' ⟨rfl, rfl⟩
      go_wp2_with fail
      go_ret3
      exact ⟨ret3 fin.out.1 fin.out.2.1 fin.out.2.2, rfl⟩
    · have h3 : N ≤ m := by omega
      have h4 : 0 ≤ m := by omega
      clear h2 hm0
      go_enter Try.func29, Try.ntmps29
      go_wp2_with fail
      refine (c1.out _ hS).mono ?_
      rintro e w' ⟨rfl, rfl⟩
      go_wp2_with fail
      go_ret3
      exact ⟨ret3 fin.out.1 fin.out.2.1 fin.out.2.2, rfl⟩
set_option maxHeartbeats 600000 in
theorem length_any (A : Option Addr) (n c : Nat) (xs : List Int) (m : Int) (w : World) (B : Nat) (hS : Sh w B .u8 A n xs) (hb : byts xs) (hc : n ≤ c) (hm : n ≤ 140737488355328) :
    Calls Try.prog 30 #[.slice A n c, .int .i64 m] w fun e w' => e = .returned (.tuple #[.int .i64 (cn xs m), .int .i64 (cu xs m), .int .i64 (ce xs m)]) ∧ w = w' := by
  have c1 := hid (fun w hS => RInt_any A n c xs w B hS hb hc hm)
  have hd := dec_b hb
  rcases cnt_cases xs m with ⟨h, e⟩ | ⟨h, h1, e⟩ | ⟨h, h1, h2, e⟩ | ⟨h, h1, h2, e⟩
  all_goals
    have fin := hid (c3 e)
    clear e
    generalize dn xs = N at *
    generalize du xs = U at *
    generalize de xs = E at *
    have hd := hid hd
    try subst h
  · have t : (E == 0) = false := by simpa using h
    clear h
    go_enter Try.func30, Try.ntmps30
    go_wp2_with fail
    refine (c1.out _ hS).mono ?_
    rintro e w' ⟨rfl, rfl⟩
    go_wp2_with fail
    go_ret3
    exact ⟨ret3 fin.out.1 fin.out.2.1 fin.out.2.2, rfl⟩
  · go_enter Try.func30, Try.ntmps30
    go_wp2_with fail
    refine (c1.out _ hS).mono ?_
    rintro e w' ⟨rfl, rfl⟩
    go_wp2_with fail
    go_ret3
    exact ⟨ret3 fin.out.1 fin.out.2.1 fin.out.2.2, rfl⟩
  · by_cases hm0 : m < 0
    all_goals
      have h3 : m < N := by omega
      have h4 : 0 < N := by omega
      clear h2
      go_enter Try.func30, Try.ntmps30
      go_wp2_with fail
      refine (c1.out _ hS).mono ?_
      rintro e w' ⟨rfl, rfl⟩
      go_wp2_with fail
      go_ret3
      exact ⟨ret3 fin.out.1 fin.out.2.1 fin.out.2.2, rfl⟩
  · by_cases hm0 : m < 0
    · have h3 : N ≤ 0 := by omega
      clear h2
      go_enter Try.func30, Try.ntmps30
      go_wp2_with fail
      refine (c1.out _ hS).mono ?_
      rintro e w' ⟨rfl, rfl⟩
      go_wp2_with fail
      go_ret3
      exact ⟨ret3 fin.out.1 fin.out.2.1 fin.out.2.2, rfl⟩
    · have h3 : N ≤ m := by omega
      have h4 : 0 ≤ m := by omega
      clear h2 hm0
      go_enter Try.func30, Try.ntmps30
      go_wp2_with fail
      refine (c1.out _ hS).mono ?_
      rintro e w' ⟨rfl, rfl⟩
      go_wp2_with fail
      go_ret3
      exact ⟨ret3 fin.out.1 fin.out.2.1 fin.out.2.2, rfl⟩
theorem retT {s s' : ByteArray} {b c b' c' : Int} (h1 : s = s') (h2 : b = b') (h3 : c = c') : Ending.returned (.tuple #[.string s, .int .i64 b, .int .i64 c]) = .returned (.tuple #[.string s', .int .i64 b', .int .i64 c']) := by rw [h1, h2, h3]
theorem str_nil : (⟨#[]⟩ : ByteArray) = strOfNums [] := rfl

theorem conv_empty (w : World) (A : Option Addr) (c : Nat) : (convert 22 9 (.slice A 0 c)).run Try.prog w = .ok (.string ⟨#[]⟩) w := by
  rcases A with _ | a
  · exact run_convert_bytes_nil w 22 5 Try.underlying22 Try.underlying5 0 c 9 Try.underlying9
  · rw [run_convert_bytes_string w 22 9 5 _ 0 c Try.underlying22 Try.underlying5 Try.underlying9,
      run_bytesToString w a 0 c [] (run_loadCells_list (P := Try.prog) w a [] (fun j v hj => by simp at hj))]
    rfl

set_option maxHeartbeats 600000 in
theorem Text_any (A : Option Addr) (n c : Nat) (xs : List Int) (m : Int) (w : World) (B : Nat) (hS : Sh w B .u8 A n xs) (hb : byts xs) (hc : n ≤ c) (hm : n ≤ 140737488355328) :
    Calls Try.prog 17 #[.slice A n c, .int .i64 m] w fun e w' => e = .returned (.tuple #[.string (strOfNums (ts xs m)), .int .i64 (tu xs m), .int .i64 (te xs m)]) ∧ w = w' := by
  have c1 := hid (fun w hS => readCount_any A n c xs m w B hS hb hc hm)
  have hd := cnt_b hb m
  have hl := hS.len
  rcases tex_cases xs m with ⟨h, e⟩ | ⟨h, h1, e⟩ | ⟨h, h1, e⟩
  all_goals
    have fin := hid (t3 e)
    clear e
    generalize cn xs m = N at *
    generalize cu xs m = U at *
    generalize ce xs m = E at *
    try subst h
  · have t : (E == 0) = false := by simpa using h
    have HD := hid hd
    clear h hd
    go_enter Try.func17, Try.ntmps17
    go_wp2_with fail
    refine (c1.out _ hS).mono ?_
    rintro e w' ⟨rfl, rfl⟩
    go_wp2_with fail
    go_ret3
    exact ⟨retT (by rw [← fin.out.1]; rfl) fin.out.2.1 fin.out.2.2, rfl⟩
  · obtain ⟨q0, q1, q2, q3, q4, _⟩ := hd
    have h2 : (n : Int) - U < N := by omega
    clear h1 hl
    go_enter Try.func17, Try.ntmps17
    go_wp2_with fail
    refine (c1.out _ hS).mono ?_
    rintro e w' ⟨rfl, rfl⟩
    go_wp2_with fail
    go_ret3
    exact ⟨retT (by rw [← fin.out.1]; rfl) fin.out.2.1 fin.out.2.2, rfl⟩
  · obtain ⟨q0, q1, q2, q3, q4, _, _, q5, _⟩ := hd
    have h2 : N ≤ (n : Int) - U := by omega
    have q6 := q5 rfl
    obtain ⟨u, rfl⟩ := Int.eq_ofNat_of_zero_le q2
    obtain ⟨k, rfl⟩ := Int.eq_ofNat_of_zero_le q0
    have h3 : u + k ≤ n := by omega
    obtain ⟨bb, oo, rfl, hbb, hcell⟩ := hS.2 (by omega)
    by_cases hk0 : k = 0
    · subst hk0
      have hcv := conv_empty w
      clear hcell h1 hl q5
      go_enter Try.func17, Try.ntmps17
      go_wp2_with fail
      refine (c1.out _ hS).mono ?_
      rintro e w' ⟨rfl, rfl⟩
      go_wp2_with fail
      go_ret3
      exact ⟨retT (by rw [← fin.out.1]; rfl) (by rw [← fin.out.2.1]; omega) fin.out.2.2, rfl⟩
    · have hk1 : 0 < k := by omega
      have hcv := run_convert_bytes_arg (P := Try.prog) w 22 5 Try.underlying22 Try.underlying5 bb (oo + u) k k ((xs.drop u).take k) (by rw [List.length_take, List.length_drop]; omega)
        (fun i hi => by
          rw [Nat.add_assoc, hcell (u + i) (by omega), take_get hi]
          simp [List.getD]) 9 Try.underlying9
      clear hcell h1 hl q5 hk0
      go_enter Try.func17, Try.ntmps17
      go_wp2_with fail
      refine (c1.out _ hS).mono ?_
      rintro e w' ⟨rfl, rfl⟩
      go_wp2_with fail
      go_ret3
      exact ⟨retT (by rw [← fin.out.1]; rfl) fin.out.2.1 fin.out.2.2, rfl⟩

set_option maxHeartbeats 600000 in
theorem RText_any (A : Option Addr) (n c : Nat) (xs : List Int) (m : Int) (w : World) (B : Nat) (hS : Sh w B .u8 A n xs) (hb : byts xs) (hc : n ≤ c) (hm : n ≤ 140737488355328) :
    Calls Try.prog 18 #[.slice A n c, .int .i64 m] w fun e w' => e = .returned (.tuple #[.string (strOfNums (ts xs m)), .int .i64 (tu xs m), .int .i64 (te xs m)]) ∧ w = w' := by
  have c1 := hid (fun w hS => length_any A n c xs m w B hS hb hc hm)
  have hd := cnt_b hb m
  have hl := hS.len
  rcases tex_cases xs m with ⟨h, e⟩ | ⟨h, h1, e⟩ | ⟨h, h1, e⟩
  all_goals
    have fin := hid (t3 e)
    clear e
    generalize cn xs m = N at *
    generalize cu xs m = U at *
    generalize ce xs m = E at *
    try subst h
  · have t : (E == 0) = false := by simpa using h
    have HD := hid hd
    clear h hd
    go_enter Try.func18, Try.ntmps18
    go_wp2_with fail
    refine (c1.out _ hS).mono ?_
    rintro e w' ⟨rfl, rfl⟩
    go_wp2_with fail
    go_ret3
    exact ⟨retT (by rw [← fin.out.1]; rfl) fin.out.2.1 fin.out.2.2, rfl⟩
  · obtain ⟨q0, q1, q2, q3, q4, _⟩ := hd
    have h2 : (n : Int) - U < N := by omega
    clear h1 hl
    go_enter Try.func18, Try.ntmps18
    go_wp2_with fail
    refine (c1.out _ hS).mono ?_
    rintro e w' ⟨rfl, rfl⟩
    go_wp2_with fail
    go_ret3
    exact ⟨retT (by rw [← fin.out.1]; rfl) fin.out.2.1 fin.out.2.2, rfl⟩
  · obtain ⟨q0, q1, q2, q3, q4, _, _, q5, _⟩ := hd
    have h2 : N ≤ (n : Int) - U := by omega
    have q6 := q5 rfl
    obtain ⟨u, rfl⟩ := Int.eq_ofNat_of_zero_le q2
    obtain ⟨k, rfl⟩ := Int.eq_ofNat_of_zero_le q0
    have h3 : u + k ≤ n := by omega
    obtain ⟨bb, oo, rfl, hbb, hcell⟩ := hS.2 (by omega)
    by_cases hk0 : k = 0
    · subst hk0
      have hcv := conv_empty w
      clear hcell h1 hl q5
      go_enter Try.func18, Try.ntmps18
      go_wp2_with fail
      refine (c1.out _ hS).mono ?_
      rintro e w' ⟨rfl, rfl⟩
      go_wp2_with fail
      all_goals go_ret3
      all_goals exact ⟨retT (by rw [← fin.out.1]; rfl) (by rw [← fin.out.2.1]; omega) fin.out.2.2, rfl⟩
    · have hk1 : 0 < k := by omega
      have hcv := run_convert_bytes_arg (P := Try.prog) w 22 5 Try.underlying22 Try.underlying5 bb (oo + u) k (c - u) ((xs.drop u).take k) (by rw [List.length_take, List.length_drop]; omega)
        (fun i hi => by
          rw [Nat.add_assoc, hcell (u + i) (by omega), take_get hi]
          simp [List.getD]) 9 Try.underlying9
      clear hcell h1 hl q5 hk0
      go_enter Try.func18, Try.ntmps18
      go_wp2_with fail
      refine (c1.out _ hS).mono ?_
      rintro e w' ⟨rfl, rfl⟩
      go_wp2_with fail
      go_ret3
      exact ⟨retT (by rw [← fin.out.1]; rfl) fin.out.2.1 fin.out.2.2, rfl⟩

end Go.Proofs.Ytlpljhaogmfnkaa.Wire
