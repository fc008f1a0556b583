/- A nil writer and a nil reader. -/
import Derived.Test.YthfonmceggmjgaaPackPart
namespace Go.Proofs.Ythfonmceggmjgaa
open Go.RowKit
set_option linter.unusedVariables false

/-- It answers v, and changes nothing of what was there. -/
def Gives (v : Value) (w : World) (e : Ending) (w' : World) : Prop := e = .returned v ∧ Below w.heap.size w w'

theorem addNil (b : Option Addr) (m c : Nat) (w : World) : Calls Try.prog 35 #[.pointer none, .slice b m c] w fun e w' => e = .returned (.pointer none) ∧ w = w' := by
  go_enter Try.func35, Try.ntmps35
  go_wp2
  go_ret
  exact ⟨rfl, rfl⟩

theorem wNumNil (N : Nat) (w : World) (h : N ≤ 18446744073709551615) : Calls Try.prog 23 #[.pointer none, .int .u64 (N : Int)] w (Gives (.pointer none) w) := by
  have H3 := fun w => putO [] (short N) 0 (short N).length none 0 N w rfl rfl rfl (Reads.nil _ _) (fun _ => rfl) (by omega) h
  generalize ([] ++ short N : List Int) = sh at *
  generalize (short N).length = L at *
  go_enter Try.func23, Try.ntmps23
  go_wp2_with (first
    | (go_at_call 36; (with_reducible refine (H3 _).mono ?_); rintro e w1 ⟨a1, c1, rfl, ho1, hb1⟩)
    | (go_at_call 35; (with_reducible refine (addNil _ _ _ _).mono ?_); rintro e w2 ⟨rfl, rfl⟩))
  go_ret
  exact ⟨rfl, hb1⟩

theorem wIntNil (m : Int) (N : Nat) (w : World) (hN : foldI m = (N : Int)) (h : N ≤ 18446744073709551615) (h0 : -9223372036854775808 ≤ m) (h1 : m ≤ 9223372036854775807) :
    Calls Try.prog 24 #[.pointer none, .int .i64 m] w (Gives (.pointer none) w) := by
  have H3 := fun w => putIntO [] (short N) 0 (short N).length none 0 m N w hN rfl rfl rfl (Reads.nil _ _) (fun _ => rfl) (by omega) h h0 h1
  generalize ([] ++ short N : List Int) = sh at *
  generalize (short N).length = L at *
  clear hN
  go_enter Try.func24, Try.ntmps24
  go_wp2_with (first
    | (go_at_call 37; (with_reducible refine (H3 _).mono ?_); rintro e w1 ⟨a1, c1, rfl, ho1, hb1⟩)
    | (go_at_call 35; (with_reducible refine (addNil _ _ _ _).mono ?_); rintro e w2 ⟨rfl, rfl⟩))
  go_ret
  exact ⟨rfl, hb1⟩

set_option maxRecDepth 100000 in
theorem wTextNil (s : ByteArray) (w : World) (h : s.size ≤ 1000000000) : Calls Try.prog 25 #[.pointer none, .string s] w (Gives (.pointer none) w) := by
  have kc := fun (w : World) (s : ByteArray) => Lib.run_convert_string_bytes (P := Try.prog) w 9 26 5 s Try.underlying9 Try.underlying26 Try.underlying5
  have HN := fun w => wNumNil s.size w (by omega)
  have hB := fun w => bytesWorld_below w 5 s
  have hs1 : (s.size : Int) ≤ 1000000000 := by omega
  go_enter Try.func25, Try.ntmps25
  go_wp2_with (first
    | (go_at_call 23; (with_reducible refine (HN _).mono ?_); rintro e w1 ⟨rfl, hb1⟩)
    | (go_at_call 35; (with_reducible refine (addNil _ _ _ _).mono ?_); rintro e w2 ⟨rfl, rfl⟩))
  go_ret
  exact ⟨rfl, hb1.trans ((hB w1).mono hb1.size)⟩

set_option maxRecDepth 100000 in
theorem wFlagsNil (f : List Bool) (n m c : Nat) (b : Option Addr) (w : World) (hr : Reads w b (f.map Value.bool)) (hf : f.length = n) (hc : n ≤ c) (hcm : c ≤ maxLen) (hm : min n 8 = m) :
    Calls Try.prog 26 #[.pointer none, .slice b n c] w (Gives (.pointer none) w) := by
  have hl8 := flagSum_take_lt f 8
  have hfe : f.take 8 = f.take m := by
    by_cases c8 : n ≤ 8
    · rw [List.take_of_length_le (by omega), List.take_of_length_le (by omega)]
    · rw [show m = 8 by omega]
  rw [hfe] at hl8
  have HF := Lib.hid hf
  unfold maxLen at hcm
  clear hf hfe
  by_cases c8 : n ≤ 8
  all_goals
    have hm2 : (n ≤ 8 ∧ m = n) ∨ (8 < n ∧ m = 8) := by omega
    clear hm
    first
      | (have d8 : (n : Int) ≤ 8 := by omega)
      | (have d8 : (8 : Int) < (n : Int) := by omega; skip)
    go_enter Try.func26, Try.ntmps26
    go_wp2
    go_loopw [5, 14] (fun x i wr => ∃ k : Nat, k ≤ m ∧ i = .int .i64 (k : Int) ∧ x = .int .u8 ((flagSum (f.take k) : Nat) : Int) ∧ wr = w) (fun _ i _ => m - (intOf i).toNat)
    case atStart => exact ⟨0, Nat.zero_le _, rfl, rfl, rfl⟩
    case round =>
      obtain ⟨k, hk, rfl, rfl, hkeep⟩ := hrel
      subst hkeep

      by_cases hlt : k < m
      · obtain ⟨B, off, rfl, c0⟩ := hr k (.bool (f.getD k false)) (by rw [List.getElem?_map, List.getD_eq_getElem?_getD, List.getElem?_eq_getElem (by rw [HF.out]; omega)]; rfl)
        have hX := flagSum_take f k (by rw [HF.out]; omega)
        have hXl := flagSum_take_lt f k
        have hor := orFlag (flagSum (f.take k)) k (by omega) hXl
        generalize f.getD k false = t at c0 hX
        have hk8 : (k : Int) < 8 := by omega
        have hlt' : (k : Int) < (m : Int) := by omega
        have hln : (k : Int) < (n : Int) := by omega
        have E2 : ∀ u : Nat, u ≤ k → True := fun _ _ => trivial
        generalize hx : flagSum (f.take k) = x at hX hXl hor
        generalize hy : flagSum (f.take (k + 1)) = y at hX
        have HX := Lib.hid hX
        have HY := Lib.hid hy
        have HOR := Lib.hid hor
        clear hX hy hx hor hr
        have e2 : ((2 ^ k : Nat) : Int) = (2 : Int) ^ k := by push_cast; rfl
        have hp8 : (2 : Int) ^ k % 256 = (2 : Int) ^ k := by
          have h7 : 2 ^ k ≤ 2 ^ 7 := Nat.pow_le_pow_right (by decide) (by omega)
          rw [← e2]
          omega
        have hor2 := HOR.out
        rw [e2] at hor2
        have HOR2 := Lib.hid hor2
        clear e2 hor2
        cases t
        · go_wp2
          go_roundw
          case rel => exact ⟨k + 1, by omega, by go_num, by rw [HY.out]; have := HX.out; simp at this; rw [this], trivial⟩
          case measure => simp [intOf]; omega
        · go_wp2
          go_roundw
          case rel => exact ⟨k + 1, by omega, by go_num, by rw [HY.out, HOR2.out]; have := HX.out; simp at this; rw [this], trivial⟩
          case measure => simp [intOf]; omega
      · have he : k = m := by omega
        subst he
        first
          | (have hkn : ¬ (k : Int) < (n : Int) := by omega)
          | (have hkn : ¬ (k : Int) < 8 := by omega)
        have hb0 := below_alloc wr (.cells #[.int .u8 ((flagSum (f.take k) : Nat) : Int)] 5)
        go_wp2_with (go_at_call 35; (with_reducible refine (addNil _ _ _ _).mono ?_); rintro e w2 ⟨rfl, rfl⟩)
        go_ret
        exact ⟨rfl, hb0⟩

theorem wBytesNil (w : World) : Calls Try.prog 8 #[.pointer none] w fun e w' => e = .returned (.slice none 0 0) ∧ w = w' := by
  go_enter Try.func8, Try.ntmps8
  go_wp2
  go_ret
  exact ⟨rfl, rfl⟩
theorem rErrNil (w : World) : Calls Try.prog 28 #[.pointer none] w fun e w' => e = .returned (.int .i64 17) ∧ w = w' := by
  go_enter Try.func28, Try.ntmps28
  go_wp2
  go_ret
  exact ⟨rfl, rfl⟩
theorem rLeftNil (w : World) : Calls Try.prog 27 #[.pointer none] w fun e w' => e = .returned (.int .i64 0) ∧ w = w' := by
  go_enter Try.func27, Try.ntmps27
  go_wp2
  go_ret
  exact ⟨rfl, rfl⟩
theorem rFailNil (x : Int) (w : World) : Calls Try.prog 22 #[.pointer none, .int .i64 x] w fun e w' => e = .returned (.tuple #[]) ∧ w = w' := by
  go_enter Try.func22, Try.ntmps22
  go_wp2_with (first
    | (go_at_call 28; (with_reducible refine (rErrNil _).mono ?_); rintro e w' ⟨rfl, rfl⟩))
  all_goals
    go_end0
    exact ⟨rfl, rfl⟩
theorem rNumNil (x : Int) (w : World) : Calls Try.prog 16 #[.pointer none, .int .u64 x] w fun e w' => e = .returned (.int .u64 0) ∧ w = w' := by
  go_enter Try.func16, Try.ntmps16
  go_wp2_with (first
    | (go_at_call 28; (with_reducible refine (rErrNil _).mono ?_); rintro e w' ⟨rfl, rfl⟩))
  all_goals
    go_ret
    exact ⟨rfl, rfl⟩
theorem rIntNil (x : Int) (w : World) : Calls Try.prog 17 #[.pointer none, .int .i64 x] w fun e w' => e = .returned (.int .i64 0) ∧ w = w' := by
  go_enter Try.func17, Try.ntmps17
  go_wp2_with (first
    | (go_at_call 28; (with_reducible refine (rErrNil _).mono ?_); rintro e w' ⟨rfl, rfl⟩))
  all_goals
    go_ret
    exact ⟨rfl, rfl⟩
theorem rTextNil (x : Int) (w : World) : Calls Try.prog 18 #[.pointer none, .int .i64 x] w fun e w' => e = .returned (.string ⟨#[]⟩) ∧ w = w' := by
  go_enter Try.func18, Try.ntmps18
  go_wp2_with (first
    | (go_at_call 28; (with_reducible refine (rErrNil _).mono ?_); rintro e w' ⟨rfl, rfl⟩))
  all_goals
    go_ret
    exact ⟨rfl, rfl⟩
theorem rFlagsNil (x : Int) (w : World) : Calls Try.prog 20 #[.pointer none, .int .i64 x] w fun e w' => e = .returned (.slice none 0 0) ∧ w = w' := by
  go_enter Try.func20, Try.ntmps20
  go_wp2_with (first
    | (go_at_call 28; (with_reducible refine (rErrNil _).mono ?_); rintro e w' ⟨rfl, rfl⟩)
    | (go_at_call 22; (with_reducible refine (rFailNil _ _).mono ?_); rintro e w' ⟨rfl, rfl⟩))
  all_goals
    go_ret
    exact ⟨rfl, rfl⟩
theorem rEndNil (w : World) : Calls Try.prog 21 #[.pointer none] w fun e w' => e = .returned (.int .i64 17) ∧ w = w' := by
  go_enter Try.func21, Try.ntmps21
  go_wp2_with (first
    | (go_at_call 28; (with_reducible refine (rErrNil _).mono ?_); rintro e w' ⟨rfl, rfl⟩))
  all_goals
    go_ret
    exact ⟨rfl, rfl⟩

set_option maxRecDepth 100000 in
theorem putNil (q : Part) (w : World) (hq : q.ok w) (hs : q.S.size ≤ 300) : Calls Try.prog 9 #[.pointer none, .agg q.cells] w (Gives (.tuple #[]) w) := by
  obtain ⟨K, N, S, A, L, C, M, F⟩ := q
  obtain ⟨n1, k0, k1, m0, m1, s1, fl, lc, cm, nil, rd⟩ := hq
  unfold Part.cells
  dsimp only at *
  have hb0 := below_alloc w (.cells #[.int .i64 K, .int .u64 (N : Int), .string S, .slice A L C, .int .i64 M] 34)
  by_cases c1 : K = 1
  · subst c1
    have HN := fun w => wNumNil N w n1
    clear rd
    go_enter Try.func9, Try.ntmps9
    go_wp2_with (go_at_call 23; (with_reducible refine (HN _).mono ?_); rintro e w1 ⟨rfl, hb1⟩)
    go_end0
    exact ⟨rfl, hb0.trans (hb1.mono hb0.size)⟩
  by_cases c2 : K = 2
  · subst c2
    have hi0 := toI64_range N
    have he := toI64_eq N
    obtain ⟨X, hX, hX1⟩ := toI64_fold N
    generalize toI64 N = m at *
    have HN := fun w => wIntNil m X w hX hX1 hi0.1 hi0.2
    clear rd hX
    go_enter Try.func9, Try.ntmps9
    go_wp2_with (go_at_call 24; (with_reducible refine (HN _).mono ?_); rintro e w1 ⟨rfl, hb1⟩)
    go_end0
    exact ⟨rfl, hb0.trans (hb1.mono hb0.size)⟩
  by_cases c3 : K = 3
  · subst c3
    have HN := fun w => wTextNil S w (by omega)
    clear rd
    go_enter Try.func9, Try.ntmps9
    go_wp2_with (go_at_call 25; (with_reducible refine (HN _).mono ?_); rintro e w1 ⟨rfl, hb1⟩)
    go_end0
    exact ⟨rfl, hb0.trans (hb1.mono hb0.size)⟩
  by_cases c4 : K = 4
  · subst c4
    have HN := fun v hr => wFlagsNil F L _ C A v hr fl lc cm rfl
    have rd0 := rd.below' hb0
    clear rd
    go_enter Try.func9, Try.ntmps9
    go_wp2_with (go_at_call 26; (with_reducible refine (HN _ rd0).mono ?_); rintro e w1 ⟨rfl, hb1⟩)
    go_end0
    exact ⟨rfl, hb0.trans (hb1.mono hb0.size)⟩
  clear rd
  go_enter Try.func9, Try.ntmps9
  go_wp2
  go_end0
  exact ⟨rfl, hb0⟩
end Go.Proofs.Ythfonmceggmjgaa
