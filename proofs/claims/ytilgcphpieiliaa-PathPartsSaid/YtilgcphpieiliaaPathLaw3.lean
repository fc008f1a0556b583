/- Layer 11's law on a path's directories, walked. -/
import Derived.Test.YtilgcphpieiliaaPathLaw2
namespace Go.Proofs.Ytilgcphpieiliaa
open Go.RowKit
set_option linter.unusedVariables false

set_option maxHeartbeats 1000000 in
set_option maxRecDepth 100000 in
theorem pathParts_walk (s : ByteArray) (w : World) (hs : s.size ≤ maxLen) :
    Calls Try.prog 6 #[.string s] w fun e w' => e = .returned (.bool true) ∧ Below w.heap.size w w' := by
  obtain ⟨l, rfl⟩ : ∃ l, s = str l := ⟨_, str_of s⟩
  obtain ⟨n, hn⟩ : ∃ n, l.length = n := ⟨_, rfl⟩
  have s1 : (str l).size = n := by rw [str_size, hn]
  rw [s1] at hs
  have HA := fun w => awake11C w
  have hb := Below.refl w.heap.size w
  by_cases h1 : 300 < n
  · have b1 : (300 : Int) < (n : Int) := by omega
    clear hn
    go_enter Try.func6, Try.ntmps6
    go_wp2_with (go_at_call 7; (with_reducible refine (HA _).mono ?_); rintro e ww ⟨rfl, hx⟩; have hb := hb.trans (hx.mono hb.size); clear hx)
    go_ret
    exact ⟨rfl, hb⟩
  have b1 : ¬ (300 : Int) < (n : Int) := by omega
  have HP := fun w => pathPartsC l n w hn (by omega)
  unfold GivesStrs at HP
  have hk := str_toList
  rcases Nat.eq_zero_or_pos n with h0 | h0
  · subst h0
    obtain rfl : l = [] := List.eq_nil_of_length_eq_zero hn
    have e1 : partsP [] = [] := rfl
    rw [e1] at HP
    have e2 : ([] : List (List UInt8)).length = 0 := rfl
    rw [e2] at HP
    clear hn
    go_enter Try.func6, Try.ntmps6
    go_wp2_with (first
      | (go_at_call 13; (with_reducible refine (HP _).mono ?_); rintro e w1 ⟨a1, c1, rfl, ho1, hx⟩; have hb := hb.trans (hx.mono hb.size); clear hx)
      | (go_at_call 7; (with_reducible refine (HA _).mono ?_); rintro e ww ⟨rfl, hx⟩; have hb := hb.trans (hx.mono hb.size); clear hx))
    go_ret
    exact ⟨rfl, hb⟩
  have hbn : (l == []) = false := by
    cases l with
    | nil => simp at hn; omega
    | cons x xs => rfl
  have i0 := fun w => first_str (P := Try.prog) w 9 l Try.underlying9 (by rw [hn]; omega)
  have e0 := first_slash (l := l) (by rw [hn]; omega)
  have hk0 : (0 : Int) < (n : Int) := by omega
  by_cases h47 : l.getD 0 0 = 47
  · rw [decide_eq_true h47] at e0
    have e2 : (((l.getD 0 0).toNat : Int) != 47) = false := by rw [bne, e0]; rfl
    obtain ⟨hP1, hP2⟩ := parts_is h47 (by omega)
    have hfit := fun k => upD_fit h47 (by omega) k
    have hle := fun k => upD_le l k
    have hup : ∀ k, defaultL (upD l k) = upD l (k + 1) := fun k => rfl
    have hu0 : defaultL l = upD l 1 := rfl
    have HD0 := fun w => refDefaultC l n w hn hs
    rw [hu0] at HD0
    have hPl : (partsP l).length ≤ n + 1 := by
      unfold partsP
      rw [if_pos ⟨by omega, h47⟩, hn]
      have : ∀ k l, (partsF k l).length ≤ k + 1 := fun k => by
        induction k with
        | zero => intro l; simp [partsF]
        | succ k ih =>
          intro l
          unfold partsF
          split
          · simp
          · have := ih (defaultL l)
            simp
            omega
      exact this n l
    generalize partsP l = P at *
    obtain ⟨N, hN⟩ : ∃ N, P.length = N := ⟨_, rfl⟩
    rw [hN] at HP hP1 hP2 hPl
    have HPN := Lib.hid hN
    have HN := Lib.hid hn
    have hP2 := Lib.hid hP2
    have hfit := Lib.hid hfit
    have hle := Lib.hid hle
    have hup := Lib.hid hup
    generalize upD l = U at *
    generalize (l.getD 0 0).toNat = x at *
    clear hn hN h47 hu0
    go_enter Try.func6, Try.ntmps6
    go_wp2_with (first
      | (go_at_call 13; (with_reducible refine (HP _).mono ?_); rintro e w1 ⟨a1, c1, rfl, ho1, hx⟩; have hb := hb.trans (hx.mono hb.size); clear hx)
      | (go_at_call 9; (with_reducible refine (HD0 _).mono ?_); rintro e ww ⟨rfl, rfl⟩))
    obtain ⟨g, rfl, -, l1⟩ := ho1.head hP1
    have r1 := ho1.reads
    clear HP HD0 ho1
    go_loopw [4, 5] (fun t i wr => ∃ k : Nat, k ≤ N ∧ t = .string (str (U (k + 1))) ∧ i = .int .i64 (k : Int) ∧ Below w1.heap.size w1 wr) (fun _ i _ => N - (intOf i).toNat)
    case atStart => exact ⟨0, Nat.zero_le _, rfl, rfl, Below.refl _ _⟩
    case round =>
      obtain ⟨k, hkN, rfl, rfl, hbr⟩ := hrel
      have hb2 := hb.trans (hbr.mono hb.size)
      by_cases hlt : k < N
      · have hlt' : (k : Int) < (N : Int) := by omega
        obtain ⟨g', off, hgg, hc⟩ := str_at (r1.below' hbr) k (by rw [HPN.out]; exact hlt)
        simp only [Option.some.injEq, Addr.mk.injEq] at hgg
        obtain ⟨rfl, rfl, -⟩ := hgg
        rw [Nat.zero_add] at hc
        obtain ⟨q1, q2⟩ := hP2.out k hlt
        rw [q1] at hc q2
        have HT : Hid (defaultL (U (k + 1)) = U (k + 1 + 1)) := hup.out (k + 1)
        have hf := hfit.out (k + 1)
        have hl2 : (U (k + 1)).length ≤ 300 := by
          have h2 := hle.out (k + 1)
          have h3 := HN.out
          omega
        have HM := fun w => pathMatchC l (U (k + 1)) n _ w HN.out (by omega) rfl (by omega)
        rw [hf] at HM
        have HD := fun w => refDefaultC (U (k + 1)) _ w rfl (by unfold maxLen; omega)
        rw [HT.out] at HD
        have HBR := Lib.hid hbr
        clear q1 hf hl2 HT
        obtain ⟨b, hb1, hb3⟩ : ∃ b, (U (k + 1) == [47]) = b ∧ ((k : Int) + 1 == (N : Int)) = b := ⟨_, rfl, by
          rw [Bool.eq_iff_iff, beq_iff_eq, beq_iff_eq, q2]
          omega⟩
        have e47 : ({ data := #[47] } : ByteArray) = str [47] := rfl
        obtain ⟨z, HZ⟩ : ∃ z, Hid (U (k + 1 + 1) = z) := ⟨_, rfl⟩
        rw [HZ.out] at HD
        generalize U (k + 1) = y at *
        clear q2 hP2 hfit hle hup
        cases b
        all_goals
          go_wp2_with (first
            | (go_at_call 11; (with_reducible refine (HM _).mono ?_); rintro e ww ⟨rfl, hx⟩; have hbx := HBR.out.trans (hx.mono HBR.out.size); clear hx)
            | (go_at_call 9; (with_reducible refine (HD _).mono ?_); rintro e ww ⟨rfl, rfl⟩))
          go_roundw
          case rel => exact ⟨k + 1, by omega, by rw [HZ.out], by go_num, hbx⟩
          case measure => simp [intOf]; omega
      · obtain rfl : k = N := by omega
        have hN0 : (0 : Int) < (k : Int) := by omega
        clear hP2 hfit hle hup
        go_wp2_with (go_at_call 7; (with_reducible refine (HA _).mono ?_); rintro e ww ⟨rfl, hx⟩; have hb2 := hb2.trans (hx.mono hb2.size); clear hx)
        go_ret
        exact ⟨rfl, hb2⟩
  · rw [decide_eq_false h47] at e0
    have e2 : (((l.getD 0 0).toNat : Int) != 47) = true := by rw [bne, e0]; rfl
    have e1 : partsP l = [] := by unfold partsP; rw [if_neg (fun c => h47 c.2)]
    rw [e1] at HP
    have e3 : ([] : List (List UInt8)).length = 0 := rfl
    rw [e3] at HP
    generalize (l.getD 0 0).toNat = x at *
    clear hn h47 e1
    go_enter Try.func6, Try.ntmps6
    go_wp2_with (first
      | (go_at_call 13; (with_reducible refine (HP _).mono ?_); rintro e w1 ⟨a1, c1, rfl, ho1, hx⟩; have hb := hb.trans (hx.mono hb.size); clear hx)
      | (go_at_call 7; (with_reducible refine (HA _).mono ?_); rintro e ww ⟨rfl, hx⟩; have hb := hb.trans (hx.mono hb.size); clear hx))
    go_ret
    exact ⟨rfl, hb⟩
end Go.Proofs.Ytilgcphpieiliaa
