/- Contracts of the reference of layer 9. -/
import Derived.Test.YtgibhpljlebcdaaDoorSuffixPlain
import Derived.Test.YtgibhpljlebcdaaDoorStrsIn
import Derived.Test.YtgibhpljlebcdaaDoorHostRef4
namespace Go.Proofs.YtgibhpljlebcdaaDoor
open Go.RowKit
set_option linter.unusedVariables false

theorem refFindDotC (l : List UInt8) (n : Nat) (w : World) (hl : l.length = n) (hm : n ≤ maxLen) :
    Calls Tryd.prog 41 #[.string (str l), .int .u8 46] w fun e w' => e = .returned (.int .i64 (findL l 46)) ∧ w = w' := refFindC l 46 n w hl hm

theorem find_dot (l : List UInt8) : decide (0 ≤ findL l 46) = hasDot l := by
  unfold findL hasDot
  have hle : l.findIdx (· == 46) ≤ l.length := List.findIdx_le_length
  split
  · rename_i h
    rw [h, decide_eq_false (by omega), decide_eq_false (by omega)]
  · rename_i h
    rw [decide_eq_true (by omega), decide_eq_true (by omega)]

theorem splitR_len (s : List UInt8) : (splitR s).2.length ≤ s.length := by
  unfold splitR
  split
  · simp
  · split
    · simp
    · simp

/-- A rule's sign is one of three. -/
theorem splitR_sign (s : List UInt8) : (splitR s).1 = 0 ∨ (splitR s).1 = 33 ∨ (splitR s).1 = 42 := by
  unfold splitR
  split
  · exact .inr (.inr rfl)
  · split
    · exact .inr (.inl rfl)
    · exact .inl rfl

set_option maxRecDepth 100000 in
theorem refRSplitC (l : List UInt8) (n : Nat) (w : World) (hl : l.length = n) (hm : n ≤ maxLen) :
    Calls Tryd.prog 28 #[.string (str l)] w fun e w' => e = .returned (.tuple #[.int .u8 ((splitR l).1.toNat : Int), .string (str (splitR l).2)]) ∧ ∃ d, w' = w.drewN d := by
  have hsz : (str l).size = n := by rw [str_size, hl]
  unfold maxLen at hm
  have hk := str_toList
  unfold splitR
  rw [hl]
  have h2 : ({ data := #[42, 46] } : ByteArray) = str [42, 46] := rfl
  have hx1 : (str l).extract 0 2 = str (l.take 2) := by rw [str_extract]; simp
  have hx2 : (str l).extract 2 n = str (l.drop 2) := by rw [str_extract, List.take_of_length_le (by simp; omega)]
  have hx3 : (str l).extract 1 n = str (l.drop 1) := by rw [str_extract, List.take_of_length_le (by simp; omega)]
  by_cases c2 : 2 < n
  · have c2' : (2 : Int) < (n : Int) := by omega
    have c2d : decide ((2 : Int) < (n : Int)) = true := decide_eq_true c2'
    have c22 : (2 : Int) ≤ (n : Int) := by omega
    cases hq : (l.take 2 == [42, 46]) with
    | true =>
      rw [if_pos ⟨c2, beq_iff_eq.1 hq⟩]
      generalize l.drop 2 = y at *
      generalize l.take 2 = z at *
      clear hl hx3
      go_enter Tryd.func28, Tryd.ntmps28
      go_wp2_with fail
      go_quiet (fail)
      go_wp2
      go_ret2
      exact ⟨rfl, _, rfl⟩
    | false =>
      have hne : ¬ (2 < n ∧ l.take 2 = [42, 46]) := fun h => by rw [beq_iff_eq.2 h.2] at hq; cases hq
      rw [if_neg hne]
      have i0 := first_str (P := Tryd.prog) w 9 l Tryd.underlying9 (by omega)
      have c1 : (1 : Int) < (n : Int) := by omega
      have c12 : (1 : Int) ≤ (n : Int) := by omega
      have c1d : decide ((1 : Int) < (n : Int)) = true := decide_eq_true c1
      have e0 := u8_is (l.getD 0 0) 33 (by omega)
      by_cases h33 : l.getD 0 0 = 33
      · rw [if_pos ⟨by omega, h33⟩]
        have e0' : (((l.getD 0 0).toNat : Int) == 33) = true := by rw [h33]; rfl
        generalize l.drop 2 = y at *
        generalize l.drop 1 = y1 at *
        generalize l.take 2 = z at *
        generalize (l.getD 0 0).toNat = x at *
        clear hl e0 h33 hne
        go_enter Tryd.func28, Tryd.ntmps28
        go_wp2_with fail
        go_quiet (fail)
        go_wp2
        go_ret2
        exact ⟨rfl, _, rfl⟩
      · have hn2 : ¬ (1 < n ∧ l.getD 0 0 = 33) := fun h => h33 h.2
        rw [if_neg hn2]
        have e0' : (((l.getD 0 0).toNat : Int) == 33) = false := by
          have : (l.getD 0 0 == UInt8.ofNat 33) = false := by rw [beq_eq_false_iff_ne]; exact h33
          rw [this] at e0
          exact e0.symm
        generalize l.drop 2 = y at *
        generalize l.drop 1 = y1 at *
        generalize l.take 2 = z at *
        generalize (l.getD 0 0).toNat = x at *
        clear hl e0 h33 hne hn2
        go_enter Tryd.func28, Tryd.ntmps28
        go_wp2
        go_ret2
        exact ⟨rfl, 0, rfl⟩
  · have c2' : ¬ (2 : Int) < (n : Int) := by omega
    rw [if_neg (fun h => c2 h.1)]
    by_cases c1 : 1 < n
    · have i0 := first_str (P := Tryd.prog) w 9 l Tryd.underlying9 (by omega)
      have c1' : (1 : Int) < (n : Int) := by omega
      have c12 : (1 : Int) ≤ (n : Int) := by omega
      have e0 := u8_is (l.getD 0 0) 33 (by omega)
      by_cases h33 : l.getD 0 0 = 33
      · rw [if_pos ⟨c1, h33⟩]
        have e0' : (((l.getD 0 0).toNat : Int) == 33) = true := by rw [h33]; rfl
        generalize l.drop 2 = y at *
        generalize l.drop 1 = y1 at *
        generalize l.take 2 = z at *
        generalize (l.getD 0 0).toNat = x at *
        clear hl e0 h33 hx1 hx2
        go_enter Tryd.func28, Tryd.ntmps28
        go_wp2_with fail
        go_quiet (fail)
        go_wp2
        go_ret2
        exact ⟨rfl, _, rfl⟩
      · rw [if_neg (fun h => h33 h.2)]
        have e0' : (((l.getD 0 0).toNat : Int) == 33) = false := by
          have : (l.getD 0 0 == UInt8.ofNat 33) = false := by rw [beq_eq_false_iff_ne]; exact h33
          rw [this] at e0
          exact e0.symm
        generalize (l.getD 0 0).toNat = x at *
        clear hl e0 h33 hx1 hx2 hx3
        go_enter Tryd.func28, Tryd.ntmps28
        go_wp2
        go_ret2
        exact ⟨rfl, 0, rfl⟩
    · rw [if_neg (fun h => c1 h.1)]
      have c1' : ¬ (1 : Int) < (n : Int) := by omega
      clear hl hx1 hx2 hx3
      go_enter Tryd.func28, Tryd.ntmps28
      go_wp2
      go_ret2
      exact ⟨rfl, 0, rfl⟩

set_option maxRecDepth 100000 in
theorem refRuleC (l : List UInt8) (n : Nat) (w : World) (hl : l.length = n) (hm : n ≤ maxLen) :
    Calls Tryd.prog 23 #[.string (str l)] w fun e w' => e = .returned (.bool (ruleB l)) ∧ Below w.heap.size w w' := by
  have hb := Below.refl w.heap.size w
  have HS := fun w => refRSplitC l n w hl hm
  have hle := splitR_len l
  have hsg := splitR_sign l
  rw [hl] at hle
  unfold ruleB
  generalize splitR l = q at *
  obtain ⟨c, x⟩ := q
  simp only [] at HS hle hsg ⊢
  obtain ⟨m, hx⟩ : ∃ m, x.length = m := ⟨_, rfl⟩
  rw [hx] at hle
  have HN := fun w => refNameC x m w hx (by omega)
  have HF := fun w => refFindDotC x m w hx (by omega)
  have hfd := find_dot x
  generalize nameB x = nm at *
  generalize hasDot x = hd at *
  generalize findL x 46 = v at *
  clear hx hl
  cases nm with
  | false =>
    clear hfd
    go_enter Tryd.func23, Tryd.ntmps23
    go_wp2_with (first
      | (go_at_call 28; (with_reducible refine (HS _).mono ?_); rintro e w1 ⟨rfl, d1, rfl⟩; have hb := below_draws hb d1)
      | (go_at_call 13; (with_reducible refine (HN _).mono ?_); rintro e w1 ⟨rfl, hx⟩; have hb := hb.trans (hx.mono hb.size); clear hx))
    go_ret
    exact ⟨rfl, hb⟩
  | true =>
    rw [Bool.true_and]
    rcases hsg with rfl | rfl | rfl
    · clear hfd
      go_enter Tryd.func23, Tryd.ntmps23
      go_wp2_with (first
        | (go_at_call 28; (with_reducible refine (HS _).mono ?_); rintro e w1 ⟨rfl, d1, rfl⟩; have hb := below_draws hb d1)
        | (go_at_call 13; (with_reducible refine (HN _).mono ?_); rintro e w1 ⟨rfl, hx⟩; have hb := hb.trans (hx.mono hb.size); clear hx))
      go_ret
      exact ⟨rfl, hb⟩
    · cases hd
      all_goals (
        first | (have hv : (0 : Int) ≤ v := of_decide_eq_true hfd) | (have hv : ¬ (0 : Int) ≤ v := of_decide_eq_false hfd)
        go_enter Tryd.func23, Tryd.ntmps23
        go_wp2_with (first
          | (go_at_call 28; (with_reducible refine (HS _).mono ?_); rintro e w1 ⟨rfl, d1, rfl⟩; have hb := below_draws hb d1)
          | (go_at_call 13; (with_reducible refine (HN _).mono ?_); rintro e w1 ⟨rfl, hx⟩; have hb := hb.trans (hx.mono hb.size); clear hx)
          | (go_at_call 41; (with_reducible refine (HF _).mono ?_); rintro e w1 ⟨rfl, rfl⟩))
        go_ret
        exact ⟨rfl, hb⟩)
    · clear hfd
      go_enter Tryd.func23, Tryd.ntmps23
      go_wp2_with (first
        | (go_at_call 28; (with_reducible refine (HS _).mono ?_); rintro e w1 ⟨rfl, d1, rfl⟩; have hb := below_draws hb d1)
        | (go_at_call 13; (with_reducible refine (HN _).mono ?_); rintro e w1 ⟨rfl, hx⟩; have hb := hb.trans (hx.mono hb.size); clear hx))
      go_ret
      exact ⟨rfl, hb⟩
end Go.Proofs.YtgibhpljlebcdaaDoor
