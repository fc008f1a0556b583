/- Contracts of the reference of layer 10: ports. -/
import Derived.Test.YtgaodaimkojmhaaDoorUriRef
namespace Go.Proofs.YtgaodaimkojmhaaDoor
open Go.RowKit
set_option linter.unusedVariables false

theorem num_digits {l : List UInt8} (h0 : 1 ≤ l.length) (h : lead l = l.length) : numL l = ((numV l : Int), true) := by
  have hs : signed l = false := by
    cases c : signed l with
    | false => rfl
    | true =>
      obtain ⟨c1, c2, -⟩ := signed_yes c
      have := lead_all h 0 (by omega)
      omega
  obtain ⟨-, hb⟩ := signed_no hs
  unfold numL
  rw [hs, hb, if_neg (by omega)]
  rfl

set_option maxHeartbeats 1000000 in
set_option maxRecDepth 100000 in
theorem refPortC (l : List UInt8) (n : Nat) (w : World) (hl : l.length = n) (hm : n ≤ 100000) :
    Calls Tryd.prog 27 #[.string (str l)] w fun e w' => e = .returned (.bool (portB l)) ∧ w = w' := by
  have hsz : (str l).size = n := by rw [str_size, hl]
  have hk := str_toList
  have e58 : ({ data := #[58] } : ByteArray) = str [58] := rfl
  have e00 : ({ data := #[] } : ByteArray) = str [] := rfl
  unfold portB
  rw [hl]
  cases q0 : (l == []) with
  | true =>
    clear hl
    go_enter Tryd.func27, Tryd.ntmps27
    go_wp2
    go_ret
    exact ⟨rfl, rfl⟩
  | false =>
    rw [Bool.false_or]
    have hn : 1 ≤ n := by
      rcases Nat.eq_zero_or_pos n with h | h
      · have : l = [] := List.eq_nil_of_length_eq_zero (hl.trans h)
        rw [this] at q0
        cases q0
      · exact h
    cases q1 : (l == [58]) with
    | true =>
      clear hl
      go_enter Tryd.func27, Tryd.ntmps27
      go_wp2
      go_ret
      exact ⟨rfl, rfl⟩
    | false =>
      rw [Bool.false_or]
      have i0 := first_str (P := Tryd.prog) w 9 l Tryd.underlying9 (by omega)
      have hn0 : (0 : Int) < (n : Int) := by omega
      obtain ⟨b0, e0, f0⟩ : ∃ b0, (((l.getD 0 0).toNat : Int) == 58) = b0 ∧ (l.getD 0 0 == 58) = b0 := ⟨_, rfl, u8_is _ 58 (by omega)⟩
      have e0' : (((l.getD 0 0).toNat : Int) != 58) = !b0 := by rw [bne, e0]
      rw [f0]
      have hx1 : (str l).extract 1 n = str (l.drop 1) := by rw [str_extract, List.take_of_length_le (by simp; omega)]
      have hdl : (l.drop 1).length = n - 1 := by rw [List.length_drop, hl]
      have HD := fun w => refDigitsC (l.drop 1) (n - 1) w hdl (by unfold maxLen; omega)
      have HM := fun w => refNumberC (l.drop 1) (n - 1) w hdl (by unfold maxLen; omega)
      have hv1 : (n : Int) - 1 = ((n - 1 : Nat) : Int) := by omega
      have c1 : (1 : Int) ≤ (n : Int) := by omega
      cases b0 with
      | false =>
        rw [Bool.not_false] at e0'
        generalize (l.getD 0 0).toNat = x at *
        clear hl f0 HD HM hdl
        go_enter Tryd.func27, Tryd.ntmps27
        go_wp2
        go_ret
        exact ⟨rfl, rfl⟩
      | true =>
        rw [Bool.not_true] at e0'
        rw [Bool.true_and]
        have hn2 : 2 ≤ n := by
          by_cases h : n = 1
          · exfalso
            have e : l = [58] := by
              cases l with
              | nil => simp at hl; omega
              | cons y ys =>
                have hy : y = 58 := beq_iff_eq.1 f0
                have : ys = [] := List.eq_nil_of_length_eq_zero (by simp at hl; omega)
                rw [hy, this]
            rw [e] at q1
            cases q1
          · omega
        generalize (l.getD 0 0).toNat = x at *
        by_cases h6 : n ≤ 6
        · have h6' : ¬ (6 : Int) < (n : Int) := by omega
          rw [decide_eq_true h6, Bool.true_and]
          by_cases hd : lead (l.drop 1) = n - 1
          · rw [decide_eq_true hd, Bool.true_and]
            have hnum := num_digits (l := l.drop 1) (by omega) (by rw [hdl]; exact hd)
            rw [hnum] at HM
            rw [hd] at HD
            have hne : (((n - 1 : Nat) : Int) != ((n - 1 : Nat) : Int)) = false := by simp
            generalize l.drop 1 = y at *
            obtain ⟨V, hV⟩ : ∃ V, numV y = V := ⟨_, rfl⟩
            rw [hV] at HM ⊢
            generalize n - 1 = m at *
            clear hl f0 hdl hd hnum hV
            by_cases hv : V ≤ 65535
            · have hv' : (V : Int) ≤ 65535 := by omega
              rw [decide_eq_true hv]
              go_enter Tryd.func27, Tryd.ntmps27
              go_wp2_with (first
                | (go_at_call 42; (with_reducible refine (HD _).mono ?_); rintro e w1 ⟨rfl, rfl⟩)
                | (go_at_call 43; (with_reducible refine (HM _).mono ?_); rintro e w1 ⟨rfl, rfl⟩))
              go_ret
              exact ⟨rfl, rfl⟩
            · have hv' : ¬ (V : Int) ≤ 65535 := by omega
              rw [decide_eq_false hv]
              have hvd := Lib.hid (decide_eq_false hv')
              go_enter Tryd.func27, Tryd.ntmps27
              go_wp2_with (first
                | (go_at_call 42; (with_reducible refine (HD _).mono ?_); rintro e w1 ⟨rfl, rfl⟩)
                | (go_at_call 43; (with_reducible refine (HM _).mono ?_); rintro e w1 ⟨rfl, rfl⟩))
              go_ret
              exact ⟨(by show Ending.returned (.bool (decide ((V : Int) ≤ 65535))) = _; rw [hvd.out]), rfl⟩
          · rw [decide_eq_false hd]
            have hne : ((lead (l.drop 1) : Int) != ((n - 1 : Nat) : Int)) = true := by
              have : ((lead (l.drop 1) : Int) == ((n - 1 : Nat) : Int)) = false := by rw [beq_eq_false_iff_ne]; omega
              rw [bne, this]
              rfl
            generalize lead (l.drop 1) = d at *
            generalize l.drop 1 = y at *
            generalize n - 1 = m at *
            clear hl f0 hdl hd HM
            go_enter Tryd.func27, Tryd.ntmps27
            go_wp2_with (go_at_call 42; (with_reducible refine (HD _).mono ?_); rintro e w1 ⟨rfl, rfl⟩)
            go_ret
            exact ⟨rfl, rfl⟩
        · have h6' : (6 : Int) < (n : Int) := by omega
          rw [decide_eq_false h6]
          clear hl f0 hdl HM HD
          go_enter Tryd.func27, Tryd.ntmps27
          go_wp2
          go_ret
          exact ⟨rfl, rfl⟩
end Go.Proofs.YtgaodaimkojmhaaDoor
