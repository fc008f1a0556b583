/- Contracts and plain words that the laws' proofs stand on. -/
import Derived.Test.YtaodjnkjjmhecaaGreatDoorLibAR
namespace Go.Proofs.YtaodjnkjjmhecaaGreatDoor
open Go.RowKit
set_option linter.unusedVariables false
set_option maxHeartbeats 8000000 in
set_option maxRecDepth 100000 in
theorem refRightXC (nm dm pa va : List UInt8) (ho se ht pe : Bool) (ex cr ac : Int) (w : World) (l1 : nm.length ≤ 100000) (l2 : dm.length ≤ 100000) (l3 : pa.length ≤ 100000) (l4 : va.length ≤ 100000) :
    Calls Tryz.prog 108 #[.agg #[.string (str nm), .string (str dm), .string (str pa), .string (str va), .bool ho, .bool se, .bool ht, .bool pe, .int .i64 ex, .int .i64 cr, .int .i64 ac]] w fun e w' => e = .returned (.bool (rightX ⟨nm, dm, pa, va, ho, se, ht, pe, ex, cr, ac⟩)) ∧ Below w.heap.size w w' := by
  obtain ⟨-, o3, o4, hb3⟩ := three_new w #[.string (str nm), .string (str dm), .string (str pa), .string (str va), .bool ho, .bool se, .bool ht, .bool pe, .int .i64 ex, .int .i64 cr, .int .i64 ac] #[.string (str nm), .string (str dm), .string (str pa)] #[.string (str va), .bool ho, .bool se, .bool ht, .bool pe, .int .i64 ex, .int .i64 cr, .int .i64 ac] 156 39 41
  have HP1 := fun w => refPlainC nm nm.length w rfl (by unfold maxLen; omega)
  have HP2 := fun w => refPlainC va va.length w rfl (by unfold maxLen; omega)
  have HF := fun w => refFindEqC nm nm.length w rfl (by unfold maxLen; omega)
  have HC := fun w => refCanonC dm dm.length w rfl (by unfold maxLen; omega)
  have hk := str_toList
  obtain ⟨m1, hm1⟩ : ∃ m, nm.length = m := ⟨_, rfl⟩
  obtain ⟨m2, hm2⟩ : ∃ m, va.length = m := ⟨_, rfl⟩
  obtain ⟨m3, hm3⟩ : ∃ m, pa.length = m := ⟨_, rfl⟩
  have z1 : (str nm).size = m1 := by rw [str_size, hm1]
  have z2 : (str va).size = m2 := by rw [str_size, hm2]
  have z3 : (str pa).size = m3 := by rw [str_size, hm3]
  have hF1 : decide (nm.findIdx (· == 61) < nm.length) = true → 0 ≤ findL nm 61 := fun h => by
    have := of_decide_eq_true h
    unfold findL
    rw [if_neg (by omega)]
    omega
  have hF2 : decide (nm.findIdx (· == 61) < nm.length) = false → ¬ 0 ≤ findL nm 61 := fun h => by
    have := of_decide_eq_false h
    have hle : nm.findIdx (· == 61) ≤ nm.length := List.findIdx_le_length
    unfold findL
    rw [if_pos (by omega)]
    decide
  have hX1 : (pa.getD 0 0 == 47) = true → (((pa.getD 0 0).toNat : Int) == 47) = true := fun h => by
    rw [beq_iff_eq] at h
    rw [h]; rfl
  have hX2 : (pa.getD 0 0 == 47) = false → (((pa.getD 0 0).toNat : Int) == 47) = false := fun h => by
    rw [beq_eq_false_iff_ne] at h ⊢
    intro c
    exact h (UInt8.toNat.inj (by have : (47 : UInt8).toNat = 47 := rfl; omega))
  have hix : pa ≠ [] → ∀ w : World, (Instr.index 9 (.string (str pa)) (.int .i64 0)).run Tryz.prog w = .ok (.int .u8 ((pa.getD 0 0).toNat : Int)) w := fun h w => run_index_str w 9 pa .i64 0 Tryz.underlying9 (List.length_pos_iff.2 h)
  unfold rightX
  dsimp only
  obtain ⟨b1, hb1⟩ : ∃ b, (nm == []) = b := ⟨_, rfl⟩
  obtain ⟨b2, hb2⟩ : ∃ b, decide (256 < nm.length) = b := ⟨_, rfl⟩
  obtain ⟨b3, hq3⟩ : ∃ b, plainB nm = b := ⟨_, rfl⟩
  obtain ⟨b4, hb4⟩ : ∃ b, decide (nm.findIdx (· == 61) < nm.length) = b := ⟨_, rfl⟩
  obtain ⟨b5, hq5⟩ : ∃ b, decide (1024 < va.length) = b := ⟨_, rfl⟩
  obtain ⟨b6, hb6⟩ : ∃ b, plainB va = b := ⟨_, rfl⟩
  obtain ⟨c1, hc1⟩ : ∃ b, canonB dm = b := ⟨_, rfl⟩
  obtain ⟨c2, hc2⟩ : ∃ b, (pa == []) = b := ⟨_, rfl⟩
  obtain ⟨c3, hc3⟩ : ∃ b, (pa.getD 0 0 == 47) = b := ⟨_, rfl⟩
  obtain ⟨c4, hc4⟩ : ∃ b, decide (256 < pa.length) = b := ⟨_, rfl⟩
  obtain ⟨e1, he1⟩ : ∃ b, decide (-1099511627776 ≤ ex) = b := ⟨_, rfl⟩
  obtain ⟨e2, he2⟩ : ∃ b, decide (ex ≤ 1099511627776) = b := ⟨_, rfl⟩
  obtain ⟨e3, he3⟩ : ∃ b, decide (0 ≤ cr) = b := ⟨_, rfl⟩
  obtain ⟨e4, he4⟩ : ∃ b, decide (cr ≤ 1099511627776) = b := ⟨_, rfl⟩
  obtain ⟨e5, he5⟩ : ∃ b, decide (0 ≤ ac) = b := ⟨_, rfl⟩
  obtain ⟨e6, he6⟩ : ∃ b, decide (ac ≤ 1099511627776) = b := ⟨_, rfl⟩
  obtain ⟨e7, he7⟩ : ∃ b, (ex == 1099511627776) = b := ⟨_, rfl⟩
  rw [hb1, hb2, hq3, hb4, hq5, hb6, hc1, hc2, hc3, hc4, he1, he2, he3, he4, he5, he6, he7]
  rw [hq3] at HP1
  rw [hb6] at HP2
  rw [hc1] at HC
  rw [hb4] at hF1 hF2
  rw [hc3] at hX1 hX2
  rw [hm1] at hb2
  rw [hm2] at hq5
  rw [hm3] at hc4
  generalize findL nm 61 = F at *
  generalize ((pa.getD 0 0).toNat : Int) = X at *
  clear l1 l2 l3 l4 hq3 hb6 hc1 hm1 hm2 hm3
  cases b1 with
  | true =>
    go_enter Tryz.func108, Tryz.ntmps108
    go_wp2_with (first
      | (go_at_call 144; (with_reducible refine (HP1 _).mono ?_); rintro e w1 ⟨rfl, rfl⟩)
      | (go_at_call 144; (with_reducible refine (HP2 _).mono ?_); rintro e w1 ⟨rfl, rfl⟩)
      | (go_at_call 145; (with_reducible refine (HF _).mono ?_); rintro e w1 ⟨rfl, rfl⟩)
      | (go_at_call 146; (with_reducible refine (HC _).mono ?_); rintro e w4 ⟨rfl, hx⟩; have k3 := o3.below hx o3.lt; have k4 := o4.below hx o4.lt; have hb5 := hb3.trans (hx.mono hb3.size); have p2 := k3.cell 2 rfl; have d4 := k4.cell 4 rfl; have d5 := k4.cell 5 rfl; have d6 := k4.cell 6 rfl; have d7 := k4.cell 7 rfl; clear hx))
    go_ret
    exact ⟨rfl, hb3⟩
  | false =>
    cases b2 with
    | true =>
      have u2 : (256 : Int) < (m1 : Int) := by have := of_decide_eq_true hb2; omega
      go_enter Tryz.func108, Tryz.ntmps108
      go_wp2_with (first
        | (go_at_call 144; (with_reducible refine (HP1 _).mono ?_); rintro e w1 ⟨rfl, rfl⟩)
        | (go_at_call 144; (with_reducible refine (HP2 _).mono ?_); rintro e w1 ⟨rfl, rfl⟩)
        | (go_at_call 145; (with_reducible refine (HF _).mono ?_); rintro e w1 ⟨rfl, rfl⟩)
        | (go_at_call 146; (with_reducible refine (HC _).mono ?_); rintro e w4 ⟨rfl, hx⟩; have k3 := o3.below hx o3.lt; have k4 := o4.below hx o4.lt; have hb5 := hb3.trans (hx.mono hb3.size); have p2 := k3.cell 2 rfl; have d4 := k4.cell 4 rfl; have d5 := k4.cell 5 rfl; have d6 := k4.cell 6 rfl; have d7 := k4.cell 7 rfl; clear hx))
      go_ret
      exact ⟨rfl, hb3⟩
    | false =>
      have u2 : ¬ (256 : Int) < (m1 : Int) := by have := of_decide_eq_false hb2; omega
      cases b3 with
      | false =>
        go_enter Tryz.func108, Tryz.ntmps108
        go_wp2_with (first
          | (go_at_call 144; (with_reducible refine (HP1 _).mono ?_); rintro e w1 ⟨rfl, rfl⟩)
          | (go_at_call 144; (with_reducible refine (HP2 _).mono ?_); rintro e w1 ⟨rfl, rfl⟩)
          | (go_at_call 145; (with_reducible refine (HF _).mono ?_); rintro e w1 ⟨rfl, rfl⟩)
          | (go_at_call 146; (with_reducible refine (HC _).mono ?_); rintro e w4 ⟨rfl, hx⟩; have k3 := o3.below hx o3.lt; have k4 := o4.below hx o4.lt; have hb5 := hb3.trans (hx.mono hb3.size); have p2 := k3.cell 2 rfl; have d4 := k4.cell 4 rfl; have d5 := k4.cell 5 rfl; have d6 := k4.cell 6 rfl; have d7 := k4.cell 7 rfl; clear hx))
        go_ret
        exact ⟨rfl, hb3⟩
      | true =>
        cases b4 with
        | true =>
          have u4 : (0 : Int) ≤ F := hF1 rfl
          go_enter Tryz.func108, Tryz.ntmps108
          go_wp2_with (first
            | (go_at_call 144; (with_reducible refine (HP1 _).mono ?_); rintro e w1 ⟨rfl, rfl⟩)
            | (go_at_call 144; (with_reducible refine (HP2 _).mono ?_); rintro e w1 ⟨rfl, rfl⟩)
            | (go_at_call 145; (with_reducible refine (HF _).mono ?_); rintro e w1 ⟨rfl, rfl⟩)
            | (go_at_call 146; (with_reducible refine (HC _).mono ?_); rintro e w4 ⟨rfl, hx⟩; have k3 := o3.below hx o3.lt; have k4 := o4.below hx o4.lt; have hb5 := hb3.trans (hx.mono hb3.size); have p2 := k3.cell 2 rfl; have d4 := k4.cell 4 rfl; have d5 := k4.cell 5 rfl; have d6 := k4.cell 6 rfl; have d7 := k4.cell 7 rfl; clear hx))
          go_ret
          exact ⟨rfl, hb3⟩
        | false =>
          have u4 : ¬ (0 : Int) ≤ F := hF2 rfl
          cases b5 with
          | true =>
            have u5 : (1024 : Int) < (m2 : Int) := by have := of_decide_eq_true hq5; omega
            go_enter Tryz.func108, Tryz.ntmps108
            go_wp2_with (first
              | (go_at_call 144; (with_reducible refine (HP1 _).mono ?_); rintro e w1 ⟨rfl, rfl⟩)
              | (go_at_call 144; (with_reducible refine (HP2 _).mono ?_); rintro e w1 ⟨rfl, rfl⟩)
              | (go_at_call 145; (with_reducible refine (HF _).mono ?_); rintro e w1 ⟨rfl, rfl⟩)
              | (go_at_call 146; (with_reducible refine (HC _).mono ?_); rintro e w4 ⟨rfl, hx⟩; have k3 := o3.below hx o3.lt; have k4 := o4.below hx o4.lt; have hb5 := hb3.trans (hx.mono hb3.size); have p2 := k3.cell 2 rfl; have d4 := k4.cell 4 rfl; have d5 := k4.cell 5 rfl; have d6 := k4.cell 6 rfl; have d7 := k4.cell 7 rfl; clear hx))
            go_ret
            exact ⟨rfl, hb3⟩
          | false =>
            have u5 : ¬ (1024 : Int) < (m2 : Int) := by have := of_decide_eq_false hq5; omega
            cases b6 with
            | false =>
              go_enter Tryz.func108, Tryz.ntmps108
              go_wp2_with (first
                | (go_at_call 144; (with_reducible refine (HP1 _).mono ?_); rintro e w1 ⟨rfl, rfl⟩)
                | (go_at_call 144; (with_reducible refine (HP2 _).mono ?_); rintro e w1 ⟨rfl, rfl⟩)
                | (go_at_call 145; (with_reducible refine (HF _).mono ?_); rintro e w1 ⟨rfl, rfl⟩)
                | (go_at_call 146; (with_reducible refine (HC _).mono ?_); rintro e w4 ⟨rfl, hx⟩; have k3 := o3.below hx o3.lt; have k4 := o4.below hx o4.lt; have hb5 := hb3.trans (hx.mono hb3.size); have p2 := k3.cell 2 rfl; have d4 := k4.cell 4 rfl; have d5 := k4.cell 5 rfl; have d6 := k4.cell 6 rfl; have d7 := k4.cell 7 rfl; clear hx))
              go_ret
              exact ⟨rfl, hb3⟩
            | true =>
              cases c1 with
              | false =>
                go_enter Tryz.func108, Tryz.ntmps108
                go_wp2_with (first
                  | (go_at_call 144; (with_reducible refine (HP1 _).mono ?_); rintro e w1 ⟨rfl, rfl⟩)
                  | (go_at_call 144; (with_reducible refine (HP2 _).mono ?_); rintro e w1 ⟨rfl, rfl⟩)
                  | (go_at_call 145; (with_reducible refine (HF _).mono ?_); rintro e w1 ⟨rfl, rfl⟩)
                  | (go_at_call 146; (with_reducible refine (HC _).mono ?_); rintro e w4 ⟨rfl, hx⟩; have k3 := o3.below hx o3.lt; have k4 := o4.below hx o4.lt; have hb5 := hb3.trans (hx.mono hb3.size); have p2 := k3.cell 2 rfl; have d4 := k4.cell 4 rfl; have d5 := k4.cell 5 rfl; have d6 := k4.cell 6 rfl; have d7 := k4.cell 7 rfl; clear hx))
                go_ret
                exact ⟨rfl, hb5⟩
              | true =>
                cases c2 with
                | true =>
                  go_enter Tryz.func108, Tryz.ntmps108
                  go_wp2_with (first
                    | (go_at_call 144; (with_reducible refine (HP1 _).mono ?_); rintro e w1 ⟨rfl, rfl⟩)
                    | (go_at_call 144; (with_reducible refine (HP2 _).mono ?_); rintro e w1 ⟨rfl, rfl⟩)
                    | (go_at_call 145; (with_reducible refine (HF _).mono ?_); rintro e w1 ⟨rfl, rfl⟩)
                    | (go_at_call 146; (with_reducible refine (HC _).mono ?_); rintro e w4 ⟨rfl, hx⟩; have k3 := o3.below hx o3.lt; have k4 := o4.below hx o4.lt; have hb5 := hb3.trans (hx.mono hb3.size); have p2 := k3.cell 2 rfl; have d4 := k4.cell 4 rfl; have d5 := k4.cell 5 rfl; have d6 := k4.cell 6 rfl; have d7 := k4.cell 7 rfl; clear hx))
                  go_ret
                  exact ⟨rfl, hb5⟩
                | false =>
                  have hi0 := hix (fun e => by rw [e] at hc2; cases hc2)
                  cases c3 with
                  | false =>
                    have v3 : ¬ X = 47 := by simpa using hX2 rfl
                    go_enter Tryz.func108, Tryz.ntmps108
                    go_wp2_with (first
                      | (go_at_call 144; (with_reducible refine (HP1 _).mono ?_); rintro e w1 ⟨rfl, rfl⟩)
                      | (go_at_call 144; (with_reducible refine (HP2 _).mono ?_); rintro e w1 ⟨rfl, rfl⟩)
                      | (go_at_call 145; (with_reducible refine (HF _).mono ?_); rintro e w1 ⟨rfl, rfl⟩)
                      | (go_at_call 146; (with_reducible refine (HC _).mono ?_); rintro e w4 ⟨rfl, hx⟩; have k3 := o3.below hx o3.lt; have k4 := o4.below hx o4.lt; have hb5 := hb3.trans (hx.mono hb3.size); have p2 := k3.cell 2 rfl; have d4 := k4.cell 4 rfl; have d5 := k4.cell 5 rfl; have d6 := k4.cell 6 rfl; have d7 := k4.cell 7 rfl; clear hx))
                    go_ret
                    exact ⟨rfl, hb5⟩
                  | true =>
                    have v3 : X = 47 := by simpa using hX1 rfl
                    cases c4 with
                    | true =>
                      have v4 : (256 : Int) < (m3 : Int) := by have := of_decide_eq_true hc4; omega
                      go_enter Tryz.func108, Tryz.ntmps108
                      go_wp2_with (first
                        | (go_at_call 144; (with_reducible refine (HP1 _).mono ?_); rintro e w1 ⟨rfl, rfl⟩)
                        | (go_at_call 144; (with_reducible refine (HP2 _).mono ?_); rintro e w1 ⟨rfl, rfl⟩)
                        | (go_at_call 145; (with_reducible refine (HF _).mono ?_); rintro e w1 ⟨rfl, rfl⟩)
                        | (go_at_call 146; (with_reducible refine (HC _).mono ?_); rintro e w4 ⟨rfl, hx⟩; have k3 := o3.below hx o3.lt; have k4 := o4.below hx o4.lt; have hb5 := hb3.trans (hx.mono hb3.size); have p2 := k3.cell 2 rfl; have d4 := k4.cell 4 rfl; have d5 := k4.cell 5 rfl; have d6 := k4.cell 6 rfl; have d7 := k4.cell 7 rfl; clear hx))
                      go_ret
                      exact ⟨rfl, hb5⟩
                    | false =>
                      have v4 : ¬ (256 : Int) < (m3 : Int) := by have := of_decide_eq_false hc4; omega
                      cases e1 with
                      | false =>
                        have x1 : ¬ (-1099511627776 : Int) ≤ ex := of_decide_eq_false he1
                        go_enter Tryz.func108, Tryz.ntmps108
                        go_wp2_with (first
                          | (go_at_call 144; (with_reducible refine (HP1 _).mono ?_); rintro e w1 ⟨rfl, rfl⟩)
                          | (go_at_call 144; (with_reducible refine (HP2 _).mono ?_); rintro e w1 ⟨rfl, rfl⟩)
                          | (go_at_call 145; (with_reducible refine (HF _).mono ?_); rintro e w1 ⟨rfl, rfl⟩)
                          | (go_at_call 146; (with_reducible refine (HC _).mono ?_); rintro e w4 ⟨rfl, hx⟩; have k3 := o3.below hx o3.lt; have k4 := o4.below hx o4.lt; have hb5 := hb3.trans (hx.mono hb3.size); have p2 := k3.cell 2 rfl; have d4 := k4.cell 4 rfl; have d5 := k4.cell 5 rfl; have d6 := k4.cell 6 rfl; have d7 := k4.cell 7 rfl; clear hx))
                        go_ret
                        exact ⟨rfl, hb5⟩
                      | true =>
                        have x1 : (-1099511627776 : Int) ≤ ex := of_decide_eq_true he1
                        cases e2 with
                        | false =>
                          have x2 : ¬ ex ≤ (1099511627776 : Int) := of_decide_eq_false he2
                          go_enter Tryz.func108, Tryz.ntmps108
                          go_wp2_with (first
                            | (go_at_call 144; (with_reducible refine (HP1 _).mono ?_); rintro e w1 ⟨rfl, rfl⟩)
                            | (go_at_call 144; (with_reducible refine (HP2 _).mono ?_); rintro e w1 ⟨rfl, rfl⟩)
                            | (go_at_call 145; (with_reducible refine (HF _).mono ?_); rintro e w1 ⟨rfl, rfl⟩)
                            | (go_at_call 146; (with_reducible refine (HC _).mono ?_); rintro e w4 ⟨rfl, hx⟩; have k3 := o3.below hx o3.lt; have k4 := o4.below hx o4.lt; have hb5 := hb3.trans (hx.mono hb3.size); have p2 := k3.cell 2 rfl; have d4 := k4.cell 4 rfl; have d5 := k4.cell 5 rfl; have d6 := k4.cell 6 rfl; have d7 := k4.cell 7 rfl; clear hx))
                          go_ret
                          exact ⟨rfl, hb5⟩
                        | true =>
                          have x2 : ex ≤ (1099511627776 : Int) := of_decide_eq_true he2
                          cases e3 with
                          | false =>
                            have x3 : ¬ (0 : Int) ≤ cr := of_decide_eq_false he3
                            go_enter Tryz.func108, Tryz.ntmps108
                            go_wp2_with (first
                              | (go_at_call 144; (with_reducible refine (HP1 _).mono ?_); rintro e w1 ⟨rfl, rfl⟩)
                              | (go_at_call 144; (with_reducible refine (HP2 _).mono ?_); rintro e w1 ⟨rfl, rfl⟩)
                              | (go_at_call 145; (with_reducible refine (HF _).mono ?_); rintro e w1 ⟨rfl, rfl⟩)
                              | (go_at_call 146; (with_reducible refine (HC _).mono ?_); rintro e w4 ⟨rfl, hx⟩; have k3 := o3.below hx o3.lt; have k4 := o4.below hx o4.lt; have hb5 := hb3.trans (hx.mono hb3.size); have p2 := k3.cell 2 rfl; have d4 := k4.cell 4 rfl; have d5 := k4.cell 5 rfl; have d6 := k4.cell 6 rfl; have d7 := k4.cell 7 rfl; clear hx))
                            go_ret
                            exact ⟨rfl, hb5⟩
                          | true =>
                            have x3 : (0 : Int) ≤ cr := of_decide_eq_true he3
                            cases e4 with
                            | false =>
                              have x4 : ¬ cr ≤ (1099511627776 : Int) := of_decide_eq_false he4
                              go_enter Tryz.func108, Tryz.ntmps108
                              go_wp2_with (first
                                | (go_at_call 144; (with_reducible refine (HP1 _).mono ?_); rintro e w1 ⟨rfl, rfl⟩)
                                | (go_at_call 144; (with_reducible refine (HP2 _).mono ?_); rintro e w1 ⟨rfl, rfl⟩)
                                | (go_at_call 145; (with_reducible refine (HF _).mono ?_); rintro e w1 ⟨rfl, rfl⟩)
                                | (go_at_call 146; (with_reducible refine (HC _).mono ?_); rintro e w4 ⟨rfl, hx⟩; have k3 := o3.below hx o3.lt; have k4 := o4.below hx o4.lt; have hb5 := hb3.trans (hx.mono hb3.size); have p2 := k3.cell 2 rfl; have d4 := k4.cell 4 rfl; have d5 := k4.cell 5 rfl; have d6 := k4.cell 6 rfl; have d7 := k4.cell 7 rfl; clear hx))
                              go_ret
                              exact ⟨rfl, hb5⟩
                            | true =>
                              have x4 : cr ≤ (1099511627776 : Int) := of_decide_eq_true he4
                              cases e5 with
                              | false =>
                                have x5 : ¬ (0 : Int) ≤ ac := of_decide_eq_false he5
                                go_enter Tryz.func108, Tryz.ntmps108
                                go_wp2_with (first
                                  | (go_at_call 144; (with_reducible refine (HP1 _).mono ?_); rintro e w1 ⟨rfl, rfl⟩)
                                  | (go_at_call 144; (with_reducible refine (HP2 _).mono ?_); rintro e w1 ⟨rfl, rfl⟩)
                                  | (go_at_call 145; (with_reducible refine (HF _).mono ?_); rintro e w1 ⟨rfl, rfl⟩)
                                  | (go_at_call 146; (with_reducible refine (HC _).mono ?_); rintro e w4 ⟨rfl, hx⟩; have k3 := o3.below hx o3.lt; have k4 := o4.below hx o4.lt; have hb5 := hb3.trans (hx.mono hb3.size); have p2 := k3.cell 2 rfl; have d4 := k4.cell 4 rfl; have d5 := k4.cell 5 rfl; have d6 := k4.cell 6 rfl; have d7 := k4.cell 7 rfl; clear hx))
                                go_ret
                                exact ⟨rfl, hb5⟩
                              | true =>
                                have x5 : (0 : Int) ≤ ac := of_decide_eq_true he5
                                cases e6 with
                                | false =>
                                  have x6 : ¬ ac ≤ (1099511627776 : Int) := of_decide_eq_false he6
                                  go_enter Tryz.func108, Tryz.ntmps108
                                  go_wp2_with (first
                                    | (go_at_call 144; (with_reducible refine (HP1 _).mono ?_); rintro e w1 ⟨rfl, rfl⟩)
                                    | (go_at_call 144; (with_reducible refine (HP2 _).mono ?_); rintro e w1 ⟨rfl, rfl⟩)
                                    | (go_at_call 145; (with_reducible refine (HF _).mono ?_); rintro e w1 ⟨rfl, rfl⟩)
                                    | (go_at_call 146; (with_reducible refine (HC _).mono ?_); rintro e w4 ⟨rfl, hx⟩; have k3 := o3.below hx o3.lt; have k4 := o4.below hx o4.lt; have hb5 := hb3.trans (hx.mono hb3.size); have p2 := k3.cell 2 rfl; have d4 := k4.cell 4 rfl; have d5 := k4.cell 5 rfl; have d6 := k4.cell 6 rfl; have d7 := k4.cell 7 rfl; clear hx))
                                  go_ret
                                  exact ⟨rfl, hb5⟩
                                | true =>
                                  have x6 : ac ≤ (1099511627776 : Int) := of_decide_eq_true he6
                                  cases pe with
                                  | true =>
                                    go_enter Tryz.func108, Tryz.ntmps108
                                    go_wp2_with (first
                                      | (go_at_call 144; (with_reducible refine (HP1 _).mono ?_); rintro e w1 ⟨rfl, rfl⟩)
                                      | (go_at_call 144; (with_reducible refine (HP2 _).mono ?_); rintro e w1 ⟨rfl, rfl⟩)
                                      | (go_at_call 145; (with_reducible refine (HF _).mono ?_); rintro e w1 ⟨rfl, rfl⟩)
                                      | (go_at_call 146; (with_reducible refine (HC _).mono ?_); rintro e w4 ⟨rfl, hx⟩; have k3 := o3.below hx o3.lt; have k4 := o4.below hx o4.lt; have hb5 := hb3.trans (hx.mono hb3.size); have p2 := k3.cell 2 rfl; have d4 := k4.cell 4 rfl; have d5 := k4.cell 5 rfl; have d6 := k4.cell 6 rfl; have d7 := k4.cell 7 rfl; clear hx))
                                    go_ret
                                    exact ⟨rfl, hb5⟩
                                  | false =>
                                    cases e7 with
                                    | true =>
                                      go_enter Tryz.func108, Tryz.ntmps108
                                      go_wp2_with (first
                                        | (go_at_call 144; (with_reducible refine (HP1 _).mono ?_); rintro e w1 ⟨rfl, rfl⟩)
                                        | (go_at_call 144; (with_reducible refine (HP2 _).mono ?_); rintro e w1 ⟨rfl, rfl⟩)
                                        | (go_at_call 145; (with_reducible refine (HF _).mono ?_); rintro e w1 ⟨rfl, rfl⟩)
                                        | (go_at_call 146; (with_reducible refine (HC _).mono ?_); rintro e w4 ⟨rfl, hx⟩; have k3 := o3.below hx o3.lt; have k4 := o4.below hx o4.lt; have hb5 := hb3.trans (hx.mono hb3.size); have p2 := k3.cell 2 rfl; have d4 := k4.cell 4 rfl; have d5 := k4.cell 5 rfl; have d6 := k4.cell 6 rfl; have d7 := k4.cell 7 rfl; clear hx))
                                      go_ret
                                      exact ⟨rfl, hb5⟩
                                    | false =>
                                      go_enter Tryz.func108, Tryz.ntmps108
                                      go_wp2_with (first
                                        | (go_at_call 144; (with_reducible refine (HP1 _).mono ?_); rintro e w1 ⟨rfl, rfl⟩)
                                        | (go_at_call 144; (with_reducible refine (HP2 _).mono ?_); rintro e w1 ⟨rfl, rfl⟩)
                                        | (go_at_call 145; (with_reducible refine (HF _).mono ?_); rintro e w1 ⟨rfl, rfl⟩)
                                        | (go_at_call 146; (with_reducible refine (HC _).mono ?_); rintro e w4 ⟨rfl, hx⟩; have k3 := o3.below hx o3.lt; have k4 := o4.below hx o4.lt; have hb5 := hb3.trans (hx.mono hb3.size); have p2 := k3.cell 2 rfl; have d4 := k4.cell 4 rfl; have d5 := k4.cell 5 rfl; have d6 := k4.cell 6 rfl; have d7 := k4.cell 7 rfl; clear hx))
                                      go_ret
                                      exact ⟨rfl, hb5⟩
end Go.Proofs.YtaodjnkjjmhecaaGreatDoor
