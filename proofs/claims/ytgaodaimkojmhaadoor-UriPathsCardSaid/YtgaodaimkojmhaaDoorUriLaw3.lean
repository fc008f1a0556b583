/- Layer 10's law on ports and queries, walked. -/
import Derived.Test.YtgaodaimkojmhaaDoorUriLaw2
import Derived.Test.YtgaodaimkojmhaaDoorUriPlain3
namespace Go.Proofs.YtgaodaimkojmhaaDoor
open Go.RowKit
set_option linter.unusedVariables false

set_option maxHeartbeats 4000000 in
set_option maxRecDepth 100000 in
theorem uriPaths_walk (h p : List UInt8) (sec scr : Bool) (m0 : Int) (t : ByteArray) (w : World) (hw : (Lit.int .u16 m0).wf = true) (hT : PTab Tryd.prog w) (hsm : h.length ≤ 140737488355328 ∧ p.length ≤ 140737488355328 ∧ t.size ≤ 140737488355328) :
    Calls Tryd.prog 5 #[.agg #[.string (str h), .string (str p), .bool sec, .bool scr], .int .u16 m0, .string t] w fun e w' => e = .returned (.bool true) ∧ Below w.heap.size w w' := by
  obtain ⟨q, rfl⟩ : ∃ q, t = str q := ⟨_, str_of t⟩
  obtain ⟨n, hn⟩ : ∃ n, h.length = n := ⟨_, rfl⟩
  obtain ⟨m, hm⟩ : ∃ m, p.length = m := ⟨_, rfl⟩
  obtain ⟨r, hr0⟩ : ∃ r, q.length = r := ⟨_, rfl⟩
  have s1 : (str h).size = n := by rw [str_size, hn]
  have s2 : (str p).size = m := by rw [str_size, hm]
  have s3 : (str q).size = r := by rw [str_size, hr0]
  rw [hn, hm, s3] at hsm
  obtain ⟨z1, z2, z3⟩ := hsm
  obtain ⟨M, rfl, hM⟩ : ∃ M : Nat, m0 = (M : Int) ∧ M ≤ 65535 := by
    have h1 : 0 ≤ m0 ∧ m0 ≤ 65535 := by simpa [Lit.wf, IntKind.min, IntKind.max, IntKind.signed, IntKind.bits] using hw
    exact ⟨m0.toNat, by omega, by omega⟩
  have HA := fun w (h : PTab Tryd.prog w) => awake10C w h
  obtain ⟨k0, k1, k2, k3⟩ := four_cells w (.string (str h)) (.string (str p)) (.bool sec) (.bool scr) 24
  have f3 := four_free w (.string (str h)) (.string (str p)) (.bool sec) (.bool scr) 24 3
  have hb := below_alloc w (.cells #[.string (str h), .string (str p), .bool sec, .bool scr] 24)
  have HR := fun w => refURightC h p sec scr n m w hn (by omega) hm (by omega)
  generalize hW : w.alloc (.cells #[.string (str h), .string (str p), .bool sec, .bool scr] 24) = W at *
  clear hw
  cases hr : rightU h p sec with
  | false =>
    rw [hr] at HR
    clear hn hm hr0 hr
    go_enter Tryd.func5, Tryd.ntmps5
    go_wp2_with (first
      | (go_at_call 10; (with_reducible refine (HR _).mono ?_); rintro e w3 ⟨rfl, hx⟩; have f3 := free_below f3 hx (cell_lt k3); have k0 := (hx.cell (cell_lt k0)).trans k0; have k1 := (hx.cell (cell_lt k1)).trans k1; have k2 := (hx.cell (cell_lt k2)).trans k2; have k3 := (hx.cell (cell_lt k3)).trans k3; have hb := hb.trans (hx.mono hb.size); clear hx)
      | (go_at_call 6; (with_reducible refine (HA _ (hT.below hb)).mono ?_); rintro e w7 ⟨rfl, hx⟩; have hb := hb.trans (hx.mono hb.size); clear hx))
    go_ret
    exact ⟨rfl, hb⟩
  | true =>
  rw [hr] at HR
  by_cases h1 : 300 < n + m
  · have b1 : (300 : Int) < (n : Int) + (m : Int) := by omega
    clear hn hm hr0 hr
    go_enter Tryd.func5, Tryd.ntmps5
    go_wp2_with (first
      | (go_at_call 10; (with_reducible refine (HR _).mono ?_); rintro e w3 ⟨rfl, hx⟩; have f3 := free_below f3 hx (cell_lt k3); have k0 := (hx.cell (cell_lt k0)).trans k0; have k1 := (hx.cell (cell_lt k1)).trans k1; have k2 := (hx.cell (cell_lt k2)).trans k2; have k3 := (hx.cell (cell_lt k3)).trans k3; have hb := hb.trans (hx.mono hb.size); clear hx)
      | (go_at_call 6; (with_reducible refine (HA _ (hT.below hb)).mono ?_); rintro e w7 ⟨rfl, hx⟩; have hb := hb.trans (hx.mono hb.size); clear hx))
    go_ret
    exact ⟨rfl, hb⟩
  have b1 : ¬ (300 : Int) < (n : Int) + (m : Int) := by omega
  by_cases h2 : 300 < r
  · have b2 : (300 : Int) < (r : Int) := by omega
    clear hn hm hr0 hr
    go_enter Tryd.func5, Tryd.ntmps5
    go_wp2_with (first
      | (go_at_call 10; (with_reducible refine (HR _).mono ?_); rintro e w3 ⟨rfl, hx⟩; have f3 := free_below f3 hx (cell_lt k3); have k0 := (hx.cell (cell_lt k0)).trans k0; have k1 := (hx.cell (cell_lt k1)).trans k1; have k2 := (hx.cell (cell_lt k2)).trans k2; have k3 := (hx.cell (cell_lt k3)).trans k3; have hb := hb.trans (hx.mono hb.size); clear hx)
      | (go_at_call 6; (with_reducible refine (HA _ (hT.below hb)).mono ?_); rintro e w7 ⟨rfl, hx⟩; have hb := hb.trans (hx.mono hb.size); clear hx))
    go_ret
    exact ⟨rfl, hb⟩
  have b2 : ¬ (300 : Int) < (r : Int) := by omega
  have HLq := Lib.hid hr0
  have HRR := Lib.hid hr
  have HLh := Lib.hid hn
  have HLp := Lib.hid hm
  clear hn hm hr0 hr
  go_enter Tryd.func5, Tryd.ntmps5
  go_wp2_with (go_at_call 10; (with_reducible refine (HR _).mono ?_); rintro e w3 ⟨rfl, hx⟩; have f3 := free_below f3 hx (cell_lt k3); have k0 := (hx.cell (cell_lt k0)).trans k0; have k1 := (hx.cell (cell_lt k1)).trans k1; have k2 := (hx.cell (cell_lt k2)).trans k2; have k3 := (hx.cell (cell_lt k3)).trans k3; have hb := hb.trans (hx.mono hb.size); clear hx)
  go_loopw [7] (fun i wr => ∃ k : Nat, k ≤ r ∧ i = .int .i64 (k : Int) ∧ Hid (∀ j, j < k → seenB (q.getD j 0) = true) ∧ w3 = wr) (fun i _ => r - (intOf i).toNat)
  case atStart => exact ⟨0, Nat.zero_le _, rfl, fun j hj => absurd hj (by omega), rfl⟩
  case round =>
    obtain ⟨k, hk, rfl, H, rfl⟩ := hrel
    by_cases hlt : k < r
    · have hlt' : (k : Int) < (r : Int) := by omega
      have hi := run_index_str (P := Tryd.prog) w3 9 q .i64 k Tryd.underlying9 (by rw [HLq.out]; exact hlt)
      have HN := Lib.hid (fun (hp : seenB (q.getD k 0) = true) => (fun j hj => by
        rcases Nat.lt_succ_iff_lt_or_eq.1 hj with h | rfl
        · exact H.out j h
        · exact hp : ∀ j, j < k + 1 → seenB (q.getD j 0) = true))
      have hs : seenB (q.getD k 0) = (decide (33 ≤ (q.getD k 0).toNat) && decide ((q.getD k 0).toNat ≤ 126)) := rfl
      generalize seenB (q.getD k 0) = tt at *
      generalize (q.getD k 0).toNat = x at *
      by_cases c1 : 33 ≤ x
      · by_cases c2 : x ≤ 126
        · have d1 : ¬ (x : Int) < 33 := by omega
          have d2 : ¬ (126 : Int) < (x : Int) := by omega
          have HN2 := Lib.hid (HN.out (by rw [hs, decide_eq_true c1, decide_eq_true c2]; rfl))
          clear HN hs
          go_wp2
          go_roundw
          case rel => exact ⟨k + 1, by omega, by go_num, HN2.out, by first | rfl | trivial⟩
          case measure => simp [intOf]; omega
        · have d1 : ¬ (x : Int) < 33 := by omega
          have d2 : (126 : Int) < (x : Int) := by omega
          clear HN hs
          go_wp2_with (go_at_call 6; (with_reducible refine (HA _ (hT.below hb)).mono ?_); rintro e w7 ⟨rfl, hx⟩; have hb := hb.trans (hx.mono hb.size); clear hx)
          go_ret
          exact ⟨rfl, hb⟩
      · have d1 : (x : Int) < 33 := by omega
        clear HN hs
        go_wp2_with (go_at_call 6; (with_reducible refine (HA _ (hT.below hb)).mono ?_); rintro e w7 ⟨rfl, hx⟩; have hb := hb.trans (hx.mono hb.size); clear hx)
        go_ret
        exact ⟨rfl, hb⟩
    · obtain rfl : k = r := by omega
      have HQ : Hid (q.all seenB = true) := all_yes (by rw [HLq.out]; exact H.out)
      have a1 := fun (w : World) => run_add_str (P := Tryd.prog) w [104, 116, 116, 112, 58, 47, 47] h (by have := HLh.out; simp; omega)
      have a2 := fun (w : World) => run_add_str (P := Tryd.prog) w ([104, 116, 116, 112, 58, 47, 47] ++ h) [58] (by have := HLh.out; simp; omega)
      have a3 := fun (w : World) => run_add_str (P := Tryd.prog) w [104, 116, 116, 112, 115, 58, 47, 47] h (by have := HLh.out; simp; omega)
      have a4 := fun (w : World) => run_add_str (P := Tryd.prog) w ([104, 116, 116, 112, 115, 58, 47, 47] ++ h) [58] (by have := HLh.out; simp; omega)
      have o1 : str [104, 116, 116, 112, 58, 47, 47] = { data := #[104, 116, 116, 112, 58, 47, 47] } := rfl
      have o2 : str [58] = { data := #[58] } := rfl
      have o3 : str [104, 116, 116, 112, 115, 58, 47, 47] = { data := #[104, 116, 116, 112, 115, 58, 47, 47] } := rfl
      rw [o1] at a1
      rw [o3] at a3
      rw [o2] at a2 a4
      obtain ⟨T1, hT1⟩ : ∃ T1, [104, 116, 116, 112, 58, 47, 47] ++ h = T1 := ⟨_, rfl⟩
      obtain ⟨T2, hT2⟩ : ∃ T2, [104, 116, 116, 112, 115, 58, 47, 47] ++ h = T2 := ⟨_, rfl⟩
      rw [hT1] at a1 a2
      rw [hT2] at a3 a4
      have hTl1 : T1.length ≤ 400 := by have := HLh.out; rw [← hT1]; simp; omega
      have hTl2 : T2.length ≤ 400 := by have := HLh.out; rw [← hT2]; simp; omega
      have HT1 := Lib.hid hT1
      have HT2 := Lib.hid hT2
      clear o1 o2 o3 H hT1 hT2
      cases sec
      · obtain ⟨S, hS⟩ : ∃ S, T1 ++ [58] = S := ⟨_, rfl⟩
        rw [hS] at a2
        clear a3 a4
        have hSl : S.length ≤ 500 := by rw [← hS, List.length_append]; simp; omega
        have HS := Lib.hid hS
        clear hS
        go_wp2
        go_loopw [8, 9] (fun v n wr => ∃ j : Nat, j ≤ 5 ∧ v = .string (str (S ++ (fiveL M).take j)) ∧ n = .int .i64 (tenN j : Int) ∧ Below w3.heap.size w3 wr) (fun _ n _ => (intOf n).toNat)
        case atStart => exact ⟨0, by omega, by rw [List.take_zero, List.append_nil], rfl, Below.refl _ _⟩
        case round =>
          obtain ⟨j, hj, rfl, rfl, hbr⟩ := hrel
          have hbs := hbr.size
          have HB := Lib.hid hbr
          rcases (show j = 0 ∨ j = 1 ∨ j = 2 ∨ j = 3 ∨ j = 4 ∨ j = 5 by omega) with rfl | rfl | rfl | rfl | rfl | rfl
          · obtain ⟨d, hd⟩ : ∃ d, M / 10000 % 10 = d := ⟨_, rfl⟩
            have hd9 : d < 10 := by omega
            have hd2 : (M : Int) / 10000 % 10 = (d : Int) := by omega
            have hdt := digit_toNat d hd9
            have h2 := one_back (P := Tryd.prog) wr 33 9 5 (UInt8.ofNat (48 + d)) (48 + (d : Int)) (by rw [hdt]; push_cast; rfl) Tryd.underlying33 Tryd.underlying5 Tryd.underlying9
            have HT : Hid ((fiveL M).take 0 ++ [UInt8.ofNat (48 + d)] = (fiveL M).take 1) := by unfold Hid; rw [← hd]; rfl
            have htl : ((fiveL M).take 0).length ≤ 5 := by rw [List.length_take]; omega
            generalize UInt8.ofNat (48 + d) = y at *
            generalize (fiveL M).take 0 = ys at *
            have ha := fun (w : World) => run_add_str (P := Tryd.prog) w (S ++ ys) [y] (by simp; omega)
            have et : tenN 0 = 10000 := rfl
            rw [et]
            clear hd hdt hbr et
            go_wp2
            go_roundw
            case rel => exact ⟨1, by omega, by rw [← HT.out], rfl, HB.out.alloc hbs _⟩
            case measure => simp [intOf]
          · obtain ⟨d, hd⟩ : ∃ d, M / 1000 % 10 = d := ⟨_, rfl⟩
            have hd9 : d < 10 := by omega
            have hd2 : (M : Int) / 1000 % 10 = (d : Int) := by omega
            have hdt := digit_toNat d hd9
            have h2 := one_back (P := Tryd.prog) wr 33 9 5 (UInt8.ofNat (48 + d)) (48 + (d : Int)) (by rw [hdt]; push_cast; rfl) Tryd.underlying33 Tryd.underlying5 Tryd.underlying9
            have HT : Hid ((fiveL M).take 1 ++ [UInt8.ofNat (48 + d)] = (fiveL M).take 2) := by unfold Hid; rw [← hd]; rfl
            have htl : ((fiveL M).take 1).length ≤ 5 := by rw [List.length_take]; omega
            generalize UInt8.ofNat (48 + d) = y at *
            generalize (fiveL M).take 1 = ys at *
            have ha := fun (w : World) => run_add_str (P := Tryd.prog) w (S ++ ys) [y] (by simp; omega)
            have et : tenN 1 = 1000 := rfl
            rw [et]
            clear hd hdt hbr et
            go_wp2
            go_roundw
            case rel => exact ⟨2, by omega, by rw [← HT.out], rfl, HB.out.alloc hbs _⟩
            case measure => simp [intOf]
          · obtain ⟨d, hd⟩ : ∃ d, M / 100 % 10 = d := ⟨_, rfl⟩
            have hd9 : d < 10 := by omega
            have hd2 : (M : Int) / 100 % 10 = (d : Int) := by omega
            have hdt := digit_toNat d hd9
            have h2 := one_back (P := Tryd.prog) wr 33 9 5 (UInt8.ofNat (48 + d)) (48 + (d : Int)) (by rw [hdt]; push_cast; rfl) Tryd.underlying33 Tryd.underlying5 Tryd.underlying9
            have HT : Hid ((fiveL M).take 2 ++ [UInt8.ofNat (48 + d)] = (fiveL M).take 3) := by unfold Hid; rw [← hd]; rfl
            have htl : ((fiveL M).take 2).length ≤ 5 := by rw [List.length_take]; omega
            generalize UInt8.ofNat (48 + d) = y at *
            generalize (fiveL M).take 2 = ys at *
            have ha := fun (w : World) => run_add_str (P := Tryd.prog) w (S ++ ys) [y] (by simp; omega)
            have et : tenN 2 = 100 := rfl
            rw [et]
            clear hd hdt hbr et
            go_wp2
            go_roundw
            case rel => exact ⟨3, by omega, by rw [← HT.out], rfl, HB.out.alloc hbs _⟩
            case measure => simp [intOf]
          · obtain ⟨d, hd⟩ : ∃ d, M / 10 % 10 = d := ⟨_, rfl⟩
            have hd9 : d < 10 := by omega
            have hd2 : (M : Int) / 10 % 10 = (d : Int) := by omega
            have hdt := digit_toNat d hd9
            have h2 := one_back (P := Tryd.prog) wr 33 9 5 (UInt8.ofNat (48 + d)) (48 + (d : Int)) (by rw [hdt]; push_cast; rfl) Tryd.underlying33 Tryd.underlying5 Tryd.underlying9
            have HT : Hid ((fiveL M).take 3 ++ [UInt8.ofNat (48 + d)] = (fiveL M).take 4) := by unfold Hid; rw [← hd]; rfl
            have htl : ((fiveL M).take 3).length ≤ 5 := by rw [List.length_take]; omega
            generalize UInt8.ofNat (48 + d) = y at *
            generalize (fiveL M).take 3 = ys at *
            have ha := fun (w : World) => run_add_str (P := Tryd.prog) w (S ++ ys) [y] (by simp; omega)
            have et : tenN 3 = 10 := rfl
            rw [et]
            clear hd hdt hbr et
            go_wp2
            go_roundw
            case rel => exact ⟨4, by omega, by rw [← HT.out], rfl, HB.out.alloc hbs _⟩
            case measure => simp [intOf]
          · obtain ⟨d, hd⟩ : ∃ d, M % 10 = d := ⟨_, rfl⟩
            have hd9 : d < 10 := by omega
            have hd2 : (M : Int) % 10 = (d : Int) := by omega
            have hdt := digit_toNat d hd9
            have h2 := one_back (P := Tryd.prog) wr 33 9 5 (UInt8.ofNat (48 + d)) (48 + (d : Int)) (by rw [hdt]; push_cast; rfl) Tryd.underlying33 Tryd.underlying5 Tryd.underlying9
            have HT : Hid ((fiveL M).take 4 ++ [UInt8.ofNat (48 + d)] = (fiveL M).take 5) := by unfold Hid; rw [← hd]; rfl
            have htl : ((fiveL M).take 4).length ≤ 5 := by rw [List.length_take]; omega
            generalize UInt8.ofNat (48 + d) = y at *
            generalize (fiveL M).take 4 = ys at *
            have ha := fun (w : World) => run_add_str (P := Tryd.prog) w (S ++ ys) [y] (by simp; omega)
            have et : tenN 4 = 1 := rfl
            rw [et]
            clear hd hdt hbr et
            go_wp2
            go_roundw
            case rel => exact ⟨5, by omega, by rw [← HT.out], rfl, HB.out.alloc hbs _⟩
            case measure => simp [intOf]
          · have et : tenN 5 = 0 := rfl
            have e5 : (fiveL M).take 5 = fiveL M := rfl
            rw [et, e5]
            obtain ⟨U1, hU1⟩ : ∃ U, S ++ fiveL M = U := ⟨_, rfl⟩
            obtain ⟨U2, hU2⟩ : ∃ U, U1 ++ p = U := ⟨_, rfl⟩
            obtain ⟨U3, hU3⟩ : ∃ U, U2 ++ [63] = U := ⟨_, rfl⟩
            obtain ⟨U4, hU4⟩ : ∃ U, U3 ++ q = U := ⟨_, rfl⟩
            have l1 : U1.length ≤ 505 := by rw [← hU1, List.length_append]; simp [fiveL]; omega
            have l2 : U2.length ≤ 900 := by rw [← hU2, List.length_append]; have := HLp.out; omega
            have l3 : U3.length ≤ 901 := by rw [← hU3, List.length_append]; simp; omega
            have a5 := fun (w : World) => run_add_str (P := Tryd.prog) w U1 p (by have := HLp.out; omega)
            have a6 := fun (w : World) => run_add_str (P := Tryd.prog) w U2 [63] (by simp; omega)
            have a7 := fun (w : World) => run_add_str (P := Tryd.prog) w U3 q (by have := HLq.out; omega)
            have o4 : str [63] = { data := #[63] } := rfl
            rw [hU2] at a5
            rw [hU3, o4] at a6
            rw [hU4] at a7
            have hL : U4 = schemeL false ++ ([58, 47, 47] ++ (h ++ ((58 :: fiveL M) ++ (p ++ (63 :: q))))) := by
              rw [← hU4, ← hU3, ← hU2, ← hU1, ← HS.out, ← HT1.out]
              simp [schemeL]
            have hLl : U4.length ≤ 1024 := by
              rw [hL]
              have := HLh.out
              have := HLp.out
              have := HLq.out
              simp [schemeL, fiveL]
              omega
            have hpr := parse_right (pt := 58 :: fiveL M) (q := 63 :: q) HRR.out (.inr ⟨_, rfl⟩) (port_five M hM) (fun x hx => (five_seen M x hx).1) (List.all_eq_true.2 fun x hx => (five_seen M x hx).2) (.inr ⟨_, rfl⟩) (by rw [List.all_cons, HQ.out]; decide +kernel) (by rw [← hL]; exact hLl)
            rw [← hL] at hpr
            have HP := fun w (hp : PTab Tryd.prog w) => uriParseC U4 _ w rfl (by omega) hp
            rw [hpr] at HP
            unfold reqV at HP
            simp only [] at HP
            rw [hU1]
            have f3 := free_below f3 hbr (cell_lt k3)
            have k0 := (hbr.cell (cell_lt k0)).trans k0
            have k1 := (hbr.cell (cell_lt k1)).trans k1
            have k2 := (hbr.cell (cell_lt k2)).trans k2
            have k3 := (hbr.cell (cell_lt k3)).trans k3
            have hb := hb.trans (hbr.mono hb.size)
            clear hU1 hU2 hU3 hU4 hL hLl hpr o4 hbr l1 l2 l3 e5 et
            go_wp2_with (first
              | (go_at_call 7; (with_reducible refine (HP _ (hT.below hb)).mono ?_); rintro e w4 ⟨rfl, hx⟩; have hlt := Nat.lt_of_lt_of_le (cell_lt k3) hx.size; have g3 := free_below f3 hx (cell_lt k3); have f3 := free_alloc g3 (.cells #[.string (str h), .string (str p), .bool false, .bool false] 24) hlt; have m0 := (hx.cell (cell_lt k0)).trans k0; have m1 := (hx.cell (cell_lt k1)).trans k1; have m2 := (hx.cell (cell_lt k2)).trans k2; have m3 := (hx.cell (cell_lt k3)).trans k3; have k3 := cell_alloc m3 (.cells #[.string (str h), .string (str p), .bool false, .bool false] 24); obtain ⟨z0, z1, z2, z3, q0, q1, q2, q3⟩ := put_cells w4 w.heap.size m0 m1 m2 m3 (.string (str h)) (.string (str p)) (.bool false) (.bool false) 24; have hb := ((hb.trans (hx.mono hb.size)).setCell (p := ⟨w.heap.size, 3, none⟩) (Nat.le_refl _) (.bool false)).alloc ((hb.trans (hx.mono hb.size)).setCell (p := ⟨w.heap.size, 3, none⟩) (Nat.le_refl _) (.bool false)).size (.cells #[.string (str h), .string (str p), .bool false, .bool false] 24); clear hx)
              | (go_at_call 6; (with_reducible refine (HA _ (hT.below hb)).mono ?_); rintro e w7 ⟨rfl, hx⟩; have hb := hb.trans (hx.mono hb.size); clear hx))
            go_ret
            exact ⟨rfl, hb⟩
      · obtain ⟨S, hS⟩ : ∃ S, T2 ++ [58] = S := ⟨_, rfl⟩
        rw [hS] at a4
        obtain ⟨S1, hS1⟩ : ∃ S1, T1 ++ [58] = S1 := ⟨_, rfl⟩
        rw [hS1] at a2
        clear hS1
        have hSl : S.length ≤ 500 := by rw [← hS, List.length_append]; simp; omega
        have HS := Lib.hid hS
        clear hS
        go_wp2
        go_loopw [8, 9] (fun v n wr => ∃ j : Nat, j ≤ 5 ∧ v = .string (str (S ++ (fiveL M).take j)) ∧ n = .int .i64 (tenN j : Int) ∧ Below w3.heap.size w3 wr) (fun _ n _ => (intOf n).toNat)
        case atStart => exact ⟨0, by omega, by rw [List.take_zero, List.append_nil], rfl, Below.refl _ _⟩
        case round =>
          obtain ⟨j, hj, rfl, rfl, hbr⟩ := hrel
          have hbs := hbr.size
          have HB := Lib.hid hbr
          rcases (show j = 0 ∨ j = 1 ∨ j = 2 ∨ j = 3 ∨ j = 4 ∨ j = 5 by omega) with rfl | rfl | rfl | rfl | rfl | rfl
          · obtain ⟨d, hd⟩ : ∃ d, M / 10000 % 10 = d := ⟨_, rfl⟩
            have hd9 : d < 10 := by omega
            have hd2 : (M : Int) / 10000 % 10 = (d : Int) := by omega
            have hdt := digit_toNat d hd9
            have h2 := one_back (P := Tryd.prog) wr 33 9 5 (UInt8.ofNat (48 + d)) (48 + (d : Int)) (by rw [hdt]; push_cast; rfl) Tryd.underlying33 Tryd.underlying5 Tryd.underlying9
            have HT : Hid ((fiveL M).take 0 ++ [UInt8.ofNat (48 + d)] = (fiveL M).take 1) := by unfold Hid; rw [← hd]; rfl
            have htl : ((fiveL M).take 0).length ≤ 5 := by rw [List.length_take]; omega
            generalize UInt8.ofNat (48 + d) = y at *
            generalize (fiveL M).take 0 = ys at *
            have ha := fun (w : World) => run_add_str (P := Tryd.prog) w (S ++ ys) [y] (by simp; omega)
            have et : tenN 0 = 10000 := rfl
            rw [et]
            clear hd hdt hbr et
            go_wp2
            go_roundw
            case rel => exact ⟨1, by omega, by rw [← HT.out], rfl, HB.out.alloc hbs _⟩
            case measure => simp [intOf]
          · obtain ⟨d, hd⟩ : ∃ d, M / 1000 % 10 = d := ⟨_, rfl⟩
            have hd9 : d < 10 := by omega
            have hd2 : (M : Int) / 1000 % 10 = (d : Int) := by omega
            have hdt := digit_toNat d hd9
            have h2 := one_back (P := Tryd.prog) wr 33 9 5 (UInt8.ofNat (48 + d)) (48 + (d : Int)) (by rw [hdt]; push_cast; rfl) Tryd.underlying33 Tryd.underlying5 Tryd.underlying9
            have HT : Hid ((fiveL M).take 1 ++ [UInt8.ofNat (48 + d)] = (fiveL M).take 2) := by unfold Hid; rw [← hd]; rfl
            have htl : ((fiveL M).take 1).length ≤ 5 := by rw [List.length_take]; omega
            generalize UInt8.ofNat (48 + d) = y at *
            generalize (fiveL M).take 1 = ys at *
            have ha := fun (w : World) => run_add_str (P := Tryd.prog) w (S ++ ys) [y] (by simp; omega)
            have et : tenN 1 = 1000 := rfl
            rw [et]
            clear hd hdt hbr et
            go_wp2
            go_roundw
            case rel => exact ⟨2, by omega, by rw [← HT.out], rfl, HB.out.alloc hbs _⟩
            case measure => simp [intOf]
          · obtain ⟨d, hd⟩ : ∃ d, M / 100 % 10 = d := ⟨_, rfl⟩
            have hd9 : d < 10 := by omega
            have hd2 : (M : Int) / 100 % 10 = (d : Int) := by omega
            have hdt := digit_toNat d hd9
            have h2 := one_back (P := Tryd.prog) wr 33 9 5 (UInt8.ofNat (48 + d)) (48 + (d : Int)) (by rw [hdt]; push_cast; rfl) Tryd.underlying33 Tryd.underlying5 Tryd.underlying9
            have HT : Hid ((fiveL M).take 2 ++ [UInt8.ofNat (48 + d)] = (fiveL M).take 3) := by unfold Hid; rw [← hd]; rfl
            have htl : ((fiveL M).take 2).length ≤ 5 := by rw [List.length_take]; omega
            generalize UInt8.ofNat (48 + d) = y at *
            generalize (fiveL M).take 2 = ys at *
            have ha := fun (w : World) => run_add_str (P := Tryd.prog) w (S ++ ys) [y] (by simp; omega)
            have et : tenN 2 = 100 := rfl
            rw [et]
            clear hd hdt hbr et
            go_wp2
            go_roundw
            case rel => exact ⟨3, by omega, by rw [← HT.out], rfl, HB.out.alloc hbs _⟩
            case measure => simp [intOf]
          · obtain ⟨d, hd⟩ : ∃ d, M / 10 % 10 = d := ⟨_, rfl⟩
            have hd9 : d < 10 := by omega
            have hd2 : (M : Int) / 10 % 10 = (d : Int) := by omega
            have hdt := digit_toNat d hd9
            have h2 := one_back (P := Tryd.prog) wr 33 9 5 (UInt8.ofNat (48 + d)) (48 + (d : Int)) (by rw [hdt]; push_cast; rfl) Tryd.underlying33 Tryd.underlying5 Tryd.underlying9
            have HT : Hid ((fiveL M).take 3 ++ [UInt8.ofNat (48 + d)] = (fiveL M).take 4) := by unfold Hid; rw [← hd]; rfl
            have htl : ((fiveL M).take 3).length ≤ 5 := by rw [List.length_take]; omega
            generalize UInt8.ofNat (48 + d) = y at *
            generalize (fiveL M).take 3 = ys at *
            have ha := fun (w : World) => run_add_str (P := Tryd.prog) w (S ++ ys) [y] (by simp; omega)
            have et : tenN 3 = 10 := rfl
            rw [et]
            clear hd hdt hbr et
            go_wp2
            go_roundw
            case rel => exact ⟨4, by omega, by rw [← HT.out], rfl, HB.out.alloc hbs _⟩
            case measure => simp [intOf]
          · obtain ⟨d, hd⟩ : ∃ d, M % 10 = d := ⟨_, rfl⟩
            have hd9 : d < 10 := by omega
            have hd2 : (M : Int) % 10 = (d : Int) := by omega
            have hdt := digit_toNat d hd9
            have h2 := one_back (P := Tryd.prog) wr 33 9 5 (UInt8.ofNat (48 + d)) (48 + (d : Int)) (by rw [hdt]; push_cast; rfl) Tryd.underlying33 Tryd.underlying5 Tryd.underlying9
            have HT : Hid ((fiveL M).take 4 ++ [UInt8.ofNat (48 + d)] = (fiveL M).take 5) := by unfold Hid; rw [← hd]; rfl
            have htl : ((fiveL M).take 4).length ≤ 5 := by rw [List.length_take]; omega
            generalize UInt8.ofNat (48 + d) = y at *
            generalize (fiveL M).take 4 = ys at *
            have ha := fun (w : World) => run_add_str (P := Tryd.prog) w (S ++ ys) [y] (by simp; omega)
            have et : tenN 4 = 1 := rfl
            rw [et]
            clear hd hdt hbr et
            go_wp2
            go_roundw
            case rel => exact ⟨5, by omega, by rw [← HT.out], rfl, HB.out.alloc hbs _⟩
            case measure => simp [intOf]
          · have et : tenN 5 = 0 := rfl
            have e5 : (fiveL M).take 5 = fiveL M := rfl
            rw [et, e5]
            obtain ⟨U1, hU1⟩ : ∃ U, S ++ fiveL M = U := ⟨_, rfl⟩
            obtain ⟨U2, hU2⟩ : ∃ U, U1 ++ p = U := ⟨_, rfl⟩
            obtain ⟨U3, hU3⟩ : ∃ U, U2 ++ [63] = U := ⟨_, rfl⟩
            obtain ⟨U4, hU4⟩ : ∃ U, U3 ++ q = U := ⟨_, rfl⟩
            have l1 : U1.length ≤ 505 := by rw [← hU1, List.length_append]; simp [fiveL]; omega
            have l2 : U2.length ≤ 900 := by rw [← hU2, List.length_append]; have := HLp.out; omega
            have l3 : U3.length ≤ 901 := by rw [← hU3, List.length_append]; simp; omega
            have a5 := fun (w : World) => run_add_str (P := Tryd.prog) w U1 p (by have := HLp.out; omega)
            have a6 := fun (w : World) => run_add_str (P := Tryd.prog) w U2 [63] (by simp; omega)
            have a7 := fun (w : World) => run_add_str (P := Tryd.prog) w U3 q (by have := HLq.out; omega)
            have o4 : str [63] = { data := #[63] } := rfl
            rw [hU2] at a5
            rw [hU3, o4] at a6
            rw [hU4] at a7
            have hL : U4 = schemeL true ++ ([58, 47, 47] ++ (h ++ ((58 :: fiveL M) ++ (p ++ (63 :: q))))) := by
              rw [← hU4, ← hU3, ← hU2, ← hU1, ← HS.out, ← HT2.out]
              simp [schemeL]
            have hLl : U4.length ≤ 1024 := by
              rw [hL]
              have := HLh.out
              have := HLp.out
              have := HLq.out
              simp [schemeL, fiveL]
              omega
            have hpr := parse_right (pt := 58 :: fiveL M) (q := 63 :: q) HRR.out (.inr ⟨_, rfl⟩) (port_five M hM) (fun x hx => (five_seen M x hx).1) (List.all_eq_true.2 fun x hx => (five_seen M x hx).2) (.inr ⟨_, rfl⟩) (by rw [List.all_cons, HQ.out]; decide +kernel) (by rw [← hL]; exact hLl)
            rw [← hL] at hpr
            have HP := fun w (hp : PTab Tryd.prog w) => uriParseC U4 _ w rfl (by omega) hp
            rw [hpr] at HP
            unfold reqV at HP
            simp only [] at HP
            rw [hU1]
            have f3 := free_below f3 hbr (cell_lt k3)
            have k0 := (hbr.cell (cell_lt k0)).trans k0
            have k1 := (hbr.cell (cell_lt k1)).trans k1
            have k2 := (hbr.cell (cell_lt k2)).trans k2
            have k3 := (hbr.cell (cell_lt k3)).trans k3
            have hb := hb.trans (hbr.mono hb.size)
            clear hU1 hU2 hU3 hU4 hL hLl hpr o4 hbr l1 l2 l3 e5 et
            go_wp2_with (first
              | (go_at_call 7; (with_reducible refine (HP _ (hT.below hb)).mono ?_); rintro e w4 ⟨rfl, hx⟩; have hlt := Nat.lt_of_lt_of_le (cell_lt k3) hx.size; have g3 := free_below f3 hx (cell_lt k3); have f3 := free_alloc g3 (.cells #[.string (str h), .string (str p), .bool true, .bool false] 24) hlt; have m0 := (hx.cell (cell_lt k0)).trans k0; have m1 := (hx.cell (cell_lt k1)).trans k1; have m2 := (hx.cell (cell_lt k2)).trans k2; have m3 := (hx.cell (cell_lt k3)).trans k3; have k3 := cell_alloc m3 (.cells #[.string (str h), .string (str p), .bool true, .bool false] 24); obtain ⟨z0, z1, z2, z3, q0, q1, q2, q3⟩ := put_cells w4 w.heap.size m0 m1 m2 m3 (.string (str h)) (.string (str p)) (.bool true) (.bool false) 24; have hb := ((hb.trans (hx.mono hb.size)).setCell (p := ⟨w.heap.size, 3, none⟩) (Nat.le_refl _) (.bool false)).alloc ((hb.trans (hx.mono hb.size)).setCell (p := ⟨w.heap.size, 3, none⟩) (Nat.le_refl _) (.bool false)).size (.cells #[.string (str h), .string (str p), .bool true, .bool false] 24); clear hx)
              | (go_at_call 6; (with_reducible refine (HA _ (hT.below hb)).mono ?_); rintro e w7 ⟨rfl, hx⟩; have hb := hb.trans (hx.mono hb.size); clear hx))
            go_ret
            exact ⟨rfl, hb⟩
end Go.Proofs.YtgaodaimkojmhaaDoor
