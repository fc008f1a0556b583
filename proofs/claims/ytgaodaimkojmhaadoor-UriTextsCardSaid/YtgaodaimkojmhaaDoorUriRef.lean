/- Contracts of the reference of layer 10: bytes, places, ports. -/
import Derived.Test.YtgaodaimkojmhaaDoorUriPlain
import Derived.Test.YtgaodaimkojmhaaDoorHostRef4
import Derived.Test.YtgaodaimkojmhaaDoorAsciiRef3
namespace Go.Proofs.YtgaodaimkojmhaaDoor
open Go.RowKit
set_option linter.unusedVariables false

set_option maxRecDepth 100000 in
theorem refVisibleC (l : List UInt8) (n : Nat) (w : World) (hl : l.length = n) (hm : n ≤ maxLen) :
    Calls Tryd.prog 22 #[.string (str l)] w fun e w' => e = .returned (.bool (l.all seenB)) ∧ w = w' := by
  have hsz : (str l).size = n := by rw [str_size, hl]
  unfold maxLen at hm
  have HL := Lib.hid hl
  clear hl
  have HR : Hid (∀ k, k < n → seenB (l.getD k 0) = false → l.all seenB = false) := fun k hk h => all_no (by rw [HL.out]; exact hk) h
  have HY : Hid ((∀ j, j < n → seenB (l.getD j 0) = true) → l.all seenB = true) := fun h => all_yes (by rw [HL.out]; exact h)
  generalize l.all seenB = R at *
  go_enter Tryd.func22, Tryd.ntmps22
  go_wp2
  go_loopw [3] (fun i wr => ∃ k : Nat, k ≤ n ∧ i = .int .i64 (k : Int) ∧ Hid (∀ j, j < k → seenB (l.getD j 0) = true) ∧ w = wr) (fun i _ => n - (intOf i).toNat)
  case atStart => exact ⟨0, Nat.zero_le _, rfl, fun j hj => absurd hj (by omega), rfl⟩
  case round =>
    obtain ⟨k, hk, rfl, H, rfl⟩ := hrel
    by_cases hlt : k < n
    · have hlt' : (k : Int) < (n : Int) := by omega
      have hi := run_index_str (P := Tryd.prog) w 9 l .i64 k Tryd.underlying9 (by rw [HL.out]; exact hlt)
      have HN := Lib.hid (fun (hp : seenB (l.getD k 0) = true) => (fun j hj => by
        rcases Nat.lt_succ_iff_lt_or_eq.1 hj with h | rfl
        · exact H.out j h
        · exact hp : ∀ j, j < k + 1 → seenB (l.getD j 0) = true))
      have HF := Lib.hid (HR.out k hlt)
      have hs : seenB (l.getD k 0) = (decide (33 ≤ (l.getD k 0).toNat) && decide ((l.getD k 0).toNat ≤ 126)) := rfl
      generalize seenB (l.getD k 0) = t at *
      generalize (l.getD k 0).toNat = x at *
      clear HR HY
      by_cases h1 : 33 ≤ x
      · by_cases h2 : x ≤ 126
        · have c1 : ¬ (x : Int) < 33 := by omega
          have c2 : ¬ (126 : Int) < (x : Int) := by omega
          have HN2 := Lib.hid (HN.out (by rw [hs, decide_eq_true h1, decide_eq_true h2]; rfl))
          clear HN HF hs
          go_wp2
          go_roundw
          case rel => exact ⟨k + 1, by omega, by go_num, HN2.out, by first | rfl | trivial⟩
          case measure => simp [intOf]; omega
        · have c1 : ¬ (x : Int) < 33 := by omega
          have c2 : (126 : Int) < (x : Int) := by omega
          have HF2 := Lib.hid (HF.out (by rw [hs, decide_eq_false h2, Bool.and_false]))
          clear HN HF hs
          go_wp2
          go_ret
          exact ⟨by rw [HF2.out]; rfl, rfl⟩
      · have c1 : (x : Int) < 33 := by omega
        have HF2 := Lib.hid (HF.out (by rw [hs, decide_eq_false h1, Bool.false_and]))
        clear HN HF hs
        go_wp2
        go_ret
        exact ⟨by rw [HF2.out]; rfl, rfl⟩
    · obtain rfl : k = n := by omega
      have HE := Lib.hid (HY.out H.out)
      go_wp2
      go_ret
      exact ⟨by rw [HE.out]; rfl, rfl⟩

theorem find_in (l : List UInt8) (c : UInt8) : decide (0 ≤ findL l c) = l.contains c := by
  unfold findL
  have hle : l.findIdx (· == c) ≤ l.length := List.findIdx_le_length
  have hmem : (l.findIdx (· == c) < l.length) ↔ c ∈ l := by
    rw [List.findIdx_lt_length]
    constructor
    · rintro ⟨x, hx, hp⟩
      have := beq_iff_eq.1 hp
      subst this
      exact hx
    · intro h
      exact ⟨c, h, by simp⟩
  rw [Bool.eq_iff_iff, decide_eq_true_iff, List.contains_iff_mem, ← hmem]
  split
  · rename_i h
    rw [h]
    constructor
    · intro c; omega
    · intro c; omega
  · rename_i h
    constructor
    · intro _; omega
    · intro _; omega

set_option maxRecDepth 100000 in
theorem refUFindC (l s : List UInt8) (n m : Nat) (w : World) (hl : l.length = n) (hm : n ≤ maxLen) (hl2 : s.length = m) (hm2 : m ≤ maxLen) :
    Calls Tryd.prog 24 #[.string (str l), .string (str s)] w fun e w' => e = .returned (.int .i64 (findS l s : Int)) ∧ w = w' := by
  have hsz : (str l).size = n := by rw [str_size, hl]
  have HFi := fun c w => refFindC s c m w hl2 hm2
  have HC := fun c => find_in s c
  unfold maxLen at hm
  have HL := Lib.hid hl
  clear hl hl2 hm2
  have HR : Hid (∀ k, k < n → (∀ j, j < k → s.contains (l.getD j 0) = false) → s.contains (l.getD k 0) = true → findS l s = k) := fun k hk h hp => by
    unfold findS
    exact findIdx_at (p := fun x => s.contains x) h (by rw [HL.out]; exact hk) hp
  have HY : Hid ((∀ j, j < n → s.contains (l.getD j 0) = false) → findS l s = n) := fun h => by
    unfold findS
    rw [findIdx_end (p := fun x => s.contains x) (by rw [HL.out]; exact h), HL.out]
  generalize findS l s = R at *
  go_enter Tryd.func24, Tryd.ntmps24
  go_wp2
  go_loopw [5] (fun i wr => ∃ k : Nat, k ≤ n ∧ i = .int .i64 (k : Int) ∧ Hid (∀ j, j < k → s.contains (l.getD j 0) = false) ∧ w = wr) (fun i _ => n - (intOf i).toNat)
  case atStart => exact ⟨0, Nat.zero_le _, rfl, fun j hj => absurd hj (by omega), rfl⟩
  case round =>
    obtain ⟨k, hk, rfl, H, rfl⟩ := hrel
    by_cases hlt : k < n
    · have hlt' : (k : Int) < (n : Int) := by omega
      have hi := run_index_str (P := Tryd.prog) w 9 l .i64 k Tryd.underlying9 (by rw [HL.out]; exact hlt)
      have HN := Lib.hid (fun (hp : s.contains (l.getD k 0) = false) => (fun j hj => by
        rcases Nat.lt_succ_iff_lt_or_eq.1 hj with h | rfl
        · exact H.out j h
        · exact hp : ∀ j, j < k + 1 → s.contains (l.getD j 0) = false))
      have HF := Lib.hid (HR.out k hlt H.out)
      have hc := HC (l.getD k 0)
      have hf := HFi (l.getD k 0)
      generalize s.contains (l.getD k 0) = t at *
      generalize findL s (l.getD k 0) = v at *
      generalize l.getD k 0 = x at hi hf
      clear HR HY HC HFi
      cases t
      · have c1 : ¬ (0 : Int) ≤ v := of_decide_eq_false hc
        have HN2 := Lib.hid (HN.out rfl)
        clear HN HF hc
        go_wp2_with (go_at_call 39; (with_reducible refine (hf _).mono ?_); rintro e w1 ⟨rfl, rfl⟩)
        go_roundw
        case rel => exact ⟨k + 1, by omega, by go_num, HN2.out, by first | rfl | trivial⟩
        case measure => simp [intOf]; omega
      · have c1 : (0 : Int) ≤ v := of_decide_eq_true hc
        have HF2 := Lib.hid (HF.out rfl)
        clear HN HF hc
        go_wp2_with (go_at_call 39; (with_reducible refine (hf _).mono ?_); rintro e w1 ⟨rfl, rfl⟩)
        go_ret
        exact ⟨by rw [HF2.out]; rfl, rfl⟩
    · obtain rfl : k = n := by omega
      have HE := Lib.hid (HY.out H.out)
      clear HR HY HC HFi
      go_wp2
      go_ret
      exact ⟨by rw [HE.out]; rfl, rfl⟩

set_option maxRecDepth 100000 in
theorem refWordC (l : List UInt8) (n : Nat) (w : World) (hl : l.length = n) (hm : n ≤ 1000000000) :
    Calls Tryd.prog 21 #[.string (str l)] w fun e w' => e = .returned (.int .i64 (if hasWord l = true then (wordN l : Int) else -1)) ∧ w = w' := by
  have hsz : (str l).size = n := by rw [str_size, hl]
  have hx : ∀ k, (str l).extract k (k + 3) = str ((l.drop k).take 3) := fun k => by rw [str_extract, Nat.add_sub_cancel_left]
  have hk := str_toList
  have e3 : ({ data := #[58, 47, 47] } : ByteArray) = str [58, 47, 47] := rfl
  obtain ⟨G, hG⟩ : ∃ G : Int, (if hasWord l = true then (wordN l : Int) else -1) = G := ⟨_, rfl⟩
  rw [hG]
  have HR : Hid (∀ k, k < n - 2 → (∀ j, j < k → wordAt l j = false) → wordAt l k = true → G = (k : Int)) := fun k hk h hp => by
    have e : wordN l = k := by
      unfold wordN
      rw [hl]
      exact firstN_at h hk hp
    rw [← hG]
    unfold hasWord
    rw [e, hl, decide_eq_true hk]
    rfl
  have HY : Hid ((∀ j, j < n - 2 → wordAt l j = false) → G = -1) := fun h => by
    have e : wordN l = n - 2 := by
      unfold wordN
      rw [hl]
      exact firstN_end h
    rw [← hG]
    unfold hasWord
    rw [e, hl, decide_eq_false (by omega)]
    rfl
  clear hG hl
  go_enter Tryd.func21, Tryd.ntmps21
  go_wp2
  go_loopw [3] (fun i wr => ∃ k : Nat, (k ≤ n - 2 ∨ k = 0) ∧ i = .int .i64 (k : Int) ∧ Hid (∀ j, j < k → wordAt l j = false) ∧ w = wr) (fun i _ => n - (intOf i).toNat)
  case atStart => exact ⟨0, .inr rfl, rfl, fun j hj => absurd hj (by omega), rfl⟩
  case round =>
    obtain ⟨k, hk0, rfl, H, rfl⟩ := hrel
    by_cases hlt : k < n - 2
    · have hlt' : (k : Int) + 3 ≤ (n : Int) := by omega
      have hk3 : (0 : Int) ≤ (k : Int) := by omega
      have hk4 : (k : Int) ≤ (k : Int) + 3 := by omega
      have HN := Lib.hid (fun (hp : wordAt l k = false) => (fun j hj => by
        rcases Nat.lt_succ_iff_lt_or_eq.1 hj with h | rfl
        · exact H.out j h
        · exact hp : ∀ j, j < k + 1 → wordAt l j = false))
      have HF := Lib.hid (HR.out k hlt H.out)
      have hw : wordAt l k = ((l.drop k).take 3 == [58, 47, 47]) := rfl
      have hxk := hx k
      generalize wordAt l k = t at *
      generalize (l.drop k).take 3 = y at *
      clear HR HY hx
      have hw2 := hw.symm
      clear hw
      cases t
      · have HN2 := Lib.hid (HN.out rfl)
        clear HN HF
        go_wp2
        go_roundw
        case rel => exact ⟨k + 1, by omega, by go_num, HN2.out, by first | rfl | trivial⟩
        case measure => simp [intOf]; omega
      · have HF2 := Lib.hid (HF.out rfl)
        clear HN HF
        go_wp2
        go_ret
        exact ⟨by rw [HF2.out]; rfl, rfl⟩
    · have hlt' : ¬ (k : Int) + 3 ≤ (n : Int) := by omega
      have HE := Lib.hid (HY.out fun j hj => H.out j (by omega))
      clear HR HY hx
      go_wp2
      go_ret
      exact ⟨by rw [HE.out]; rfl, rfl⟩

theorem refFind93C (l : List UInt8) (n : Nat) (w : World) (hl : l.length = n) (hm : n ≤ maxLen) :
    Calls Tryd.prog 39 #[.string (str l), .int .u8 93] w fun e w' => e = .returned (.int .i64 (findL l 93)) ∧ w = w' := refFindC l 93 n w hl hm

theorem refFindColonC (l : List UInt8) (n : Nat) (w : World) (hl : l.length = n) (hm : n ≤ maxLen) :
    Calls Tryd.prog 24 #[.string (str l), .string ⟨#[58]⟩] w fun e w' => e = .returned (.int .i64 (findS l [58] : Int)) ∧ w = w' := refUFindC l [58] n 1 w hl hm rfl (by unfold maxLen; omega)

theorem refFindEndC (l : List UInt8) (n : Nat) (w : World) (hl : l.length = n) (hm : n ≤ maxLen) :
    Calls Tryd.prog 24 #[.string (str l), .string ⟨#[47, 63, 35]⟩] w fun e w' => e = .returned (.int .i64 (findS l [47, 63, 35] : Int)) ∧ w = w' := refUFindC l [47, 63, 35] n 3 w hl hm rfl (by unfold maxLen; omega)

theorem refFindTwoC (l : List UInt8) (n : Nat) (w : World) (hl : l.length = n) (hm : n ≤ maxLen) :
    Calls Tryd.prog 24 #[.string (str l), .string ⟨#[63, 35]⟩] w fun e w' => e = .returned (.int .i64 (findS l [63, 35] : Int)) ∧ w = w' := refUFindC l [63, 35] n 2 w hl hm rfl (by unfold maxLen; omega)

set_option maxRecDepth 100000 in
theorem refUNameC (l : List UInt8) (n : Nat) (w : World) (hl : l.length = n) (hm : n ≤ 100000) :
    Calls Tryd.prog 25 #[.string (str l)] w fun e w' => e = .returned (.int .i64 (nameN l : Int)) ∧ w = w' := by
  have hsz : (str l).size = n := by rw [str_size, hl]
  have HF := fun w => refFind93C l n w hl (by unfold maxLen; omega)
  have HC := fun w => refFindColonC l n w hl (by unfold maxLen; omega)
  have hle : l.findIdx (· == 93) ≤ n := by rw [← hl]; exact List.findIdx_le_length
  unfold nameN
  unfold findL at HF
  rw [hl] at HF ⊢
  generalize findS l [58] = c at *
  rcases Nat.eq_zero_or_pos n with h0 | h0
  · subst h0
    rw [if_neg (fun h => absurd h.1 (Nat.lt_irrefl 0))]
    clear hl HF hle
    go_enter Tryd.func25, Tryd.ntmps25
    go_wp2_with (go_at_call 24; (with_reducible refine (HC _).mono ?_); rintro e w1 ⟨rfl, rfl⟩)
    go_ret
    exact ⟨rfl, rfl⟩
  · have h0' : (0 : Int) < (n : Int) := by omega
    have i0 := first_str (P := Tryd.prog) w 9 l Tryd.underlying9 (by omega)
    have e0 := u8_is (l.getD 0 0) 91 (by omega)
    by_cases h91 : l.getD 0 0 = 91
    · rw [if_pos ⟨h0, h91⟩]
      have e1 : (((l.getD 0 0).toNat : Int) == 91) = true := by rw [h91]; rfl
      generalize l.findIdx (· == 93) = q at *
      generalize (l.getD 0 0).toNat = x at *
      clear e0 h91 hl HC
      by_cases hq : q = n
      · rw [if_pos hq]
        simp only [if_pos hq] at HF
        clear hq hle
        go_enter Tryd.func25, Tryd.ntmps25
        go_wp2_with (go_at_call 39; (with_reducible refine (HF _).mono ?_); rintro e w1 ⟨rfl, rfl⟩)
        go_ret
        exact ⟨rfl, rfl⟩
      · rw [if_neg hq]
        simp only [if_neg hq] at HF
        have c1 : ¬ (q : Int) < 0 := by omega
        obtain ⟨Q, hQ⟩ : ∃ Q, q + 1 = Q := ⟨_, rfl⟩
        have hQ2 : (q : Int) + 1 = (Q : Int) := by omega
        have hwr := Lib.hid (show wrap64 (Q : Int) = (Q : Int) by unfold wrap64; omega)
        rw [hQ]
        clear hq hle hQ hm
        go_enter Tryd.func25, Tryd.ntmps25
        go_wp2_with (go_at_call 39; (with_reducible refine (HF _).mono ?_); rintro e w1 ⟨rfl, rfl⟩)
        go_ret
        exact ⟨(by show Ending.returned (.int .i64 (wrap64 (Q : Int))) = _; rw [hwr.out]), rfl⟩
    · rw [if_neg (fun h => h91 h.2)]
      have e1 : (((l.getD 0 0).toNat : Int) == 91) = false := by
        have : (l.getD 0 0 == UInt8.ofNat 91) = false := by rw [beq_eq_false_iff_ne]; exact h91
        rw [this] at e0
        exact e0.symm
      generalize (l.getD 0 0).toNat = x at *
      clear e0 h91 hl HF hle
      go_enter Tryd.func25, Tryd.ntmps25
      go_wp2_with (go_at_call 24; (with_reducible refine (HC _).mono ?_); rintro e w1 ⟨rfl, rfl⟩)
      go_ret
      exact ⟨rfl, rfl⟩
end Go.Proofs.YtgaodaimkojmhaaDoor
