/- Layer 9's laws, walked: over the contracts of Check, Of, Public, Own. -/
import Derived.Test.YtgibhpljlebcdaaDoorSuffixProg
import Derived.Test.YtgibhpljlebcdaaDoorHostLaw
namespace Go.Proofs.YtgibhpljlebcdaaDoor
open Go.RowKit
set_option linter.unusedVariables false

def lightB (R : List (List UInt8)) : Bool := !(decide (60 < R.length) && decide (R.length ≤ 256) || decide (300 < R.length)) && R.all fun x => decide (x.length ≤ 300)

theorem light_is {R : List (List UInt8)} (h : lightB R = true) : (R.length ≤ 60 ∨ 256 < R.length ∧ R.length ≤ 300) ∧ ∀ x ∈ R, x.length ≤ 300 := by
  unfold lightB at h
  rw [Bool.and_eq_true] at h
  obtain ⟨h1, h2⟩ := h
  refine ⟨?_, fun x hx => of_decide_eq_true (List.all_eq_true.1 h2 x hx)⟩
  simp only [Bool.not_eq_true', Bool.or_eq_false_iff, Bool.and_eq_false_iff, decide_eq_false_iff_not] at h1
  omega

set_option maxRecDepth 100000 in
theorem lightC (a : Option Addr) (len cap : Nat) (R : List (List UInt8)) (w : World) (hR : IsStrs w a len cap R) :
    Calls Tryd.prog 6 #[.slice a len cap] w fun e w' => e = .returned (.bool (lightB R)) ∧ w = w' := by
  obtain ⟨hN, hlc, hcm, -, r1, hml⟩ := hR
  have hlm : len ≤ 9223372036854775807 := by unfold maxLen at hcm; omega
  unfold lightB
  have HR0 := fun k hk h => all_no' (P := R) (p := fun x => decide (x.length ≤ 300)) (k := k) hk h
  have HY0 := all_yes' (P := R) (p := fun x => decide (x.length ≤ 300))
  generalize R.all (fun x => decide (x.length ≤ 300)) = z at *
  rw [hN] at HR0 HY0 ⊢
  have HP := Lib.hid hN
  have HR := Lib.hid HR0
  have HY := Lib.hid HY0
  clear hN HR0 HY0
  by_cases h3 : 300 < len
  · have h3' : (300 : Int) < (len : Int) := by omega
    have h1' : (60 : Int) < (len : Int) := by omega
    have h2' : ¬ (len : Int) ≤ 256 := by omega
    rw [decide_eq_true h3, Bool.or_true]
    go_enter Tryd.func6, Tryd.ntmps6
    go_wp2
    go_ret
    exact ⟨rfl, rfl⟩
  by_cases h12 : 60 < len ∧ len ≤ 256
  · have h1' : (60 : Int) < (len : Int) := by omega
    have h2' : (len : Int) ≤ 256 := by omega
    rw [decide_eq_true h12.1, decide_eq_true h12.2]
    go_enter Tryd.func6, Tryd.ntmps6
    go_wp2
    go_ret
    exact ⟨rfl, rfl⟩
  have h3' : ¬ (300 : Int) < (len : Int) := by omega
  have hd : (decide (60 < len) && decide (len ≤ 256) || decide (300 < len)) = false := by
    rw [decide_eq_false h3, Bool.or_false]
    by_cases h1 : 60 < len
    · rw [decide_eq_false (show ¬ len ≤ 256 by omega), Bool.and_false]
    · rw [decide_eq_false h1, Bool.false_and]
  rw [hd, Bool.not_false, Bool.true_and]
  have hor : (¬ (60 : Int) < (len : Int)) ∨ ((60 : Int) < (len : Int) ∧ ¬ (len : Int) ≤ 256) := by omega
  clear hd h12 h3
  rcases hor with h1 | ⟨h1, h2⟩
  all_goals
    go_enter Tryd.func6, Tryd.ntmps6
    go_wp2
    go_loopw [3] (fun i wr => ∃ k : Nat, k ≤ len ∧ i = .int .i64 (k : Int) ∧ Hid (∀ j, j < k → decide ((R.getD j []).length ≤ 300) = true) ∧ w = wr) (fun i _ => len - (intOf i).toNat)
    case atStart => exact ⟨0, Nat.zero_le _, rfl, fun j hj => absurd hj (by omega), rfl⟩
    case round =>
      obtain ⟨k, hk, rfl, H, rfl⟩ := hrel
      by_cases hlt : k < len
      · have hlt' : (k : Int) < (len : Int) := by omega
        obtain ⟨g, off, rfl, hc⟩ := str_at r1 k (by rw [HP.out]; exact hlt)
        have HN := Lib.hid (fun (hp : decide ((R.getD k []).length ≤ 300) = true) => (fun j hj => by
          rcases Nat.lt_succ_iff_lt_or_eq.1 hj with h | rfl
          · exact H.out j h
          · exact hp : ∀ j, j < k + 1 → decide ((R.getD j []).length ≤ 300) = true))
        have HF := Lib.hid (HR.out k hlt)
        clear hml
        generalize R.getD k [] = x at hc HN HF
        obtain ⟨X, hX⟩ : ∃ X, x.length = X := ⟨_, rfl⟩
        have hsz : (str x).size = X := by rw [str_size, hX]
        rw [hX] at HN HF
        clear hX
        by_cases hx : X ≤ 300
        · have hx' : ¬ (300 : Int) < (X : Int) := by omega
          have HN2 := Lib.hid (HN.out (decide_eq_true hx))
          clear HN HF
          go_wp2
          go_roundw
          case rel => exact ⟨k + 1, by omega, by go_num, HN2.out, by first | rfl | trivial⟩
          case measure => simp [intOf]; omega
        · have hx' : (300 : Int) < (X : Int) := by omega
          have HF2 := Lib.hid (HF.out (decide_eq_false hx))
          clear HN HF
          go_wp2
          go_ret
          exact ⟨by rw [HF2.out]; rfl, rfl⟩
      · obtain rfl : k = len := by omega
        have HE := Lib.hid (HY.out H.out)
        clear hml
        go_wp2
        go_ret
        exact ⟨by rw [HE.out]; rfl, rfl⟩

set_option maxRecDepth 100000 in
theorem holdsNo (l : List UInt8) (n : Nat) (w : World) (hl : l.length = n) (hm : n ≤ maxLen) (h : ∀ y ∈ l, (y == 46) = false) :
    Calls Tryd.prog 16 #[.string (str l)] w fun e w' => e = .returned (.bool false) ∧ w = w' := by
  have hsz : (str l).size = n := by rw [str_size, hl]
  unfold maxLen at hm
  have HL := Lib.hid hl
  have HH := Lib.hid h
  clear hl h
  go_enter Tryd.func16, Tryd.ntmps16
  go_wp2
  go_loopw [3] (fun i wr => ∃ k : Nat, k ≤ n ∧ i = .int .i64 (k : Int) ∧ w = wr) (fun i _ => n - (intOf i).toNat)
  case atStart => exact ⟨0, Nat.zero_le _, rfl, rfl⟩
  case round =>
    obtain ⟨k, hk, rfl, rfl⟩ := hrel
    by_cases hlt : k < n
    · have hlt' : (k : Int) < (n : Int) := by omega
      have hi := run_index_str (P := Tryd.prog) w 9 l .i64 k Tryd.underlying9 (by rw [HL.out]; exact hlt)
      have e0 := u8_is (l.getD k 0) 46 (by omega)
      have e1 : (l.getD k 0 == UInt8.ofNat 46) = false := HH.out _ (by
        have : k < l.length := by rw [HL.out]; exact hlt
        simp only [List.getD, List.getElem?_eq_getElem this, Option.getD_some]
        exact List.getElem_mem _)
      rw [e1] at e0
      have e2 : (((l.getD k 0).toNat : Int) == 46) = false := e0.symm
      clear e0 e1
      generalize (l.getD k 0).toNat = x at *
      go_wp2
      go_roundw
      case rel => exact ⟨k + 1, by omega, by go_num, by first | rfl | trivial⟩
      case measure => simp [intOf]; omega
    · obtain rfl : k = n := by omega
      go_wp2
      go_ret
      exact ⟨rfl, rfl⟩

/-- The rules of the examples. -/
def rules09 : List (List UInt8) := [[116, 101, 115, 116], [99, 111, 46, 116, 101, 115, 116], [42, 46, 99, 105, 116, 121], [33, 111, 119, 110, 46, 99, 105, 116, 121]]

set_option maxRecDepth 100000 in
theorem awake09C (w : World) (hT : PTab Tryd.prog w) : Calls Tryd.prog 7 #[] w fun e w' => e = .returned (.bool true) ∧ Below w.heap.size w w' := by
  have hb0 := below_alloc w (.cells #[.string ⟨#[116, 101, 115, 116]⟩, .string ⟨#[99, 111, 46, 116, 101, 115, 116]⟩, .string ⟨#[42, 46, 99, 105, 116, 121]⟩, .string ⟨#[33, 111, 119, 110, 46, 99, 105, 116, 121]⟩] 9)
  have hr0 : Reads _ _ (strs rules09) := reads_new w (strs rules09) 9
  have hlen : ∀ x ∈ rules09, x.length ≤ 1000 := by decide
  have hI : IsStrs (w.alloc (.cells #[.string ⟨#[116, 101, 115, 116]⟩, .string ⟨#[99, 111, 46, 116, 101, 115, 116]⟩, .string ⟨#[42, 46, 99, 105, 116, 121]⟩, .string ⟨#[33, 111, 119, 110, 46, 99, 105, 116, 121]⟩] 9)) (some ⟨w.heap.size, 0, none⟩) 4 4 rules09 := by
    refine ⟨rfl, Nat.le_refl _, (by unfold maxLen; omega), (fun h => by cases h), hr0, fun x hx => ?_⟩
    have := hlen x hx
    unfold maxLen
    omega
  clear hr0
  have O1 : ofR rules09 [97, 46, 98, 46, 99, 111, 46, 116, 101, 115, 116] = ([99, 111, 46, 116, 101, 115, 116], 0) := by decide +kernel
  have O2 : ofR rules09 [97, 46, 98, 46, 99, 105, 116, 121] = ([98, 46, 99, 105, 116, 121], 0) := by decide +kernel
  have O3 : ofR rules09 [120, 46, 111, 119, 110, 46, 99, 105, 116, 121] = ([99, 105, 116, 121], 0) := by decide +kernel
  have O4 : publicR rules09 [116, 101, 115, 116] = true := by decide +kernel
  generalize hW : w.alloc (.cells #[.string ⟨#[116, 101, 115, 116]⟩, .string ⟨#[99, 111, 46, 116, 101, 115, 116]⟩, .string ⟨#[42, 46, 99, 105, 116, 121]⟩, .string ⟨#[33, 111, 119, 110, 46, 99, 105, 116, 121]⟩] 9) = W at *
  have H1 : ∀ v, IsStrs v (some ⟨w.heap.size, 0, none⟩) 4 4 rules09 → PTab Tryd.prog v → Calls Tryd.prog 8 #[.slice (some ⟨w.heap.size, 0, none⟩) 4 4, .string ⟨#[97, 46, 98, 46, 99, 111, 46, 116, 101, 115, 116]⟩] v fun e w' => e = .returned (.tuple #[.string ⟨#[99, 111, 46, 116, 101, 115, 116]⟩, .int .i64 0]) ∧ Below v.heap.size v w' := fun v hv ht => by
    have h := sufOfC _ 4 4 rules09 [97, 46, 98, 46, 99, 111, 46, 116, 101, 115, 116] 11 v hv hlen rfl (by omega) ht
    rw [O1] at h
    exact h
  have H2 : ∀ v, IsStrs v (some ⟨w.heap.size, 0, none⟩) 4 4 rules09 → PTab Tryd.prog v → Calls Tryd.prog 8 #[.slice (some ⟨w.heap.size, 0, none⟩) 4 4, .string ⟨#[97, 46, 98, 46, 99, 105, 116, 121]⟩] v fun e w' => e = .returned (.tuple #[.string ⟨#[98, 46, 99, 105, 116, 121]⟩, .int .i64 0]) ∧ Below v.heap.size v w' := fun v hv ht => by
    have h := sufOfC _ 4 4 rules09 [97, 46, 98, 46, 99, 105, 116, 121] 8 v hv hlen rfl (by omega) ht
    rw [O2] at h
    exact h
  have H3 : ∀ v, IsStrs v (some ⟨w.heap.size, 0, none⟩) 4 4 rules09 → PTab Tryd.prog v → Calls Tryd.prog 8 #[.slice (some ⟨w.heap.size, 0, none⟩) 4 4, .string ⟨#[120, 46, 111, 119, 110, 46, 99, 105, 116, 121]⟩] v fun e w' => e = .returned (.tuple #[.string ⟨#[99, 105, 116, 121]⟩, .int .i64 0]) ∧ Below v.heap.size v w' := fun v hv ht => by
    have h := sufOfC _ 4 4 rules09 [120, 46, 111, 119, 110, 46, 99, 105, 116, 121] 10 v hv hlen rfl (by omega) ht
    rw [O3] at h
    exact h
  have H4 : ∀ v, IsStrs v (some ⟨w.heap.size, 0, none⟩) 4 4 rules09 → PTab Tryd.prog v → Calls Tryd.prog 10 #[.slice (some ⟨w.heap.size, 0, none⟩) 4 4, .string ⟨#[116, 101, 115, 116]⟩] v fun e w' => e = .returned (.bool true) ∧ Below v.heap.size v w' := fun v hv ht => by
    have h := sufPublicC _ 4 4 rules09 [116, 101, 115, 116] 4 v hv hlen rfl (by omega) ht
    rw [O4] at h
    exact h
  clear O1 O2 O3 O4 hlen
  have hb := hb0
  have hbW := Below.refl W.heap.size W
  go_enter Tryd.func7, Tryd.ntmps7
  go_wp2_with (first
    | (go_at_call 8; (with_reducible refine (H1 _ (hI.below hbW) (hT.below hb)).mono ?_); rintro e w1 ⟨rfl, hx⟩; have hb := hb.trans (hx.mono hb.size); have hbW := hbW.trans (hx.mono hbW.size); clear hx)
    | (go_at_call 8; (with_reducible refine (H2 _ (hI.below hbW) (hT.below hb)).mono ?_); rintro e w2 ⟨rfl, hx⟩; have hb := hb.trans (hx.mono hb.size); have hbW := hbW.trans (hx.mono hbW.size); clear hx)
    | (go_at_call 8; (with_reducible refine (H3 _ (hI.below hbW) (hT.below hb)).mono ?_); rintro e w3 ⟨rfl, hx⟩; have hb := hb.trans (hx.mono hb.size); have hbW := hbW.trans (hx.mono hbW.size); clear hx)
    | (go_at_call 10; (with_reducible refine (H4 _ (hI.below hbW) (hT.below hb)).mono ?_); rintro e w4 ⟨rfl, hx⟩; have hb := hb.trans (hx.mono hb.size); have hbW := hbW.trans (hx.mono hbW.size); clear hx))
  go_ret
  exact ⟨rfl, hb⟩
end Go.Proofs.YtgibhpljlebcdaaDoor
