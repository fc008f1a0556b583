/- Contracts of layer 8: what a text is. -/
import Derived.Test.YtgaodaimkojmhaaDoorHost
namespace Go.Proofs.YtgaodaimkojmhaaDoor
open Go.RowKit
set_option linter.unusedVariables false

theorem splitDotC (l : List UInt8) (n : Nat) (w : World) (hl : l.length = n) (hm : n ≤ 1000000000000) :
    Calls Tryd.prog 67 #[.string (str l), .int .u8 46] w (GivesStrs (splitL l 46) w) := splitC l 46 n w hl hm

theorem refSplitDotC (l : List UInt8) (n : Nat) (w : World) (hl : l.length = n) (hm : n ≤ 1000000000000) :
    Calls Tryd.prog 59 #[.string (str l), .int .u8 46] w (GivesStrs (splitL l 46) w) := refSplitC l 46 n w hl hm

theorem str_at {w : World} {a : Option Addr} {P : List (List UInt8)} (h : Reads w a (strs P)) (k : Nat) (hk : k < P.length) : ∃ g off, a = some ⟨g, off, none⟩ ∧ w.cell? ⟨g, off + k, none⟩ = some (.string (str (P.getD k []))) :=
  h k (.string (str (P.getD k []))) (by simp [strs, List.getD, hk])

set_option maxRecDepth 100000 in
theorem isNumberC (l : List UInt8) (n : Nat) (w : World) (hl : l.length = n) (hm : n ≤ maxLen) (hT : PTab Tryd.prog w) :
    Calls Tryd.prog 68 #[.string (str l)] w fun e w' => e = .returned (.bool (octetB l)) ∧ Below w.heap.size w w' := by
  have hb := Below.refl w.heap.size w
  have HN := fun w => numberC l n w hl hm
  rw [← num_octet]
  unfold numB
  generalize numL l = q at *
  obtain ⟨v, b⟩ := q
  simp only [] at HN ⊢
  clear hl hm
  cases b with
  | false =>
    go_enter Tryd.func68, Tryd.ntmps68
    go_wp2_with (go_at_call 37; (with_reducible refine (HN _).mono ?_); rintro e w1 ⟨rfl, rfl⟩)
    go_ret
    exact ⟨rfl, hb⟩
  | true =>
    rw [Bool.true_and]
    by_cases h0 : 0 ≤ v
    · rw [decide_eq_true h0, Bool.true_and]
      by_cases h1 : v ≤ 255
      · rw [decide_eq_true h1, Bool.true_and]
        have HT := fun w (h : PTab Tryd.prog w) => textC v w (by omega) (by omega) h
        have hk := str_toList
        unfold GivesStr at HT
        generalize Lib.itoa v = t at *
        go_enter Tryd.func68, Tryd.ntmps68
        go_wp2_with (first
          | (go_at_call 37; (with_reducible refine (HN _).mono ?_); rintro e w1 ⟨rfl, rfl⟩)
          | (go_at_call 75; (with_reducible refine (HT _ hT).mono ?_); rintro e w1 ⟨rfl, hx⟩; have hb := hb.trans (hx.mono hb.size); clear hx))
        go_ret
        exact ⟨rfl, hb⟩
      · rw [decide_eq_false h1]
        go_enter Tryd.func68, Tryd.ntmps68
        go_wp2_with (go_at_call 37; (with_reducible refine (HN _).mono ?_); rintro e w1 ⟨rfl, rfl⟩)
        go_ret
        exact ⟨rfl, hb⟩
    · rw [decide_eq_false h0]
      go_enter Tryd.func68, Tryd.ntmps68
      go_wp2_with (go_at_call 37; (with_reducible refine (HN _).mono ?_); rintro e w1 ⟨rfl, rfl⟩)
      go_ret
      exact ⟨rfl, hb⟩

theorem all_no' {P : List (List UInt8)} {p : List UInt8 → Bool} {k : Nat} (hk : k < P.length) (h : p (P.getD k []) = false) : P.all p = false := by
  rw [Bool.eq_false_iff]
  intro c
  have hm : P.getD k [] ∈ P := by
    simp only [List.getD, List.getElem?_eq_getElem hk, Option.getD_some]
    exact List.getElem_mem _
  rw [List.all_eq_true.1 c _ hm] at h
  cases h

theorem all_yes' {P : List (List UInt8)} {p : List UInt8 → Bool} (h : ∀ j, j < P.length → p (P.getD j []) = true) : P.all p = true := by
  rw [List.all_eq_true]
  intro x hx
  obtain ⟨i, hi, rfl⟩ := List.getElem_of_mem hx
  have := h i hi
  simpa [List.getD, hi] using this

theorem part_le (l : List UInt8) (c : UInt8) (k : Nat) (hk : k < (splitL l c).length) : ((splitL l c).getD k []).length ≤ l.length := by
  have := mem_join_le c (splitL l c) ((splitL l c).getD k []) (by simp only [List.getD, List.getElem?_eq_getElem hk, Option.getD_some]; exact List.getElem_mem _)
  rwa [joinL_all] at this

set_option maxRecDepth 100000 in
theorem isFourC (l : List UInt8) (n : Nat) (w : World) (hl : l.length = n) (hm : n ≤ 1000000000000) (hT : PTab Tryd.prog w) :
    Calls Tryd.prog 52 #[.string (str l)] w fun e w' => e = .returned (.bool (quadB l)) ∧ Below w.heap.size w w' := by
  have HS := fun w => splitDotC l n w hl hm
  unfold GivesStrs at HS
  unfold quadB
  have hle := fun k hk => part_le l 46 k hk
  have hNn := splitL_le l 46
  rw [hl] at hle hNn
  generalize splitL l 46 = P at *
  obtain ⟨N, hN⟩ : ∃ N, P.length = N := ⟨_, rfl⟩
  rw [hN] at HS hle hNn ⊢
  obtain ⟨z, hz, hz2⟩ : ∃ z, decide (N = 4) = z ∧ ((N : Int) == 4) = z := ⟨_, rfl, by rw [Bool.eq_iff_iff]; simp; omega⟩
  rw [hz]
  clear hz
  have HP := Lib.hid hN
  have HR : Hid (∀ k, k < N → octetB (P.getD k []) = false → P.all octetB = false) := fun k hk h => all_no' (by rw [HP.out]; exact hk) h
  have HY : Hid ((∀ j, j < N → octetB (P.getD j []) = true) → P.all octetB = true) := fun h => all_yes' (by rw [HP.out]; exact h)
  generalize P.all octetB = R at *
  clear hN hl
  go_enter Tryd.func52, Tryd.ntmps52
  go_wp2_with (go_at_call 67; (with_reducible refine (HS _).mono ?_); rintro e w1 ⟨a1, c1, rfl, ho1, hx1⟩)
  have r1 := ho1.reads
  clear HS ho1
  go_loopw [10] (fun i wr => ∃ k : Nat, k ≤ N ∧ i = .int .i64 (k : Int) ∧ Hid (∀ j, j < k → octetB (P.getD j []) = true) ∧ Below w1.heap.size w1 wr) (fun i _ => N - (intOf i).toNat)
  case atStart => exact ⟨0, Nat.zero_le _, rfl, fun j hj => absurd hj (by omega), Below.refl _ _⟩
  case round =>
    obtain ⟨k, hk, rfl, H, hbr⟩ := hrel
    have hb := hx1.trans (hbr.mono hx1.size)
    by_cases hlt : k < N
    · have hlt' : (k : Int) < (N : Int) := by omega
      obtain ⟨g, off, rfl, hc⟩ := str_at (r1.below' hbr) k (by rw [HP.out]; exact hlt)
      have hlk := hle k hlt
      have HN := Lib.hid (fun (hp : octetB (P.getD k []) = true) => (fun j hj => by
        rcases Nat.lt_succ_iff_lt_or_eq.1 hj with h | rfl
        · exact H.out j h
        · exact hp : ∀ j, j < k + 1 → octetB (P.getD j []) = true))
      have HF := Lib.hid (HR.out k hlt)
      have HC := fun w => isNumberC (P.getD k []) _ w rfl (by unfold maxLen; omega)
      have hT2 := hT.below hb
      clear hle
      generalize octetB (P.getD k []) = t at *
      generalize P.getD k [] = x at hc HC
      cases t
      · have HF2 := Lib.hid (HF.out rfl)
        clear HN HF
        go_wp2_with (go_at_call 68; (with_reducible refine (HC _ hT2).mono ?_); rintro e w2 ⟨rfl, hx2⟩)
        go_ret
        exact ⟨by rw [HF2.out, Bool.and_false]; rfl, hb.trans (hx2.mono hb.size)⟩
      · have HN2 := Lib.hid (HN.out rfl)
        clear HN HF
        go_wp2_with (go_at_call 68; (with_reducible refine (HC _ hT2).mono ?_); rintro e w2 ⟨rfl, hx2⟩)
        go_roundw
        case rel => exact ⟨k + 1, by omega, by go_num, HN2.out, hbr.trans (hx2.mono hbr.size)⟩
        case measure => simp [intOf]; omega
    · obtain rfl : k = N := by omega
      have HE := Lib.hid (HY.out H.out)
      clear hle
      go_wp2
      go_ret
      exact ⟨by rw [HE.out, Bool.and_true]; rfl, hb⟩
end Go.Proofs.YtgaodaimkojmhaaDoor
