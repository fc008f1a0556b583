/- Layer 12's laws: attributes there and back, light ones, the example. -/
import Derived.Test.YtlmcfflpgkapgaaHeaderProg
namespace Go.Proofs.Ytlmcfflpgkapgaa
open Go.RowKit
set_option linter.unusedVariables false

theorem infoPair : (Try.prog.info? 24).map (fun i => (i.zero, i.size, i.bytes)) = some (some (.agg #[.string ⟨#[]⟩, .string ⟨#[]⟩]), 2, 32) := by kernel_rfl

theorem eqPair (a b c d : List UInt8) (w : World) : Sem.run Try.prog (Op.equalIn 10000 24 (.agg #[.string (str a), .string (str b)]) (.agg #[.string (str c), .string (str d)])) w = Result.ok (a == c && b == d) w := by
  have hk := str_toList
  cases h1 : a == c <;> cases h2 : b == d <;> simp [go_sem, hk, h1, h2]

theorem take_snoc' {α : Type} {L : List α} {k : Nat} {x : α} (h : L[k]? = some x) : L.take (k + 1) = L.take k ++ [x] := by
  obtain ⟨hk, rfl⟩ := List.getElem?_eq_some_iff.1 h
  exact List.take_succ_eq_append_getElem hk

set_option maxRecDepth 100000 in
theorem backC (a : Option Addr) (n c : Nat) (L : List (List UInt8 × List UInt8)) (w : World) (hL : RowOf encP 2 w a n c L) (hn : n ≤ 100000) :
    Calls Try.prog 11 #[.slice a n c] w (GivesZ encP 2 29 L n w) := by
  have HL := Lib.hid hL
  have Hn : Hid (L.length = n) := hL.leq
  have hcm := hL.capm
  have hcl := hL.cle
  unfold maxLen at hcm
  obtain ⟨i0, hi, hz0, hz1, hz2⟩ := info_parts infoRefPair
  have hown0 := OwnZ.lit encP 2 29 w
  have hbel0 := below_alloc w (.cells #[] 29)
  unfold GivesZ
  clear hL
  go_enter Try.func11, Try.ntmps11
  go_wp2
  go_loopw [3, 4] (fun l i wr => ∃ (k : Nat) (b : Option Addr) (C : Nat), k ≤ n ∧ l = .slice b k C ∧ i = .int .i64 (k : Int) ∧ OwnZ encP 2 w.heap.size 29 b k C (L.take k) wr ∧ Below w.heap.size w wr) (fun _ i _ => n - (intOf i).toNat)
  case atStart => exact ⟨0, _, _, Nat.zero_le _, rfl, rfl, hown0, hbel0⟩
  case round =>
    clear hown0 hbel0
    obtain ⟨k, b, C, hk, rfl, rfl, hO, hB⟩ := hrel
    have hbs := hB.size
    by_cases hlt : k < n
    · have hlt' : (k : Int) < (n : Int) := by omega
      obtain ⟨x1, x2, g, off, hx, rfl, c0, c1⟩ := pair_at (HL.out.below hB) k hlt
      have hst := Lib.hid (take_snoc' hx)
      clear hx
      go_wp2_with (at_builtin; refine wpList_append_row1 encP_len (by decide) encP_one rfl (.tmp 12) (.tmp 17) 30 rfl 29 i0 (.agg #[.string ⟨#[]⟩, .string ⟨#[]⟩]) 32 Try.underlying30 hi hz0 hz1 hz2 rfl hO rfl (x1, x2) rfl rfl (k + 1) rfl (by unfold maxLen; omega) (by omega) hbs ?_; intro a2 c2 w7 hO7 hb7 hg7 ha7)
      go_roundw
      case rel => exact ⟨k + 1, a2, c2, by omega, rfl, by go_num, by rw [hst.out]; exact hO7, hB.trans hb7⟩
      case measure => simp [intOf]; omega
    · obtain rfl : k = n := by omega
      have e : Hid (L.take k = L) := by unfold Hid; rw [List.take_of_length_le (by rw [Hn.out]; exact Nat.le_refl _)]
      rw [e.out] at hO
      go_wp2
      go_ret
      exact ⟨b, C, rfl, hO, hB⟩

set_option maxRecDepth 100000 in
theorem ownC (a : Option Addr) (n c : Nat) (L : List (List UInt8 × List UInt8)) (w : World) (hL : RowOf encP 2 w a n c L) (hn : n ≤ 100000) :
    Calls Try.prog 14 #[.slice a n c] w (GivesZ encP 2 24 L n w) := by
  have HL := Lib.hid hL
  have Hn : Hid (L.length = n) := hL.leq
  have hcm := hL.capm
  have hcl := hL.cle
  unfold maxLen at hcm
  obtain ⟨i0, hi, hz0, hz1, hz2⟩ := info_parts infoPair
  have hown0 := OwnZ.lit encP 2 24 w
  have hbel0 := below_alloc w (.cells #[] 24)
  unfold GivesZ
  clear hL
  go_enter Try.func14, Try.ntmps14
  go_wp2
  go_loopw [3, 4] (fun l i wr => ∃ (k : Nat) (b : Option Addr) (C : Nat), k ≤ n ∧ l = .slice b k C ∧ i = .int .i64 (k : Int) ∧ OwnZ encP 2 w.heap.size 24 b k C (L.take k) wr ∧ Below w.heap.size w wr) (fun _ i _ => n - (intOf i).toNat)
  case atStart => exact ⟨0, _, _, Nat.zero_le _, rfl, rfl, hown0, hbel0⟩
  case round =>
    clear hown0 hbel0
    obtain ⟨k, b, C, hk, rfl, rfl, hO, hB⟩ := hrel
    have hbs := hB.size
    by_cases hlt : k < n
    · have hlt' : (k : Int) < (n : Int) := by omega
      obtain ⟨x1, x2, g, off, hx, rfl, c0, c1⟩ := pair_at (HL.out.below hB) k hlt
      have hst := Lib.hid (take_snoc' hx)
      clear hx
      go_wp2_with (at_builtin; refine wpList_append_row1 encP_len (by decide) encP_one rfl (.tmp 12) (.tmp 17) 25 rfl 24 i0 (.agg #[.string ⟨#[]⟩, .string ⟨#[]⟩]) 32 Try.underlying25 hi hz0 hz1 hz2 rfl hO rfl (x1, x2) rfl rfl (k + 1) rfl (by unfold maxLen; omega) (by omega) hbs ?_; intro a2 c2 w7 hO7 hb7 hg7 ha7)
      go_roundw
      case rel => exact ⟨k + 1, a2, c2, by omega, rfl, by go_num, by rw [hst.out]; exact hO7, hB.trans hb7⟩
      case measure => simp [intOf]; omega
    · obtain rfl : k = n := by omega
      have e : Hid (L.take k = L) := by unfold Hid; rw [List.take_of_length_le (by rw [Hn.out]; exact Nat.le_refl _)]
      rw [e.out] at hO
      go_wp2
      go_ret
      exact ⟨b, C, rfl, hO, hB⟩

/-- Attributes are few and short. -/
def lightP (L : List (List UInt8 × List UInt8)) : Bool := decide (L.length ≤ 40) && L.all fun x => decide (x.1.length ≤ 300) && decide (x.2.length ≤ 1100)

set_option maxRecDepth 100000 in
theorem light12C (a : Option Addr) (n c : Nat) (L : List (List UInt8 × List UInt8)) (w : World) (hL : RowOf encP 2 w a n c L) (hS : ∀ x ∈ L, x.1.length ≤ maxLen ∧ x.2.length ≤ maxLen) :
    Calls Try.prog 12 #[.slice a n c] w fun e w' => e = .returned (.bool (lightP L)) ∧ w = w' := by
  have HL := Lib.hid hL
  have Hn : Hid (L.length = n) := hL.leq
  have hcm := hL.capm
  have hcl := hL.cle
  unfold maxLen at hcm
  have h40 := hL.leq
  unfold lightP
  rw [h40]
  clear hL h40
  by_cases h1 : n ≤ 40
  · have h1' : ¬ (40 : Int) < (n : Int) := by omega
    rw [decide_eq_true h1, Bool.true_and]
    go_enter Try.func12, Try.ntmps12
    go_wp2
    go_loopw [3] (fun i wr => ∃ k : Nat, k ≤ n ∧ i = .int .i64 (k : Int) ∧ Hid (∀ j x, j < k → L[j]? = some x → x.1.length ≤ 300 ∧ x.2.length ≤ 1100) ∧ w = wr) (fun i _ => n - (intOf i).toNat)
    case atStart => exact ⟨0, Nat.zero_le _, rfl, fun j x hj => absurd hj (Nat.not_lt_zero _), rfl⟩
    case round =>
      obtain ⟨k, hk, rfl, hall, rfl⟩ := hrel
      by_cases hlt : k < n
      · have hlt' : (k : Int) < (n : Int) := by omega
        obtain ⟨x1, x2, g, off, hx, rfl, c0, c1⟩ := pair_at HL.out k hlt
        have hmem : (x1, x2) ∈ L := by
          obtain ⟨h, e⟩ := List.getElem?_eq_some_iff.1 hx
          exact e ▸ List.getElem_mem h
        obtain ⟨m1, hm1⟩ : ∃ m, x1.length = m := ⟨_, rfl⟩
        obtain ⟨m2, hm2⟩ : ∃ m, x2.length = m := ⟨_, rfl⟩
        have z1 : (str x1).size = m1 := by rw [str_size, hm1]
        have z2 : (str x2).size = m2 := by rw [str_size, hm2]
        have hsx := hS _ hmem
        dsimp only at hsx
        rw [hm1, hm2] at hsx
        unfold maxLen at hsx
        have hno : Hid (¬ (m1 ≤ 300 ∧ m2 ≤ 1100) → (L.all fun x => decide (x.1.length ≤ 300) && decide (x.2.length ≤ 1100)) = false) := fun h => by
          rw [List.all_eq_false]
          refine ⟨_, hmem, ?_⟩
          dsimp only
          rw [hm1, hm2]
          simp only [Bool.and_eq_true, decide_eq_true_iff]
          exact h
        have hyes : Hid (m1 ≤ 300 ∧ m2 ≤ 1100 → ∀ j x, j < k + 1 → L[j]? = some x → x.1.length ≤ 300 ∧ x.2.length ≤ 1100) := fun h j x hj e => by
          by_cases hjk : j = k
          · subst hjk
            rw [hx] at e
            cases e
            rw [hm1, hm2]
            exact h
          · exact hall.out j x (by omega) e
        clear hx hmem hm1 hm2
        by_cases q1 : m1 ≤ 300
        · have q1' : ¬ (300 : Int) < (m1 : Int) := by omega
          by_cases q2 : m2 ≤ 1100
          · have q2' : ¬ (1100 : Int) < (m2 : Int) := by omega
            have h3 := Lib.hid (hyes.out ⟨q1, q2⟩)
            clear hno hyes
            go_wp2
            go_roundw
            case rel => exact ⟨k + 1, by omega, by go_num, h3, by first | rfl | trivial⟩
            case measure => simp [intOf]; omega
          · have q2' : (1100 : Int) < (m2 : Int) := by omega
            have h3 := Lib.hid (hno.out fun h => q2 h.2)
            clear hno hyes
            go_wp2
            go_ret
            exact ⟨by rw [h3.out]; rfl, rfl⟩
        · have q1' : (300 : Int) < (m1 : Int) := by omega
          have h3 := Lib.hid (hno.out fun h => q1 h.1)
          clear hno hyes
          go_wp2
          go_ret
          exact ⟨by rw [h3.out]; rfl, rfl⟩
      · obtain rfl : k = n := by omega
        have h3 : Hid ((L.all fun x => decide (x.1.length ≤ 300) && decide (x.2.length ≤ 1100)) = true) := by
          unfold Hid
          rw [List.all_eq_true]
          intro x hx
          obtain ⟨j, hj, rfl⟩ := List.getElem_of_mem hx
          have := hall.out j _ (by rw [← Hn.out]; exact hj) (List.getElem?_eq_getElem hj)
          simp only [Bool.and_eq_true, decide_eq_true_iff]
          exact this
        go_wp2
        go_ret
        exact ⟨by rw [h3.out]; rfl, rfl⟩
  · have h1' : (40 : Int) < (n : Int) := by omega
    rw [decide_eq_false h1, Bool.false_and]
    go_enter Try.func12, Try.ntmps12
    go_wp2
    go_ret
    exact ⟨rfl, rfl⟩
end Go.Proofs.Ytlmcfflpgkapgaa
