/- Decimal digits of a number: plain, with no program in it. -/
import Derived.Test.YtlmcfflpgkapgaaAsciiPlain
import Derived.Lib.ItoaLen
import Derived.Lib.AppendIntMem
namespace Go.Proofs.Ytlmcfflpgkapgaa
open Go.RowKit
set_option linter.unusedVariables false

/-- What the library's functions read of its variables: the table that numerals are written by; the number that a search asks for. -/
structure PTab (P : Program) (w : World) : Prop where
  tab : Lib.TabIs P w "internal/strconv.uint64pow10" .u64 Lib.pow10Tab
  most : ∀ g, P.globalNamed "internal/bytealg.MaxLen" = some g → ∃ m, w.cell? ⟨g, 0, none⟩ = some (.int .i64 m)
theorem PTab.below {P : Program} {w w' : World} (h : PTab P w) (hb : Below w.heap.size w w') : PTab P w' := by
  refine ⟨?_, fun g hg => ?_⟩
  · have h := h.tab
    unfold Lib.TabIs at h ⊢
    unfold World.var? at h ⊢
    cases hg : P.globalNamed "internal/strconv.uint64pow10" with
    | none => rw [hg] at h; cases h
    | some g =>
      rw [hg] at h
      simp only [Option.bind_some] at h ⊢
      have hlt : g < w.heap.size := by
        rcases Nat.lt_or_ge g w.heap.size with h1 | h1
        · exact h1
        · rw [Array.getElem?_eq_none h1] at h; cases h
      rw [hb.block g hlt]
      exact h
  · obtain ⟨m, hm⟩ := h.most g hg
    have hlt : g < w.heap.size := by
      rcases Nat.lt_or_ge g w.heap.size with h1 | h1
      · exact h1
      · unfold World.cell? at hm
        rw [Array.getElem?_eq_none h1] at hm; cases hm
    exact ⟨m, (hb.cell hlt).trans hm⟩

theorem decDigits_snoc (u : Nat) (h : ¬ u < 10) : Lib.decDigits u = Lib.decDigits (u / 10) ++ [UInt8.ofNat (48 + u % 10)] := by
  rw [Lib.decDigits, dif_neg h]
theorem digit_toNat (d : Nat) (h : d < 10) : (UInt8.ofNat (48 + d)).toNat = 48 + d := by
  rw [UInt8.toNat_ofNat']
  omega
theorem decDigits_digits (u : Nat) : ∀ x ∈ Lib.decDigits u, 48 ≤ x.toNat ∧ x.toNat ≤ 57 := by
  induction u using Nat.strongRecOn with
  | ind u ih =>
    by_cases h : u < 10
    · rw [Lib.decDigits_one h]
      intro x hx
      simp only [List.mem_singleton] at hx
      subst hx
      rw [digit_toNat u h]
      omega
    · rw [decDigits_snoc u h]
      intro x hx
      rcases List.mem_append.1 hx with h1 | h1
      · exact ih (u / 10) (by omega) x h1
      · simp only [List.mem_singleton] at h1
        subst h1
        rw [digit_toNat _ (by omega)]
        omega
theorem decDigits_pos (u : Nat) : 1 ≤ (Lib.decDigits u).length := by
  rw [Lib.decDigits_length]
  exact Lib.nDigits_pos u
theorem numV_snoc (l : List UInt8) (x : UInt8) : numV (l ++ [x]) = min (10 * numV l + (x.toNat - 48)) 1099511627776 := by
  unfold numV
  rw [List.foldl_append]
  rfl
theorem numV_decDigits (u : Nat) : numV (Lib.decDigits u) = min u 1099511627776 := by
  induction u using Nat.strongRecOn with
  | ind u ih =>
    by_cases h : u < 10
    · rw [Lib.decDigits_one h, ← List.nil_append [UInt8.ofNat (48 + u)], numV_snoc, numV_nil, digit_toNat u h]
      omega
    · rw [decDigits_snoc u h, numV_snoc, ih (u / 10) (by omega), digit_toNat _ (by omega)]
      omega
theorem lead_decDigits (u : Nat) : lead (Lib.decDigits u) = (Lib.decDigits u).length := by
  unfold lead
  rw [List.findIdx_eq_length]
  intro x hx
  have := decDigits_digits u x hx
  unfold digit
  simp
  omega
/-- A number, 2^40 at most, -2^40 at least. -/
def sat (n : Int) : Int := if n < -1099511627776 then -1099511627776 else if 1099511627776 < n then 1099511627776 else n
theorem signed_digits (u : Nat) : signed (Lib.decDigits u) = false ∧ body (Lib.decDigits u) = Lib.decDigits u := by
  have hs : signed (Lib.decDigits u) = false := by
    have h1 := decDigits_pos u
    have h2 := decDigits_digits u
    cases hb : signed (Lib.decDigits u) with
    | false => rfl
    | true =>
      have h3 := (signed_yes hb).2.1
      have h4 : (Lib.decDigits u).getD 0 0 ∈ Lib.decDigits u := by
        simp only [List.getD, List.getElem?_eq_getElem (show 0 < (Lib.decDigits u).length by omega), Option.getD_some]
        exact List.getElem_mem _
      have := h2 _ h4
      omega
  exact ⟨hs, (signed_no hs).2⟩
theorem numL_itoa (n : Int) : numL (Lib.itoa n) = (sat n, true) := by
  unfold numL Lib.itoa
  by_cases h : n < 0
  · rw [if_pos h]
    have hs : signed (45 :: Lib.decDigits n.natAbs) = true := by unfold signed Lib.hasPrefix; simp
    have hb := (signed_yes hs).2.2
    rw [hb, hs]
    have e : List.drop 1 (45 :: Lib.decDigits n.natAbs) = Lib.decDigits n.natAbs := rfl
    have hp := decDigits_pos n.natAbs
    rw [e, lead_decDigits, if_neg (by omega), numV_decDigits, if_pos rfl]
    unfold sat
    congr 1
    split
    · omega
    · split <;> omega
  · rw [if_neg h]
    obtain ⟨hs, hb⟩ := signed_digits n.toNat
    have hp := decDigits_pos n.toNat
    rw [hb, hs, lead_decDigits, if_neg (by omega), numV_decDigits, if_neg (by decide)]
    unfold sat
    congr 1
    split
    · omega
    · split <;> omega
end Go.Proofs.Ytlmcfflpgkapgaa
