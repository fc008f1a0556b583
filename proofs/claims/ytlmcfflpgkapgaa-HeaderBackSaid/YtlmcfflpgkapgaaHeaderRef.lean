/- Contracts of the reference of layer 12: a pair. -/
import Derived.Test.YtlmcfflpgkapgaaHeaderPlain
import Derived.Test.YtlmcfflpgkapgaaAsciiRef2
import Derived.Test.YtlmcfflpgkapgaaAsciiRef3
import Derived.Test.YtlmcfflpgkapgaaRow
import Derived.Test.YtlmcfflpgkapgaaObj
import Derived.Deep.RegionHeld3
namespace Go.Proofs.Ytlmcfflpgkapgaa
open Go.RowKit
set_option linter.unusedVariables false

/-- The cells of a pair of texts. -/
def encP (x : List UInt8 × List UInt8) : List Value := [.string (str x.1), .string (str x.2)]
def valP (x : List UInt8 × List UInt8) : Value := .agg #[.string (str x.1), .string (str x.2)]
theorem encP_len (x : List UInt8 × List UInt8) : (encP x).length = 2 := rfl
theorem encP_one (x : List UInt8 × List UInt8) : ∀ u ∈ encP x, u.oneCell' = true := by
  intro u hu
  simp only [encP, List.mem_cons, List.not_mem_nil, or_false] at hu
  rcases hu with rfl | rfl <;> rfl

theorem pair_at {w : World} {a : Option Addr} {n c : Nat} {L : List (List UInt8 × List UInt8)} (h : RowOf encP 2 w a n c L) (k : Nat) (hk : k < n) :
    ∃ x1 x2 g off, L[k]? = some (x1, x2) ∧ a = some ⟨g, off, none⟩ ∧ w.cell? ⟨g, off + k * 2, none⟩ = some (.string (str x1)) ∧ w.cell? ⟨g, off + k * 2 + 1, none⟩ = some (.string (str x2)) := by
  obtain ⟨⟨x1, x2⟩, g, off, h1, h2, h3⟩ := h.at k hk
  exact ⟨x1, x2, g, off, h1, h2, h3 0 _ rfl, h3 1 _ rfl⟩

theorem refFindEqC (l : List UInt8) (n : Nat) (w : World) (hl : l.length = n) (hm : n ≤ maxLen) :
    Calls Try.prog 25 #[.string (str l), .int .u8 61] w fun e w' => e = .returned (.int .i64 (findL l 61)) ∧ w = w' := refFindC l 61 n w hl hm

set_option maxRecDepth 100000 in
theorem refPairC (s : List UInt8) (n : Nat) (w : World) (hs : s.length = n) (hm : n ≤ 100000) :
    Calls Try.prog 24 #[.string (str s)] w fun e w' => e = .returned (valP (pairL s)) ∧ Below w.heap.size w w' := by
  have HF := fun w => refFindEqC s n w hs (by unfold maxLen; omega)
  have hb := Below.refl w.heap.size w
  have o0 := ObjAt.new w #[.string ⟨#[]⟩, .string ⟨#[]⟩] 29
  have hb1 := below_alloc w (.cells #[.string ⟨#[]⟩, .string ⟨#[]⟩] 29)
  have hle : s.findIdx (· == 61) ≤ n := by rw [← hs]; exact List.findIdx_le_length
  unfold findL at HF
  unfold pairL valP
  rw [hs] at HF ⊢
  by_cases h1 : s.findIdx (· == 61) = n
  · rw [if_pos h1] at HF ⊢
    have HT := fun w => refTrimC s n w hs (by unfold maxLen; omega)
    generalize trimL s = t at *
    have k5 : (-1 : Int) < 0 := by decide
    have o1 := ObjAt.new w #[.string (str t), .string ⟨#[]⟩] 29
    have r0 := o1.cell 0 rfl
    have r1 := o1.cell 1 rfl
    clear hle h1 o0 hb1 hm hs
    go_enter Try.func24, Try.ntmps24
    go_wp2_with (first
      | (go_at_call 25; (with_reducible refine (HF _).mono ?_); rintro e w1 ⟨rfl, rfl⟩)
      | (go_at_call 36; (with_reducible refine (HT _).mono ?_); rintro e w1 ⟨rfl, rfl⟩))
    exact bodyPost_ret (v := .agg #[.string (str t), .string ⟨#[]⟩]) (by simp [results, Try.results24, go_sem, r0, r1]) rfl ⟨rfl, hb.alloc (Nat.le_refl _) _⟩
  · rw [if_neg h1] at HF ⊢
    generalize s.findIdx (· == 61) = i at *
    have hx1 : (str s).extract 0 i = str (s.take i) := by rw [str_extract]; simp
    have hx2 : (str s).extract (i + 1) n = str (s.drop (i + 1)) := by rw [str_extract, List.take_of_length_le (by rw [List.length_drop, hs]; omega)]
    have hsz : (str s).size = n := by rw [str_size, hs]
    have HT1 := fun w => refTrimC (s.take i) i w (by rw [List.length_take]; omega) (by unfold maxLen; omega)
    have HT2 := fun w => refTrimC (s.drop (i + 1)) (n - (i + 1)) w (by rw [List.length_drop, hs]) (by unfold maxLen; omega)
    generalize s.take i = a at *
    generalize s.drop (i + 1) = b at *
    generalize trimL a = ta at *
    generalize trimL b = tb at *
    have k1 : (i : Int) ≤ (n : Int) := by omega
    have k2 : (i : Int) + 1 ≤ (n : Int) := by omega
    have k3 : (0 : Int) ≤ (i : Int) := by omega
    have k4 : (0 : Int) ≤ (i : Int) + 1 := by omega
    have k5 : ¬ (i : Int) < 0 := by omega
    obtain ⟨J, hJ⟩ : ∃ J, i + 1 = J := ⟨_, rfl⟩
    rw [hJ] at hx2
    have hwr : IntKind.i64.wrap ((i : Int) + 1) = (J : Int) := by rw [IntKind.wrap_i64]; omega
    have k6 : (J : Int) ≤ (n : Int) := by omega
    clear hs hm hle h1 hJ k2 k4
    go_enter Try.func24, Try.ntmps24
    go_wp2_with (go_at_call 25; (with_reducible refine (HF _).mono ?_); rintro e w1 ⟨rfl, rfl⟩)
    go_region_law (first
      | (go_simp; go_at_call 36; (with_reducible refine (HT1 _).mono ?_); rintro e w1 ⟨rfl, rfl⟩)
      | (go_simp; go_at_call 36; (with_reducible refine (HT2 _).mono ?_); rintro e w1 ⟨rfl, rfl⟩))
    all_goals
      have o1 := (ObjAt.new w #[.string (str ta), .string (str tb)] 29).drew
      have r0 := o1.cell 0 rfl
      have r1 := o1.cell 1 rfl
      go_wp2
      exact bodyPost_ret (v := .agg #[.string (str ta), .string (str tb)]) (by simp [results, Try.results24, go_sem, r0, r1]) rfl ⟨rfl, (hb.alloc (Nat.le_refl _) _).drew⟩
end Go.Proofs.Ytlmcfflpgkapgaa
