/- Contracts of the reference of layer 12: the last of a name, the text, are attributes the same. -/
import Derived.Test.YtlmcfflpgkapgaaHeaderRef2
import Derived.Test.YtlmcfflpgkapgaaAsciiRef
import Derived.BigQuiet
namespace Go.Proofs.Ytlmcfflpgkapgaa
open Go.RowKit
set_option linter.unusedVariables false

theorem eqRefPair (a b c d : List UInt8) (w : World) : Sem.run Try.prog (Op.equalIn 10000 29 (.agg #[.string (str a), .string (str b)]) (.agg #[.string (str c), .string (str d)])) w = Result.ok (a == c && b == d) w := by
  have hk := str_toList
  cases h1 : a == c <;> cases h2 : b == d <;> simp [go_sem, hk, h1, h2]

theorem below_drawn {B : Nat} {a w : World} (h : Below B a w) (k : Nat) : Below B a (w.drewN k) := ⟨h.os, h.tape, h.output, h.size, h.block⟩

set_option maxRecDepth 100000 in
theorem refSameHC (a b : Option Addr) (n m c1 c2 : Nat) (L M : List (List UInt8 × List UInt8)) (w : World) (hL : RowOf encP 2 w a n c1 L) (hM : RowOf encP 2 w b m c2 M) :
    Calls Try.prog 10 #[.slice a n c1, .slice b m c2] w fun e w' => e = .returned (.bool (L == M)) ∧ ∃ k, w' = w.drewN k := by
  have hn := hL.leq
  have hm := hM.leq
  by_cases hnm : n = m
  · subst hnm
    have hcm := hL.capm
    have hcl := hL.cle
    unfold maxLen at hcm
    have HL := Lib.hid hL
    have HM := Lib.hid hM
    have Hn := Lib.hid hn
    have Hm := Lib.hid hm
    have hdr : ∀ k, Below w.heap.size w (w.drewN k) := fun k => below_drawn (Below.refl _ w) k
    clear hL hM hn hm
    go_enter Try.func10, Try.ntmps10
    go_wp2
    go_loopw [5] (fun i wr => ∃ k q : Nat, k ≤ n ∧ i = .int .i64 (k : Int) ∧ Hid (L.take k = M.take k) ∧ wr = w.drewN q) (fun i _ => n - (intOf i).toNat)
    case atStart => exact ⟨0, 0, Nat.zero_le _, rfl, rfl, rfl⟩
    case round =>
      obtain ⟨k, q, hk, rfl, hs, rfl⟩ := hrel
      by_cases hlt : k < n
      · have hlt' : (k : Int) < (n : Int) := by omega
        obtain ⟨x1, x2, g1, o1, hx, rfl, cx0, cx1⟩ := pair_at HL.out k hlt
        obtain ⟨y1, y2, g2, o2, hy, rfl, cy0, cy1⟩ := pair_at HM.out k hlt
        have hT : Hid ((x1, x2) = (y1, y2) → L.take (k + 1) = M.take (k + 1)) := fun e => by
          obtain ⟨h1, e1⟩ := List.getElem?_eq_some_iff.1 hx
          obtain ⟨h2, e2⟩ := List.getElem?_eq_some_iff.1 hy
          rw [List.take_succ_eq_append_getElem h1, List.take_succ_eq_append_getElem h2, hs.out, e1, e2, e]
        have hN : Hid ((x1, x2) ≠ (y1, y2) → (L == M) = false) := fun e => by
          rw [beq_eq_false_iff_ne]
          rintro rfl
          rw [hx] at hy
          exact e (by cases hy; rfl)
        have hE := eqRefPair x1 x2 y1 y2
        clear hx hy
        by_cases hxy : (x1, x2) = (y1, y2)
        · have h2 := hT.out hxy
          have h3 := Lib.hid h2
          clear h2 hT hN hs
          cases hxy
          rw [show (x1 == x1 && x2 == x2) = true by simp] at hE
          go_wp2_with fail
          go_quiet (fail)
          go_wp2
          go_roundw
          case rel => exact ⟨k + 1, _, by omega, by go_num, h3, by first | rfl | simp⟩
          case measure => simp [intOf]; omega
        · have h2 := Lib.hid (hN.out hxy)
          have e : (x1 == y1 && x2 == y2) = false := by
            rw [Bool.eq_false_iff]
            intro c
            rw [Bool.and_eq_true, beq_iff_eq, beq_iff_eq] at c
            exact hxy (by rw [c.1, c.2])
          rw [e] at hE
          clear hT hN hs hxy e
          go_wp2_with fail
          go_quiet (fail)
          go_wp2
          go_ret
          exact ⟨by rw [h2.out]; rfl, _, World.drewN_drewN _ _ _⟩
      · obtain rfl : k = n := by omega
        have e : Hid ((L == M) = true) := by
          have h1 := hs.out
          rw [List.take_of_length_le (by rw [Hn.out]; exact Nat.le_refl _), List.take_of_length_le (by rw [Hm.out]; exact Nat.le_refl _)] at h1
          unfold Hid
          rw [h1]
          simp
        go_wp2
        go_ret
        exact ⟨by rw [e.out]; rfl, q, rfl⟩
  · have h1 : (L == M) = false := by
      rw [beq_eq_false_iff_ne]
      rintro rfl
      exact hnm (hn.symm.trans hm)
    have h2 : ¬ (n : Int) = (m : Int) := by omega
    have h3 : ((n : Int) == (m : Int)) = false := beq_eq_false_iff_ne.2 h2
    rw [h1]
    clear hL hM hn hm
    go_enter Try.func10, Try.ntmps10
    go_wp2
    go_ret
    exact ⟨rfl, 0, rfl⟩

theorem below_quiet {w w' : World} (h : ∃ k, w' = w.drewN k) : Below w.heap.size w w' := by
  obtain ⟨k, rfl⟩ := h
  exact below_drawn (Below.refl _ w) k

set_option maxRecDepth 100000 in
theorem refFindHC (a : Option Addr) (n c m : Nat) (L : List (List UInt8 × List UInt8)) (name : List UInt8) (w : World) (hL : RowOf encP 2 w a n c L) (hS : ∀ x ∈ L, x.1.length ≤ 100000) (hm : name.length = m) (hm2 : m ≤ 100000) :
    Calls Try.prog 15 #[.slice a n c, .string (str name)] w fun e w' => e = .returned (.tuple #[.string (str (findH L name).1), .bool (findH L name).2]) ∧ Below w.heap.size w w' := by
  have hn := hL.leq
  have hcm := hL.capm
  have hcl := hL.cle
  unfold maxLen at hcm
  have HL := Lib.hid hL
  have Hn := Lib.hid hn
  have HW := fun w => refLowerC name m w hm (by unfold maxLen; omega)
  unfold GivesStr at HW
  have h0 : Hid (findH (L.take 0) name = ([], false)) := rfl
  have hk := str_toList
  have hnil : str [] = ⟨#[]⟩ := rfl
  clear hL hn hm
  go_enter Try.func15, Try.ntmps15
  go_wp2
  go_loopw [6, 7, 8] (fun v t i wr => ∃ k : Nat, k ≤ n ∧ v = .string (str (findH (L.take k) name).1) ∧ t = .bool (findH (L.take k) name).2 ∧ i = .int .i64 (k : Int) ∧ Below w.heap.size w wr) (fun _ _ i _ => n - (intOf i).toNat)
  case atStart => exact ⟨0, Nat.zero_le _, by rw [h0.out, hnil], by rw [h0.out], rfl, Below.refl _ _⟩
  case round =>
    obtain ⟨k, hk2, rfl, rfl, rfl, hb⟩ := hrel
    by_cases hlt : k < n
    · have hlt' : (k : Int) < (n : Int) := by omega
      have hkL : k < L.length := by rw [Hn.out]; exact hlt
      obtain ⟨x1, x2, g, off, hx, rfl, c0, c1⟩ := pair_at (HL.out.below hb) k hlt
      have e := (List.getElem?_eq_some_iff.1 hx).2
      have hst := findH_take (name := name) hkL
      rw [e] at hst
      have H2 := Lib.hid hst
      have hx1 : x1.length ≤ 100000 := hS (x1, x2) (e ▸ List.getElem_mem hkL)
      have HX := fun w => refLowerC x1 x1.length w rfl (by unfold maxLen; omega)
      unfold GivesStr at HX
      clear hst e hx
      dsimp only at *
      generalize findH (L.take k) name = F at *
      obtain ⟨v, t⟩ := F
      generalize x1.map low = y1 at *
      generalize name.map low = y2 at *
      cases hc : y1 == y2 with
      | true =>
        have H3 : Hid (findH (L.take (k + 1)) name = (x2, true)) := by unfold Hid; rw [H2.out, if_pos hc]
        clear H2
        go_wp2_with (first
          | (go_at_call 28; (with_reducible refine (HX _).mono ?_); rintro e w2 ⟨rfl, hx⟩; have c1 := (hx.cell (cell_lt c1)).trans c1; have hb := hb.trans (hx.mono hb.size); clear hx)
          | (go_at_call 28; (with_reducible refine (HW _).mono ?_); rintro e w2 ⟨rfl, hx⟩; have c1 := (hx.cell (cell_lt c1)).trans c1; have hb := hb.trans (hx.mono hb.size); clear hx))
        go_roundw
        case rel => exact ⟨k + 1, by omega, by rw [H3.out], by rw [H3.out], by go_num, hb⟩
        case measure => simp [intOf]; omega
      | false =>
        have H3 : Hid (findH (L.take (k + 1)) name = (v, t)) := by unfold Hid; rw [H2.out, if_neg (by rw [hc]; decide)]
        clear H2
        go_wp2_with (first
          | (go_at_call 28; (with_reducible refine (HX _).mono ?_); rintro e w2 ⟨rfl, hx⟩; have c1 := (hx.cell (cell_lt c1)).trans c1; have hb := hb.trans (hx.mono hb.size); clear hx)
          | (go_at_call 28; (with_reducible refine (HW _).mono ?_); rintro e w2 ⟨rfl, hx⟩; have c1 := (hx.cell (cell_lt c1)).trans c1; have hb := hb.trans (hx.mono hb.size); clear hx))
        go_roundw
        case rel => exact ⟨k + 1, by omega, by rw [H3.out], by rw [H3.out], by go_num, hb⟩
        case measure => simp [intOf]; omega
    · obtain rfl : k = n := by omega
      have e : Hid (L.take k = L) := by unfold Hid; rw [List.take_of_length_le (by rw [Hn.out]; exact Nat.le_refl _)]
      go_wp2
      go_ret2
      exact ⟨by rw [e.out]; rfl, hb⟩

set_option maxRecDepth 100000 in
theorem refTextHC (p : List UInt8 × List UInt8) (a : Option Addr) (n c : Nat) (L : List (List UInt8 × List UInt8)) (w : World) (hL : RowOf encP 2 w a n c L) (hlen : (textH p L).length ≤ 10000000) :
    Calls Try.prog 17 #[valP p, .slice a n c] w fun e w' => e = .returned (.string (str (textH p L))) ∧ Below w.heap.size w w' := by
  have hn := hL.leq
  have hcm := hL.capm
  have hcl := hL.cle
  unfold maxLen at hcm
  have HL := Lib.hid hL
  have Hn := Lib.hid hn
  have HT := Lib.hid hlen
  have h0 : Hid (textH p (L.take 0) = pairT p) := rfl
  have hk := str_toList
  have hnil : str [] = ⟨#[]⟩ := rfl
  have hle0 := text_le p L 0
  rw [show textH p (L.take 0) = pairT p from rfl] at hle0
  obtain ⟨p1, p2⟩ := p
  unfold valP
  dsimp only
  have hpl : (pairT (p1, p2)).length = p1.length + p2.length + 1 := by unfold pairT; simp; omega
  have a1 := fun (w : World) => run_add_str (P := Try.prog) w p1 [61] (by simp; omega)
  have a2 := fun (w : World) => run_add_str (P := Try.prog) w (p1 ++ [61]) p2 (by simp; omega)
  rw [show str [61] = ⟨#[61]⟩ from rfl] at a1
  have hpt : Hid (p1 ++ [61] ++ p2 = pairT (p1, p2)) := by unfold Hid pairT; simp
  have hb0 := below_alloc w (.cells #[.string (str p1), .string (str p2)] 29)
  clear hL hn hlen hle0 hpl
  go_enter Try.func17, Try.ntmps17
  go_wp2
  go_loopw [5, 6] (fun v i wr => ∃ k : Nat, k ≤ n ∧ v = .string (str (textH (p1, p2) (L.take k))) ∧ i = .int .i64 (k : Int) ∧ Below w.heap.size w wr) (fun _ i _ => n - (intOf i).toNat)
  case atStart => exact ⟨0, Nat.zero_le _, by rw [h0.out, ← hpt.out]; simp, rfl, hb0⟩
  case round =>
    clear hb0
    obtain ⟨k, hk2, rfl, rfl, hb⟩ := hrel
    by_cases hlt : k < n
    · have hlt' : (k : Int) < (n : Int) := by omega
      have hkL : k < L.length := by rw [Hn.out]; exact hlt
      obtain ⟨x1, x2, g, off, hx, rfl, c0, c1⟩ := pair_at (HL.out.below hb) k hlt
      have e := (List.getElem?_eq_some_iff.1 hx).2
      have hst := textH_take (p := (p1, p2)) hkL
      rw [e] at hst
      have hl1 := text_le (p1, p2) L (k + 1)
      have hTo := HT.out
      have hl2 : (textH (p1, p2) (L.take k)).length + x1.length + x2.length + 2 ≤ (textH (p1, p2) (L.take (k + 1))).length := by
        rw [hst]
        unfold attrT
        by_cases h : x2 = []
        · simp [h]; omega
        · simp [h]; omega
      have H2 := Lib.hid hst
      clear hst e hx
      generalize textH (p1, p2) (L.take k) = A at *
      obtain ⟨B, hB⟩ : ∃ B, A ++ [59, 32] = B := ⟨_, rfl⟩
      obtain ⟨C, hC⟩ : ∃ C, B ++ x1 = C := ⟨_, rfl⟩
      obtain ⟨D, hD⟩ : ∃ D, C ++ [61] = D := ⟨_, rfl⟩
      obtain ⟨E, hE⟩ : ∃ E, D ++ x2 = E := ⟨_, rfl⟩
      have lB : B.length = A.length + 2 := by rw [← hB]; simp
      have lC : C.length = B.length + x1.length := by rw [← hC]; simp
      have lD : D.length = C.length + 1 := by rw [← hD]; simp
      have b1 := fun (w : World) => run_add_str (P := Try.prog) w A [59, 32] (by simp; omega)
      have b2 := fun (w : World) => run_add_str (P := Try.prog) w B x1 (by omega)
      have b3 := fun (w : World) => run_add_str (P := Try.prog) w C [61] (by simp; omega)
      have b4 := fun (w : World) => run_add_str (P := Try.prog) w D x2 (by omega)
      rw [show str [59, 32] = ⟨#[59, 32]⟩ from rfl, hB] at b1
      rw [show str [61] = ⟨#[61]⟩ from rfl, hD] at b3
      rw [hC] at b2
      rw [hE] at b4
      have HE : Hid (A ++ [59, 32] ++ x1 = C ∧ A ++ [59, 32] ++ x1 ++ [61] ++ x2 = E) := ⟨by rw [hB, hC], by rw [hB, hC, hD, hE]⟩
      clear hB hC hD hE lB lC lD
      clear hl1 hl2 hTo a1 a2
      by_cases h : x2 = []
      · subst h
        have H3 : Hid (textH (p1, p2) (L.take (k + 1)) = A ++ [59, 32] ++ x1) := by unfold Hid; rw [H2.out]; simp [attrT]
        rw [HE.out.1] at H3
        clear H2 b3 b4
        go_wp2
        go_roundw
        case rel => exact ⟨k + 1, by omega, by rw [H3.out], by go_num, hb⟩
        case measure => simp [intOf]; omega
      · have hne : (x2 == []) = false := beq_eq_false_iff_ne.2 h
        have H3 : Hid (textH (p1, p2) (L.take (k + 1)) = A ++ [59, 32] ++ x1 ++ [61] ++ x2) := by unfold Hid; rw [H2.out]; simp [attrT, h]
        rw [HE.out.2] at H3
        clear H2
        go_wp2
        go_roundw
        case rel => exact ⟨k + 1, by omega, by rw [H3.out], by go_num, hb⟩
        case measure => simp [intOf]; omega
    · obtain rfl : k = n := by omega
      have e : Hid (L.take k = L) := by unfold Hid; rw [List.take_of_length_le (by rw [Hn.out]; exact Nat.le_refl _)]
      go_wp2
      go_ret
      exact ⟨by rw [e.out]; rfl, hb⟩
end Go.Proofs.Ytlmcfflpgkapgaa
