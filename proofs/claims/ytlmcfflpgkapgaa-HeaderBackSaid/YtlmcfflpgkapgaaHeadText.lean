/- Contracts of layer 12: the text of a pair and its attributes, left off where it is too long. -/
import Derived.Test.YtlmcfflpgkapgaaAppText
import Derived.Test.YtlmcfflpgkapgaaObj
import Derived.Test.YtlmcfflpgkapgaaHeaderRef3
namespace Go.Proofs.Ytlmcfflpgkapgaa
open Go.RowKit
set_option linter.unusedVariables false

theorem infoByte : (Try.prog.info? 5).map (fun i => (i.zero, i.size, i.bytes)) = some (some (.int .u8 0), 1, 1) := by kernel_rfl

theorem ObjAt.grown {w w' : World} {b g : Nat} {vs : List Value} (h : ObjAt w b vs) (hg : w.grownBy w' (some g)) (hne : b ≠ g) : ObjAt w' b vs := by
  have hlt := h.lt
  obtain ⟨e, h⟩ := h.heap
  exact ⟨e, (hg.block b hlt (fun e => hne (by cases e; rfl))).trans h⟩

set_option maxRecDepth 100000 in
/-- The whole text, or more than 4096 bytes of one that has more than 4096. -/
theorem headTextC (p : List UInt8 × List UInt8) (a : Option Addr) (n c : Nat) (L : List (List UInt8 × List UInt8)) (w : World) (hL : RowOf encP 2 w a n c L) (hlen : (textH p L).length ≤ 100000) :
    Calls Try.prog 29 #[valP p, .slice a n c] w fun e w' => ∃ T, e = .returned (.string (str T)) ∧ T.length ≤ 100000 ∧ (T = textH p L ∨ 4096 < T.length ∧ 4096 < (textH p L).length) ∧ Below w.heap.size w w' := by
  have hn := hL.leq
  have hcm := hL.capm
  have hcl := hL.cle
  unfold maxLen at hcm
  have HL := Lib.hid hL
  have Hn := Lib.hid hn
  have HT := Lib.hid hlen
  have h0 : Hid (textH p (L.take 0) = pairT p) := rfl
  have hk := str_toList
  have hnil : str [] = ⟨#[]⟩ := rfl
  have hle0 := text_le p L 0
  rw [show textH p (L.take 0) = pairT p from rfl] at hle0
  obtain ⟨p1, p2⟩ := p
  unfold valP
  dsimp only
  have hpl : (pairT (p1, p2)).length = p1.length + p2.length + 1 := by unfold pairT; simp; omega
  have a1 := fun (w : World) => run_add_str (P := Try.prog) w p1 [61] (by simp; omega)
  have a2 := fun (w : World) => run_add_str (P := Try.prog) w (p1 ++ [61]) p2 (by simp; omega)
  rw [show str [61] = ⟨#[61]⟩ from rfl] at a1
  have hpt : p1 ++ [61] ++ p2 = pairT (p1, p2) := by unfold pairT; simp
  rw [hpt] at a2
  have hb0 := below_alloc w (.cells #[.string (str p1), .string (str p2)] 24)
  obtain ⟨S, hS⟩ : ∃ S, pairT (p1, p2) = S := ⟨_, rfl⟩
  rw [hS] at h0 a2 hle0
  obtain ⟨m, hm⟩ : ∃ m, S.length = m := ⟨_, rfl⟩
  have hSm : m ≤ 100000 := by omega
  have hsz : (str S).size = m := by rw [str_size, hm]
  have hcv := fun w : World => Lib.run_convert_string_bytes (P := Try.prog) w 9 60 5 (str S) Try.underlying9 Try.underlying60 Try.underlying5
  rw [hsz] at hcv
  have hB0 := TextAt.new (w.alloc (.cells #[.string (str p1), .string (str p2)] 24)) 5 S m hm (by unfold maxLen; omega)
  have hb1 : Below w.heap.size w (Lib.bytesWorld (w.alloc (.cells #[.string (str p1), .string (str p2)] 24)) 5 (str S)) :=
    hb0.trans (Below.mono ⟨rfl, rfl, rfl, by rw [Lib.bytesWorld_size]; omega, fun k hk => Lib.bytesWorld_at_old _ 5 (str S) k hk⟩ (show w.heap.size ≤ (w.alloc (.cells #[.string (str p1), .string (str p2)] 24)).heap.size by simp))
  obtain ⟨i0, hi, hz0, hz1, hz2⟩ := info_parts infoByte
  have hHm := Lib.hid hm
  clear hL hn hlen hle0 hpl hpt hS hm
  go_enter Try.func29, Try.ntmps29
  go_wp2
  simp only [World.size_alloc] at hB0
  have hB1 := hB0
  clear hcv a1 a2
  generalize Lib.bytesWorld (w.alloc (.cells #[.string (str p1), .string (str p2)] 24)) 5 (str S) = w1 at *
  go_loopw [5, 17] (fun b i wr => ∃ k g N C : Nat, k ≤ n ∧ b = .slice (some ⟨g, 0, none⟩) N C ∧ i = .int .i64 (k : Int) ∧ Hid (TextAt (w.heap.size + 1) g N C (textH (p1, p2) (L.take k)) wr) ∧ Hid (Below w.heap.size w wr)) (fun _ i _ => n - (intOf i).toNat)
  case atStart => exact ⟨0, _, _, _, Nat.zero_le _, rfl, rfl, by rw [h0.out]; exact hB1, hb1⟩
  case round =>
    clear hB0 hB1 hb1 hb0
    obtain ⟨k, g, N, C, hk2, rfl, rfl, hX, hb⟩ := hrel
    have hgl := hX.out.lt
    have hNl := hX.out.len
    have hTo := HT.out
    have hl0 := text_le (p1, p2) L k
    have hws : w.heap.size ≤ wr.heap.size := hb.out.size
    by_cases hlt : k < n
    · have hlt' : (k : Int) < (n : Int) := by omega
      have hkL : k < L.length := by rw [Hn.out]; exact hlt
      obtain ⟨x1, x2, ga, off, hx, rfl, c0, c1⟩ := pair_at (HL.out.below hb.out) k hlt
      have e := (List.getElem?_eq_some_iff.1 hx).2
      have hst := textH_take (p := (p1, p2)) hkL
      rw [e] at hst
      have hl1 := text_le (p1, p2) L (k + 1)
      have hl2 : N + x1.length + x2.length + 2 ≤ (textH (p1, p2) (L.take (k + 1))).length := by
        rw [hst, ← hNl]
        unfold attrT
        by_cases h : x2 = []
        · simp [h]; omega
        · simp [h]; omega
      have H2 := Lib.hid hst
      have HE := Lib.hid (show N ≤ 100000 ∧ N ≤ (textH (p1, p2) L).length by omega)
      have hsum : N + x1.length + x2.length + 2 ≤ 100000 := by omega
      have hsum2 : x2 ≠ [] → N + x1.length + x2.length + 3 ≤ 100000 := fun h => by
        have : (textH (p1, p2) (L.take (k + 1))).length = N + x1.length + x2.length + 3 := by
          rw [hst, ← hNl]
          simp [attrT, h]
          omega
        omega
      have o0 := ObjAt.new wr #[.string (str x1), .string (str x2)] 24
      have hX0 := Lib.hid (hX.out.alloc (.cells #[.string (str x1), .string (str x2)] 24))
      have hb2 := Lib.hid (hb.out.alloc hb.out.size (.cells #[.string (str x1), .string (str x2)] 24))
      have hbk := hX0.out.back (P := Try.prog) 60 9 5 Try.underlying60 Try.underlying5 Try.underlying9
      have hvs : wr.heap.size + 1 = (wr.alloc (.cells #[.string (str x1), .string (str x2)] 24)).heap.size := by simp
      have hne : wr.heap.size ≠ g := by omega
      clear hst e hx hX hb hl0 hl1 hTo hl2
      by_cases h4 : 4096 < N
      · have h4' : (4096 : Int) < (N : Int) := by omega
        generalize hv : wr.alloc (.cells #[.string (str x1), .string (str x2)] 24) = v at *
        clear H2 hNl
        go_wp2
        go_ret
        exact ⟨_, rfl, by rw [hX0.out.len]; exact HE.out.1, .inr ⟨by rw [hX0.out.len]; exact h4, by have := HE.out.2; omega⟩, hb2.out⟩
      · have h4' : ¬ (4096 : Int) < (N : Int) := by omega
        generalize hv : wr.alloc (.cells #[.string (str x1), .string (str x2)] 24) = v at *
        have d0 := o0.cell 0 rfl
        have d1 := o0.cell 1 rfl
        obtain ⟨E1, hE1⟩ : ∃ E, [59, 32] ++ x1 = E := ⟨_, rfl⟩
        obtain ⟨q1, lE1⟩ : ∃ q, E1.length = q := ⟨_, rfl⟩
        have lq1 : q1 ≤ x1.length + 2 := by rw [← lE1, ← hE1]; simp
        have b1 := fun (w : World) => run_add_str (P := Try.prog) w [59, 32] x1 (by simp; omega)
        rw [show str [59, 32] = ⟨#[59, 32]⟩ from rfl, hE1] at b1
        have HE1 := Lib.hid hE1
        clear hE1 hbk hNl
        by_cases h : x2 = []
        · have hne2 : (x2 == []) = true := by rw [h]; rfl
          clear hsum2
          have H3 : Hid (textH (p1, p2) (L.take (k + 1)) = textH (p1, p2) (L.take k) ++ E1) := by unfold Hid; rw [H2.out, ← HE1.out]; simp [attrT, h]
          clear H2 HE1 h
          go_wp2_with (at_builtin; refine wpList_append_text (by rfl) (.tmp 24) (.tmp 27) 60 9 rfl 5 i0 Try.underlying60 Try.underlying9 hi hz0 hz1 hz2 hX0.out rfl E1 q1 lE1 rfl (by unfold maxLen; omega) (by omega) (by omega) ?_; intro g2 C2 w2 hX2 hg2; have d1 := (o0.grown hg2 hne).cell 1 rfl; have hX2 := Lib.hid hX2; have hg2 := Lib.hid hg2)
          go_roundw
          case rel => exact ⟨k + 1, g2, N + q1, C2, by omega, rfl, by go_num, by rw [H3.out]; exact hX2.out, hb2.out.grown hg2.out hb2.out.size (fun j e => by cases e; have := hX0.out.low; omega)⟩
          case measure => simp [intOf]; omega
        · have hne2 : (x2 == []) = false := beq_eq_false_iff_ne.2 h
          obtain ⟨E2, hE2⟩ : ∃ E, [61] ++ x2 = E := ⟨_, rfl⟩
          obtain ⟨q2, lE2⟩ : ∃ q, E2.length = q := ⟨_, rfl⟩
          have lq2 : q2 ≤ x2.length + 1 := by rw [← lE2, ← hE2]; simp
          have b2 := fun (w : World) => run_add_str (P := Try.prog) w [61] x2 (by simp; omega)
          rw [show str [61] = ⟨#[61]⟩ from rfl, hE2] at b2
          have H3 : Hid (textH (p1, p2) (L.take (k + 1)) = textH (p1, p2) (L.take k) ++ E1 ++ E2) := by unfold Hid; rw [H2.out, ← HE1.out, ← hE2]; simp [attrT, h]
          clear H2 HE1 hE2 h
          go_wp2_with (first
            | (at_builtin; refine wpList_append_text (by rfl) (.tmp 24) (.tmp 27) 60 9 rfl 5 i0 Try.underlying60 Try.underlying9 hi hz0 hz1 hz2 hX0.out rfl E1 q1 lE1 rfl (by unfold maxLen; omega) (by omega) (by omega) ?_; intro g2 C2 w2 hX2 hg2; have d1 := (o0.grown hg2 hne).cell 1 rfl; have hX2 := Lib.hid hX2; have hg2 := Lib.hid hg2; have hs2 := hg2.out.size)
            | (at_builtin; refine wpList_append_text (by rfl) (.tmp 32) (.tmp 35) 60 9 rfl 5 i0 Try.underlying60 Try.underlying9 hi hz0 hz1 hz2 hX2.out rfl E2 q2 lE2 rfl (by unfold maxLen; omega) (by omega) (by omega) ?_; intro g3 C3 w3 hX3 hg3; have hX3 := Lib.hid hX3; have hg3 := Lib.hid hg3))
          go_roundw
          case rel => exact ⟨k + 1, g3, N + q1 + q2, C3, by omega, rfl, by go_num, by rw [H3.out]; exact hX3.out, (hb2.out.grown hg2.out hb2.out.size (fun j e => by cases e; have := hX0.out.low; omega)).grown hg3.out (Nat.le_trans hb2.out.size hg2.out.size) (fun j e => by cases e; have := hX2.out.low; omega)⟩
          case measure => simp [intOf]; omega
    · obtain rfl : k = n := by omega
      have e : Hid (L.take k = L) := by unfold Hid; rw [List.take_of_length_le (by rw [Hn.out]; exact Nat.le_refl _)]
      have hbk := hX.out.back (P := Try.prog) 60 9 5 Try.underlying60 Try.underlying5 Try.underlying9
      rw [e.out] at hbk
      clear hl0 hTo hNl
      go_wp2
      go_ret
      exact ⟨_, rfl, HT.out, .inl rfl, hb.out⟩
end Go.Proofs.Ytlmcfflpgkapgaa
