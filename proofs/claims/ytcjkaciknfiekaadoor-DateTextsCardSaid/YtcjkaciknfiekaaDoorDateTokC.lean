/- Contracts of the reference of layer 7: tokens, digits, times, months. -/
import Derived.Test.YtcjkaciknfiekaaDoorDateDelim
import Derived.Test.YtcjkaciknfiekaaDoorAsciiText
import Derived.Test.YtcjkaciknfiekaaDoorOwnAt
namespace Go.Proofs.YtcjkaciknfiekaaDoor
open Go.RowKit
set_option linter.unusedVariables false

theorem tok_len (l : List UInt8) : ∀ T, (tok T l).length ≤ T.length + l.length := by
  induction l with
  | nil =>
    intro T
    unfold tok
    cases T with
    | nil => simp
    | cons x xs => simp
  | cons x r ih =>
    intro T
    unfold tok
    split
    · split
      · have := ih []
        simp at this ⊢
        omega
      · rename_i h
        have := ih []
        have h2 : 1 ≤ T.length := by
          cases T with
          | nil => simp at h
          | cons y ys => simp
        simp at this ⊢
        omega
    · have := ih (T ++ [x])
      simp at this ⊢
      omega

theorem refTokensC (l : List UInt8) (n : Nat) (w : World) (hl : l.length = n) (hm : n ≤ 1000000000000) :
    Calls Tryd.prog 24 #[.string (str l)] w (GivesStrs (tok [] l) w) := by
  have hsz : (str l).size = n := by rw [str_size, hl]
  have hx := str_extract l
  obtain ⟨i0, hi, hz0, hz1, hz2⟩ := info_parts infoStr
  have hown0 := owned_lit w 9
  have hbel0 := below_alloc w (.cells #[] 9)
  have HL := Lib.hid hl
  obtain ⟨G, hG⟩ : ∃ G, GivesStrs (tok [] l) w = G := ⟨_, rfl⟩
  rw [hG]
  have hG' := Lib.hid hG
  have hk := str_toList
  clear hl hG
  go_enter Tryd.func24, Tryd.ntmps24
  go_wp2
  go_loopw [3, 4, 5] (fun v s i wr => ∃ (k N : Nat) (a : Option Addr) (C : Nat) (P : List (List UInt8)) (T : List UInt8), k ≤ n ∧ N ≤ k ∧ T.length ≤ k ∧ v = .slice a N C ∧ s = .string (str T) ∧ i = .int .i64 (k : Int) ∧ Hid (tok [] l = P ++ tok T (l.drop k)) ∧ Owned w.heap.size 9 a N C (strs P) wr ∧ Below w.heap.size w wr) (fun _ _ i _ => n - (intOf i).toNat)
  case atStart => exact ⟨0, 0, _, _, [], [], Nat.zero_le _, Nat.le_refl _, Nat.le_refl _, rfl, rfl, rfl, by unfold Hid; simp, hown0, hbel0⟩
  case round =>
    clear hown0 hbel0
    obtain ⟨k, N, a, C, P, T, hk1, hN, hTl, rfl, rfl, rfl, H, ho, hb⟩ := hrel
    have HO := Lib.hid ho
    have hbs := hb.size
    have HB := Lib.hid hb
    clear ho hb
    by_cases hlt : k < n
    · have hlt' : (k : Int) < (n : Int) := by omega
      have hkl : k < l.length := by rw [HL.out]; exact hlt
      have hix := run_index_str (P := Tryd.prog) wr 9 l .i64 k Tryd.underlying9 hkl
      have HD := fun w => refDelimC (l.getD k 0) w
      have hd : l.drop k = l.getD k 0 :: l.drop (k + 1) := by
        rw [List.drop_eq_getElem_cons hkl]
        simp [List.getD, hkl]
      have hxk := hx k (k + 1)
      rw [cut_one hkl] at hxk
      have H1 := H.out
      rw [hd] at H1
      have ha := fun (w : World) => run_add_str (P := Tryd.prog) w T [l.getD k 0] (by simp; omega)
      cases c : delim (l.getD k 0) with
      | false =>
        rw [c] at HD
        have H2 : Hid (tok [] l = P ++ tok (T ++ [l.getD k 0]) (l.drop (k + 1))) := by
          unfold Hid
          rw [H1, tok, if_neg (by rw [c]; simp)]
        clear H1 hd c H hx
        generalize l.getD k 0 = x at *
        generalize x.toNat = xn at *
        go_wp2_with (go_at_call 36; (with_reducible refine (HD _).mono ?_); rintro e w2 ⟨rfl, rfl⟩)
        go_roundw
        case rel => exact ⟨k + 1, N, a, C, P, T ++ [x], by omega, by omega, by simp; omega, rfl, rfl, by go_num, H2, HO.out, HB.out⟩
        case measure => simp [intOf]; omega
      | true =>
        rw [c] at HD
        clear ha hxk hx
        by_cases hT : T = []
        · subst hT
          have H2 : Hid (tok [] l = P ++ tok [] (l.drop (k + 1))) := by
            unfold Hid
            rw [H1, tok, if_pos c]
            rfl
          clear H1 hd c H
          generalize l.getD k 0 = x at *
          generalize x.toNat = xn at *
          go_wp2_with (go_at_call 36; (with_reducible refine (HD _).mono ?_); rintro e w2 ⟨rfl, rfl⟩)
          go_roundw
          case rel => exact ⟨k + 1, N, a, C, P, [], by omega, by omega, by simp, rfl, rfl, by go_num, H2, HO.out, HB.out⟩
          case measure => simp [intOf]; omega
        · have hbn : (T == []) = false := by
            cases T with
            | nil => exact absurd rfl hT
            | cons y ys => rfl
          have hem : T.isEmpty = false := by
            cases T with
            | nil => exact absurd rfl hT
            | cons y ys => rfl
          have H2 : Hid (tok [] l = (P ++ [T]) ++ tok [] (l.drop (k + 1))) := by
            unfold Hid
            rw [H1, tok, if_pos c, if_neg (by rw [hem]; simp)]
            simp
          clear H1 hd c H hem hT
          generalize l.getD k 0 = x at *
          generalize x.toNat = xn at *
          have hO := HO.out
          go_wp2_with (first
            | (go_at_call 36; (with_reducible refine (HD _).mono ?_); rintro e w2 ⟨rfl, rfl⟩)
            | (at_builtin; refine wpList_append_one rfl (.tmp 27) (.tmp 29) 44 rfl 9 i0 (.string ⟨#[]⟩) 16 Tryd.underlying44 hi hz0 hz1 hz2 rfl hO.1 rfl rfl rfl (by unfold maxLen; omega) (by omega) hbs ?_; intro v2 w2 ho2 hb2; obtain ⟨a2, c2, rfl, ho3⟩ := Owned.of ho2))
          rw [strs_snoc] at ho3
          go_roundw
          case rel => exact ⟨k + 1, N + 1, a2, c2, P ++ [T], [], by omega, by omega, by simp, rfl, rfl, by go_num, H2, ho3, HB.out.trans hb2⟩
          case measure => simp [intOf]; omega
    · obtain rfl : k = n := by omega
      have hO := HO.out
      have H1 := H.out
      rw [List.drop_eq_nil_of_le (by rw [HL.out]; omega)] at H1
      clear hx H
      by_cases hT : T = []
      · subst hT
        have H2 : Hid (tok [] l = P) := by unfold Hid; rw [H1]; simp [tok]
        clear H1
        go_wp2
        rw [← hG'.out, H2.out]
        have e : N = P.length := by rw [← strs_length, ← hO.len]
        subst e
        exact ⟨a, C, rfl, hO, HB.out⟩
      · have hbn : (T == []) = false := by
          cases T with
          | nil => exact absurd rfl hT
          | cons y ys => rfl
        have H2 : Hid (tok [] l = P ++ [T]) := by
          unfold Hid
          rw [H1]
          cases T with
          | nil => exact absurd rfl hT
          | cons y ys => simp [tok]
        clear H1 hT
        go_wp2_with (at_builtin; refine wpList_append_one rfl (.tmp 33) (.tmp 35) 44 rfl 9 i0 (.string ⟨#[]⟩) 16 Tryd.underlying44 hi hz0 hz1 hz2 rfl hO.1 rfl rfl rfl (by unfold maxLen; omega) (by omega) hbs ?_; intro v2 w2 ho2 hb2; obtain ⟨a2, c2, rfl, ho3⟩ := Owned.of ho2)
        rw [strs_snoc] at ho3
        rw [← hG'.out, H2.out]
        have e : N + 1 = (P ++ [T]).length := by rw [← strs_length, ← ho3.len]
        exact ⟨a2, c2, by rw [← e]; rfl, by rw [← e]; exact ho3, HB.out.trans hb2⟩
end Go.Proofs.YtcjkaciknfiekaaDoor
