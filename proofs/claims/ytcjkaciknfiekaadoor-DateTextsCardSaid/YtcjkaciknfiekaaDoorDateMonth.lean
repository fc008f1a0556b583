/- Contracts of layer 7: is a token a month, and where it is put. -/
import Derived.Test.YtcjkaciknfiekaaDoorDateMatch
import Derived.KernelRfl
namespace Go.Proofs.YtcjkaciknfiekaaDoor
open Go.RowKit
set_option linter.unusedVariables false

theorem mon_low : ∀ k, k < 12 → (monTop.getD k []).map low = monTab.getD k [] := by decide +kernel

theorem monK_no (l : List UInt8) (k : Nat) (h : k < monK l) (hk : k < 12) : ((l.take 3).map low == (monTop.getD k []).map low) = false := by
  rw [mon_low k hk]
  have h2 : k < monTab.length := hk
  have := List.not_of_lt_findIdx h
  have e : monTab.getD k [] = monTab[k] := by simp [List.getD, h2]
  rw [e, beq_eq_false_iff_ne]
  intro c
  simp [c] at this
theorem monK_yes (l : List UInt8) (h : monK l < 12) : ((l.take 3).map low == (monTop.getD (monK l) []).map low) = true := by
  rw [mon_low _ h]
  have h2 : monK l < monTab.length := h
  have := List.findIdx_getElem (w := h2)
  have e : monTab.getD (monK l) [] = monTab[monK l] := by simp [List.getD, h2]
  rw [e, beq_iff_eq]
  exact (beq_iff_eq.1 this).symm

/-- A name out of the list of months. -/
theorem index12 (S : Nat → ByteArray) (k : Nat) (hk : k < 12) (w : World) : (Instr.index 51 (.agg #[Value.string (S 0), Value.string (S 1), Value.string (S 2), Value.string (S 3), Value.string (S 4), Value.string (S 5), Value.string (S 6), Value.string (S 7), Value.string (S 8), Value.string (S 9), Value.string (S 10), Value.string (S 11)]) (.int .i64 (k : Int))).run Tryd.prog w = .ok (.string (S k)) w := by
  rcases (show k = 0 ∨ k = 1 ∨ k = 2 ∨ k = 3 ∨ k = 4 ∨ k = 5 ∨ k = 6 ∨ k = 7 ∨ k = 8 ∨ k = 9 ∨ k = 10 ∨ k = 11 by omega) with rfl | rfl | rfl | rfl | rfl | rfl | rfl | rfl | rfl | rfl | rfl | rfl
  all_goals kernel_rfl

theorem isMonthC (l : List UInt8) (n B : Nat) (y m d h mi se : Int) (w : World) (hl : l.length = n) (hm : n ≤ maxLen) (hp : PAt B y m d h mi se w) (hT : DTab w) :
    Calls Tryd.prog 33 #[.pointer (some ⟨B, 0, none⟩), .string (str l)] w (MatchIs (decide (0 < monL l)) B y (if 0 < monL l then (monL l : Int) else m) d h mi se w) := by
  have hsz : (str l).size = n := by rw [str_size, hl]
  by_cases h3 : n < 3
  · have e : monL l = 0 := by unfold monL; rw [if_pos (by omega)]
    rw [e]
    have HP := Lib.hid hp
    have h3' : (n : Int) < 3 := by omega
    clear hp e
    simp only [Nat.lt_irrefl, decide_false, if_false]
    go_enter Tryd.func33, Tryd.ntmps33
    go_wp2
    go_ret
    exact ⟨rfl, HP.out, Kept.refl _ _ _⟩
  · obtain ⟨S, hS⟩ : ∃ S : Nat → ByteArray, ∀ k, S k = str (monTop.getD k []) := ⟨fun k => str (monTop.getD k []), fun _ => rfl⟩
    have g : ∀ k, k < 12 → w.cell? ⟨0, k, none⟩ = some (.string (S k)) := fun k hk => by rw [hS]; exact hT.mon k hk
    have g0 := g 0 (by omega)
    have g1 := g 1 (by omega)
    have g2 := g 2 (by omega)
    have g3 := g 3 (by omega)
    have g4 := g 4 (by omega)
    have g5 := g 5 (by omega)
    have g6 := g 6 (by omega)
    have g7 := g 7 (by omega)
    have g8 := g 8 (by omega)
    have g9 := g 9 (by omega)
    have g10 := g 10 (by omega)
    have g11 := g 11 (by omega)
    have h3' : ¬ (n : Int) < 3 := by omega
    have hx : (str l).extract 0 3 = str (l.take 3) := by rw [str_extract]; simp
    have HS := Lib.hid (fun (k : Nat) (hk : k < 12) (w : World) => sameC (l.take 3) (monTop.getD k []) 3 (monTop.getD k []).length w (by simp; omega) (by omega) rfl (by have : ∀ k, k < 12 → (monTop.getD k []).length ≤ maxLen := by decide
                                                                                                                                                                         exact this k hk))
    have hK1 := Lib.hid (monK_no l)
    have hK2 := Lib.hid (monK_yes l)
    have hK3 : Hid (monL l = if monK l < 12 then monK l + 1 else 0) := by unfold Hid monL; rw [if_neg (by omega)]
    have hS' := Lib.hid hS
    have HP := Lib.hid hp
    have c1 := hp.c1
    have f1 := hp.f 1 (by omega)
    have hlt := hp.lt
    obtain ⟨L, hL⟩ : ∃ L, monL l = L := ⟨_, rfl⟩
    rw [hL] at hK3 ⊢
    obtain ⟨G, hG⟩ : ∃ G, MatchIs (decide (0 < L)) B y (if 0 < L then (L : Int) else m) d h mi se w = G := ⟨_, rfl⟩
    rw [hG]
    have hG' := Lib.hid hG
    generalize monK l = K at *
    generalize l.take 3 = t at *
    clear hG hL hS hp g
    go_enter Tryd.func33, Tryd.ntmps33
    go_wp2
    generalize hV : (#[Value.string (S 0), Value.string (S 1), Value.string (S 2), Value.string (S 3), Value.string (S 4), Value.string (S 5), Value.string (S 6), Value.string (S 7), Value.string (S 8), Value.string (S 9), Value.string (S 10), Value.string (S 11)] : Array Value) = V
    have hVk := Lib.hid (fun k hk w => index12 S k hk w)
    rw [hV] at hVk
    clear hV
    go_loopw [11] (fun i wr => ∃ k : Nat, k ≤ 12 ∧ k ≤ K ∧ i = .int .i64 (k : Int) ∧ Below w.heap.size w wr) (fun i _ => 12 - (intOf i).toNat)
    case atStart => exact ⟨0, Nat.zero_le _, Nat.zero_le _, rfl, Below.refl _ _⟩
    case round =>
      obtain ⟨k, hk, hkK, rfl, hb⟩ := hrel
      rcases (show (k < 12 ∧ k < K) ∨ (k < 12 ∧ k = K) ∨ k = 12 by omega) with ⟨hk1, hk2⟩ | ⟨hk1, rfl⟩ | rfl
      · have hv := fun w => hVk.out k hk1 w
        have HK := HS.out k hk1
        rw [hK1.out k hk2 hk1, ← hS'.out k] at HK
        go_wp2_with (go_at_call 43; (with_reducible refine (HK _).mono ?_); rintro e w2 ⟨rfl, hx2⟩)
        go_roundw
        case rel => exact ⟨k + 1, by omega, by omega, by go_num, hb.trans (hx2.mono hb.size)⟩
        case measure => simp [intOf]; omega
      · have hv := fun w => hVk.out k hk1 w
        have HK := HS.out k hk1
        rw [hK2.out hk1, ← hS'.out k] at HK
        have HB := Lib.hid hb
        have hbs := hb.size
        go_wp2_with (go_at_call 43; (with_reducible refine (HK _).mono ?_); rintro e w2 ⟨rfl, hx2⟩; have d1 := ((hb.trans (hx2.mono hb.size)).cell (p := ⟨B, 1, none⟩) hlt).trans c1; have d2 := ((hb.trans (hx2.mono hb.size)).frozen (p := ⟨B, 1, none⟩) hlt).trans f1)
        have e : L = k + 1 := by rw [hK3.out, if_pos hk1]
        rw [← hG'.out, e, if_pos (by omega), decide_eq_true (by omega)]
        exact ⟨rfl, (HP.out.below (hb.trans (hx2.mono hb.size))).set1 _, kept_set (hb.trans (hx2.mono hb.size)) _ _⟩
      · go_wp2
        have e : L = 0 := by rw [hK3.out, if_neg (by omega)]
        rw [← hG'.out, e]
        exact ⟨rfl, HP.out.below hb, Kept.of hb⟩
end Go.Proofs.YtcjkaciknfiekaaDoor
