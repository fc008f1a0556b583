/- Contracts of the reference of layer 9: a name's public suffix. -/
import Derived.Test.YtgibhpljlebcdaaDoorSuffixRef2
namespace Go.Proofs.YtgibhpljlebcdaaDoor
open Go.RowKit
set_option linter.unusedVariables false

theorem any_no' {P : List (List UInt8)} {p : List UInt8 → Bool} (h : ∀ j, j < P.length → p (P.getD j []) = false) : P.any p = false := by
  rw [Bool.eq_false_iff]
  intro c
  obtain ⟨x, hx, hp⟩ := List.any_eq_true.1 c
  obtain ⟨i, hi, rfl⟩ := List.getElem_of_mem hx
  have := h i hi
  simp only [List.getD, List.getElem?_eq_getElem hi, Option.getD_some] at this
  rw [hp] at this
  cases this

theorem any_yes' {P : List (List UInt8)} {p : List UInt8 → Bool} {k : Nat} (hk : k < P.length) (h : p (P.getD k []) = true) : P.any p = true := by
  rw [List.any_eq_true]
  refine ⟨P.getD k [], ?_, h⟩
  simp only [List.getD, List.getElem?_eq_getElem hk, Option.getD_some]
  exact List.getElem_mem _

theorem getD_mem' {P : List (List UInt8)} {k : Nat} (hk : k < P.length) : P.getD k [] ∈ P := by
  simp only [List.getD, List.getElem?_eq_getElem hk, Option.getD_some]
  exact List.getElem_mem _

set_option maxHeartbeats 2000000 in
set_option maxRecDepth 100000 in
theorem refOfC (a : Option Addr) (len cap : Nat) (R : List (List UInt8)) (l : List UInt8) (n : Nat) (w : World) (hR : IsStrs w a len cap R) (hl : l.length = n) (hnm : nameB l = true) :
    Calls Tryd.prog 14 #[.slice a len cap, .string (str l)] w fun e w' => e = .returned (.string (str (ofL R l))) ∧ Below w.heap.size w w' := by
  obtain ⟨hN, hlc, hcm, -, r1, hml⟩ := hR
  have hlm : len ≤ 9223372036854775807 := by unfold maxLen at hcm; omega
  have hn2 := name_len hnm
  rw [hl] at hn2
  have hp := labels_pos hnm
  have hK2 := splitL_le l 46
  have hK1 := splitL_pos l 46
  rw [hl] at hK2
  have HT := fun m w (h : m ≤ 1000000000) => refTailC l n m w hl (by omega) hp h
  have HCt := fun w => refCountC l n w hl (by omega)
  obtain ⟨G, hG⟩ : ∃ G, ofL R l = G := ⟨_, rfl⟩
  rw [hG]
  have HG := Lib.hid hG
  obtain ⟨K, hK⟩ : ∃ K, (splitL l 46).length = K := ⟨_, rfl⟩
  rw [hK] at hK1 hK2 HCt
  have HK := Lib.hid hK
  have HP := Lib.hid hN
  have hk := str_toList
  clear hN hl hp hK hG hnm
  go_enter Tryd.func14, Tryd.ntmps14
  go_wp2_with (go_at_call 27; (with_reducible refine (HCt _).mono ?_); rintro e w1 ⟨rfl, hx1⟩)
  go_loopw [6] (fun n wr => ∃ N : Nat, N ≤ K ∧ n = .int .i64 (N : Int) ∧ Hid (∀ m, N < m → m ≤ K → notAt R l m = false) ∧ Below w.heap.size w wr) (fun n _ => (intOf n).toNat)
  case atStart => exact ⟨K, Nat.le_refl _, rfl, fun m h1 h2 => by omega, hx1⟩
  case round =>
    obtain ⟨N, hNK, rfl, H, hb⟩ := hrel
    by_cases hN0 : 1 ≤ N
    · have hN0' : (1 : Int) ≤ (N : Int) := by omega
      have hN1 : (N : Int) - 1 = ((N - 1 : Nat) : Int) := by omega
      have HTN := fun w => HT N w (by omega)
      have HTM : ∀ w, Calls Tryd.prog 29 #[.string (str l), .int .i64 ((N : Int) - 1)] w fun e w' => e = .returned (.string (str (lastN l (N - 1)))) ∧ Below w.heap.size w w' := by
        rw [hN1]
        exact fun w => HT (N - 1) w (by omega)
      clear hN1
      go_wp2
      go_loopw [7] (fun i wr => ∃ k : Nat, k ≤ len ∧ i = .int .i64 (k : Int) ∧ Hid (∀ j, j < k → ((splitR (R.getD j [])).1 == 33 && (splitR (R.getD j [])).2 == lastN l N) = false) ∧ Below w.heap.size w wr) (fun i _ => len - (intOf i).toNat)
      case atStart => exact ⟨0, Nat.zero_le _, rfl, fun j hj => absurd hj (by omega), hb⟩
      case round =>
        clear hb
        obtain ⟨k, hk2, rfl, H2, hb⟩ := hrel
        by_cases hlt : k < len
        · have hlt' : (k : Int) < (len : Int) := by omega
          obtain ⟨g, off, rfl, hc⟩ := str_at (r1.below' hb) k (by rw [HP.out]; exact hlt)
          have HS := fun w => refRSplitC (R.getD k []) _ w rfl (hml _ (getD_mem' (by rw [HP.out]; exact hlt)))
          have HN := Lib.hid (fun (hp : ((splitR (R.getD k [])).1 == 33 && (splitR (R.getD k [])).2 == lastN l N) = false) => (fun j hj => by
            rcases Nat.lt_succ_iff_lt_or_eq.1 hj with h | rfl
            · exact H2.out j h
            · exact hp : ∀ j, j < k + 1 → ((splitR (R.getD j [])).1 == 33 && (splitR (R.getD j [])).2 == lastN l N) = false))
          have HF := Lib.hid (fun (hp : ((splitR (R.getD k [])).1 == 33 && (splitR (R.getD k [])).2 == lastN l N) = true) => (by
            have : topAt (notAt R l) K = N := topAt_is hNK (fun _ => any_yes' (by rw [HP.out]; exact hlt) hp) H.out
            rw [← HG.out]
            unfold ofL
            rw [HK.out, this, if_pos (by omega)] : G = lastN l (N - 1)))
          have hsg := splitR_sign (R.getD k [])
          clear hml HT HCt
          generalize splitR (R.getD k []) = q at *
          obtain ⟨c, own⟩ := q
          simp only [] at HS HN HF hsg
          generalize R.getD k [] = x at hc HS
          generalize lastN l N = y at *
          generalize lastN l (N - 1) = z at *
          rcases hsg with rfl | rfl | rfl
          · have HN2 := Lib.hid (HN.out rfl)
            clear HN HF
            go_wp2_with (first
              | (go_at_call 28; (with_reducible refine (HS _).mono ?_); rintro e w2 ⟨rfl, d1, rfl⟩; have hb := below_draws hb d1)
              | (go_at_call 29; (with_reducible refine (HTN _).mono ?_); rintro e w3 ⟨rfl, hx⟩; have hb := hb.trans (hx.mono hb.size); clear hx)
              | (go_at_call 29; (with_reducible refine (HTM _).mono ?_); rintro e w4 ⟨rfl, hx⟩; have hb := hb.trans (hx.mono hb.size); clear hx))
            go_roundw
            case rel => exact ⟨k + 1, by omega, by go_num, HN2.out, hb⟩
            case measure => simp [intOf]; omega
          · cases hq : (own == y) with
            | false =>
              have hq3 : ((33 : UInt8) == 33 && own == y) = false := by rw [hq]; rfl
              have HN2 := Lib.hid (HN.out hq3)
              clear HN HF
              clear hq3
              go_wp2_with (first
                | (go_at_call 28; (with_reducible refine (HS _).mono ?_); rintro e w2 ⟨rfl, d1, rfl⟩; have hb := below_draws hb d1)
                | (go_at_call 29; (with_reducible refine (HTN _).mono ?_); rintro e w3 ⟨rfl, hx⟩; have hb := hb.trans (hx.mono hb.size); clear hx)
                | (go_at_call 29; (with_reducible refine (HTM _).mono ?_); rintro e w4 ⟨rfl, hx⟩; have hb := hb.trans (hx.mono hb.size); clear hx))
              go_roundw
              case rel => exact ⟨k + 1, by omega, by go_num, HN2.out, hb⟩
              case measure => simp [intOf]; omega
            | true =>
              have hq3 : ((33 : UInt8) == 33 && own == y) = true := by rw [hq]; rfl
              have HF2 := Lib.hid (HF.out hq3)
              clear HN HF hq3
              go_wp2_with (first
                | (go_at_call 28; (with_reducible refine (HS _).mono ?_); rintro e w2 ⟨rfl, d1, rfl⟩; have hb := below_draws hb d1)
                | (go_at_call 29; (with_reducible refine (HTN _).mono ?_); rintro e w3 ⟨rfl, hx⟩; have hb := hb.trans (hx.mono hb.size); clear hx)
                | (go_at_call 29; (with_reducible refine (HTM _).mono ?_); rintro e w4 ⟨rfl, hx⟩; have hb := hb.trans (hx.mono hb.size); clear hx))
              go_ret
              exact ⟨by rw [HF2.out]; rfl, hb⟩
          · have HN2 := Lib.hid (HN.out rfl)
            clear HN HF
            go_wp2_with (first
              | (go_at_call 28; (with_reducible refine (HS _).mono ?_); rintro e w2 ⟨rfl, d1, rfl⟩; have hb := below_draws hb d1)
              | (go_at_call 29; (with_reducible refine (HTN _).mono ?_); rintro e w3 ⟨rfl, hx⟩; have hb := hb.trans (hx.mono hb.size); clear hx)
              | (go_at_call 29; (with_reducible refine (HTM _).mono ?_); rintro e w4 ⟨rfl, hx⟩; have hb := hb.trans (hx.mono hb.size); clear hx))
            go_roundw
            case rel => exact ⟨k + 1, by omega, by go_num, HN2.out, hb⟩
            case measure => simp [intOf]; omega
        · obtain rfl : k = len := by omega
          have HZ : Hid (∀ m, N - 1 < m → m ≤ K → notAt R l m = false) := fun m h1 h2 => by
            by_cases e : m = N
            · subst e
              exact any_no' (by rw [HP.out]; exact H2.out)
            · exact H.out m (by omega) h2
          have hb2 := Lib.hid hb
          clear hb
          go_wp2
          go_roundw
          case rel => exact ⟨N - 1, by omega, by congr 1; omega, HZ.out, hb2.out⟩
          case measure => simp [intOf]; omega
    · have hN0' : ¬ (1 : Int) ≤ (N : Int) := by omega
      have HZ : Hid (topAt (notAt R l) K = 0) := topAt_is (Nat.zero_le _) (fun h => absurd h (by omega)) (fun m h1 h2 => H.out m (by omega) h2)
      clear H hN0 hNK
      go_wp2
      go_loopw [10] (fun n wr => ∃ N : Nat, N ≤ K ∧ n = .int .i64 (N : Int) ∧ Hid (∀ m, N < m → m ≤ K → fitAt R l m = false) ∧ Below w.heap.size w wr) (fun n _ => (intOf n).toNat)
      case atStart => exact ⟨K, Nat.le_refl _, rfl, fun m h1 h2 => by omega, hb⟩
      case round =>
        clear hb
        obtain ⟨N, hNK, rfl, H, hb⟩ := hrel
        by_cases hN0 : 1 ≤ N
        · have hN0' : (1 : Int) ≤ (N : Int) := by omega
          have hN1 : (N : Int) - 1 = ((N - 1 : Nat) : Int) := by omega
          have HTN := fun w => HT N w (by omega)
          have HTM : ∀ w, Calls Tryd.prog 29 #[.string (str l), .int .i64 ((N : Int) - 1)] w fun e w' => e = .returned (.string (str (lastN l (N - 1)))) ∧ Below w.heap.size w w' := by
            rw [hN1]
            exact fun w => HT (N - 1) w (by omega)
          clear hN1
          go_wp2
          go_loopw [11] (fun i wr => ∃ k : Nat, k ≤ len ∧ i = .int .i64 (k : Int) ∧ Hid (∀ j, j < k → fitB (R.getD j []) l N = false) ∧ Below w.heap.size w wr) (fun i _ => len - (intOf i).toNat)
          case atStart => exact ⟨0, Nat.zero_le _, rfl, fun j hj => absurd hj (by omega), hb⟩
          case round =>
            clear hb
            obtain ⟨k, hk2, rfl, H2, hb⟩ := hrel
            by_cases hlt : k < len
            · have hlt' : (k : Int) < (len : Int) := by omega
              obtain ⟨g, off, rfl, hc⟩ := str_at (r1.below' hb) k (by rw [HP.out]; exact hlt)
              have HS := fun w => refRSplitC (R.getD k []) _ w rfl (hml _ (getD_mem' (by rw [HP.out]; exact hlt)))
              have HN := Lib.hid (fun (hp : fitB (R.getD k []) l N = false) => (fun j hj => by
                rcases Nat.lt_succ_iff_lt_or_eq.1 hj with h | rfl
                · exact H2.out j h
                · exact hp : ∀ j, j < k + 1 → fitB (R.getD j []) l N = false))
              have HF := Lib.hid (fun (hp : fitB (R.getD k []) l N = true) => (by
                have : topAt (fitAt R l) K = N := topAt_is hNK (fun _ => any_yes' (by rw [HP.out]; exact hlt) hp) H.out
                rw [← HG.out]
                unfold ofL
                rw [HK.out, HZ.out, this, if_neg (by omega), if_pos (by omega)] : G = lastN l N))
              have hsg := splitR_sign (R.getD k [])
              have hfe : fitB (R.getD k []) l N = (((splitR (R.getD k [])).1 == 0 && (splitR (R.getD k [])).2 == lastN l N) || ((splitR (R.getD k [])).1 == 42 && (decide (2 ≤ N) && (splitR (R.getD k [])).2 == lastN l (N - 1)))) := rfl
              generalize fitB (R.getD k []) l N = bb at HN HF hfe
              clear hml HT HCt
              generalize splitR (R.getD k []) = q at *
              obtain ⟨c, own⟩ := q
              simp only [] at HS HN HF hsg hfe
              generalize R.getD k [] = x at hc HS
              generalize lastN l N = y at *
              generalize lastN l (N - 1) = z at *
              rcases hsg with rfl | rfl | rfl
              · cases hq : (own == y) with
                | false =>
                  have hq3 : bb = false := by rw [hfe, hq]; rfl
                  have HN2 := Lib.hid (HN.out hq3)
                  clear HN HF
                  clear hq3
                  go_wp2_with (first
                    | (go_at_call 28; (with_reducible refine (HS _).mono ?_); rintro e w2 ⟨rfl, d1, rfl⟩; have hb := below_draws hb d1)
                    | (go_at_call 29; (with_reducible refine (HTN _).mono ?_); rintro e w3 ⟨rfl, hx⟩; have hb := hb.trans (hx.mono hb.size); clear hx)
                    | (go_at_call 29; (with_reducible refine (HTM _).mono ?_); rintro e w4 ⟨rfl, hx⟩; have hb := hb.trans (hx.mono hb.size); clear hx))
                  go_roundw
                  case rel => exact ⟨k + 1, by omega, by go_num, HN2.out, hb⟩
                  case measure => simp [intOf]; omega
                | true =>
                  have hq3 : bb = true := by rw [hfe, hq]; rfl
                  have HF2 := Lib.hid (HF.out hq3)
                  clear HN HF hq3
                  go_wp2_with (first
                    | (go_at_call 28; (with_reducible refine (HS _).mono ?_); rintro e w2 ⟨rfl, d1, rfl⟩; have hb := below_draws hb d1)
                    | (go_at_call 29; (with_reducible refine (HTN _).mono ?_); rintro e w3 ⟨rfl, hx⟩; have hb := hb.trans (hx.mono hb.size); clear hx)
                    | (go_at_call 29; (with_reducible refine (HTM _).mono ?_); rintro e w4 ⟨rfl, hx⟩; have hb := hb.trans (hx.mono hb.size); clear hx))
                  go_ret
                  exact ⟨by rw [HF2.out]; rfl, hb⟩
              · have HN2 := Lib.hid (HN.out (by rw [hfe]; rfl))
                clear HN HF
                go_wp2_with (first
                  | (go_at_call 28; (with_reducible refine (HS _).mono ?_); rintro e w2 ⟨rfl, d1, rfl⟩; have hb := below_draws hb d1)
                  | (go_at_call 29; (with_reducible refine (HTN _).mono ?_); rintro e w3 ⟨rfl, hx⟩; have hb := hb.trans (hx.mono hb.size); clear hx)
                  | (go_at_call 29; (with_reducible refine (HTM _).mono ?_); rintro e w4 ⟨rfl, hx⟩; have hb := hb.trans (hx.mono hb.size); clear hx))
                go_roundw
                case rel => exact ⟨k + 1, by omega, by go_num, HN2.out, hb⟩
                case measure => simp [intOf]; omega
              · by_cases h2 : 2 ≤ N
                · have h2' : (2 : Int) ≤ (N : Int) := by omega
                  cases hq : (own == z) with
                  | false =>
                    have hq3 : bb = false := by rw [hfe, hq, decide_eq_true h2]; rfl
                    have HN2 := Lib.hid (HN.out hq3)
                    clear HN HF
                    clear hq3
                    go_wp2_with (first
                      | (go_at_call 28; (with_reducible refine (HS _).mono ?_); rintro e w2 ⟨rfl, d1, rfl⟩; have hb := below_draws hb d1)
                      | (go_at_call 29; (with_reducible refine (HTN _).mono ?_); rintro e w3 ⟨rfl, hx⟩; have hb := hb.trans (hx.mono hb.size); clear hx)
                      | (go_at_call 29; (with_reducible refine (HTM _).mono ?_); rintro e w4 ⟨rfl, hx⟩; have hb := hb.trans (hx.mono hb.size); clear hx))
                    go_roundw
                    case rel => exact ⟨k + 1, by omega, by go_num, HN2.out, hb⟩
                    case measure => simp [intOf]; omega
                  | true =>
                    have hq3 : bb = true := by rw [hfe, hq, decide_eq_true h2]; rfl
                    have HF2 := Lib.hid (HF.out hq3)
                    clear HN HF hq3
                    go_wp2_with (first
                      | (go_at_call 28; (with_reducible refine (HS _).mono ?_); rintro e w2 ⟨rfl, d1, rfl⟩; have hb := below_draws hb d1)
                      | (go_at_call 29; (with_reducible refine (HTN _).mono ?_); rintro e w3 ⟨rfl, hx⟩; have hb := hb.trans (hx.mono hb.size); clear hx)
                      | (go_at_call 29; (with_reducible refine (HTM _).mono ?_); rintro e w4 ⟨rfl, hx⟩; have hb := hb.trans (hx.mono hb.size); clear hx))
                    go_ret
                    exact ⟨by rw [HF2.out]; rfl, hb⟩
                · have h2' : ¬ (2 : Int) ≤ (N : Int) := by omega
                  have hq3 : bb = false := by rw [hfe, decide_eq_false h2]; rfl
                  have HN2 := Lib.hid (HN.out hq3)
                  clear HN HF
                  clear hq3
                  go_wp2_with (first
                    | (go_at_call 28; (with_reducible refine (HS _).mono ?_); rintro e w2 ⟨rfl, d1, rfl⟩; have hb := below_draws hb d1)
                    | (go_at_call 29; (with_reducible refine (HTN _).mono ?_); rintro e w3 ⟨rfl, hx⟩; have hb := hb.trans (hx.mono hb.size); clear hx)
                    | (go_at_call 29; (with_reducible refine (HTM _).mono ?_); rintro e w4 ⟨rfl, hx⟩; have hb := hb.trans (hx.mono hb.size); clear hx))
                  go_roundw
                  case rel => exact ⟨k + 1, by omega, by go_num, HN2.out, hb⟩
                  case measure => simp [intOf]; omega
            · obtain rfl : k = len := by omega
              have HZ2 : Hid (∀ m, N - 1 < m → m ≤ K → fitAt R l m = false) := fun m h1 h2 => by
                by_cases e : m = N
                · subst e
                  exact any_no' (by rw [HP.out]; exact H2.out)
                · exact H.out m (by omega) h2
              have hb2 := Lib.hid hb
              clear hb
              go_wp2
              go_roundw
              case rel => exact ⟨N - 1, by omega, by congr 1; omega, HZ2.out, hb2.out⟩
              case measure => simp [intOf]; omega
        · obtain rfl : N = 0 := by omega
          have HZ2 : Hid (topAt (fitAt R l) K = 0) := topAt_is (Nat.zero_le _) (fun h => absurd h (by omega)) H.out
          have HF2 : Hid (G = lastN l 1) := by
            unfold Hid
            rw [← HG.out]
            unfold ofL
            rw [HK.out, HZ.out, HZ2.out, if_neg (by omega), if_neg (by omega)]
          have HT1 : ∀ w, Calls Tryd.prog 29 #[.string (str l), .int .i64 1] w fun e w' => e = .returned (.string (str (lastN l 1))) ∧ Below w.heap.size w w' := fun w => HT 1 w (by omega)
          clear H hml
          go_wp2_with (go_at_call 29; (with_reducible refine (HT1 _).mono ?_); rintro e w4 ⟨rfl, hx⟩; have hb := hb.trans (hx.mono hb.size); clear hx)
          go_ret
          exact ⟨by rw [HF2.out]; rfl, hb⟩
end Go.Proofs.YtgibhpljlebcdaaDoor
