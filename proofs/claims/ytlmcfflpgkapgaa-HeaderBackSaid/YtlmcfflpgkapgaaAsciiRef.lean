/- Contracts of the reference of layer 6. -/
import Derived.Test.YtlmcfflpgkapgaaAscii4
namespace Go.Proofs.Ytlmcfflpgkapgaa
open Go.RowKit
set_option linter.unusedVariables false

set_option maxRecDepth 100000 in
theorem refLowerC (l : List UInt8) (n : Nat) (w : World) (hl : l.length = n) (hm : n ≤ maxLen) :
    Calls Try.prog 28 #[.string (str l)] w (GivesStr (l.map low) w) := by
  have hsz : (str l).size = n := by rw [str_size, hl]
  have hx := str_extract l
  unfold maxLen at hm
  have HL := Lib.hid hl
  clear hl
  go_enter Try.func28, Try.ntmps28
  go_wp2
  go_loopw [3, 4] (fun v i wr => ∃ k : Nat, k ≤ n ∧ v = .string (str ((l.take k).map low)) ∧ i = .int .i64 (k : Int) ∧ Below w.heap.size w wr) (fun _ i _ => n - (intOf i).toNat)
  case atStart => exact ⟨0, Nat.zero_le _, rfl, rfl, Below.refl _ _⟩
  case round =>
    obtain ⟨k, hk, rfl, rfl, hb⟩ := hrel
    have HB := Lib.hid hb
    have hbs := hb.size
    clear hb
    by_cases hlt : k < n
    · have hlt' : (k : Int) < (n : Int) := by omega
      have hkl : k < l.length := by rw [HL.out]; exact hlt
      have hi := run_index_str (P := Try.prog) wr 9 l .i64 k Try.underlying9 hkl
      have hxk := hx k (k + 1)
      rw [cut_one hkl] at hxk
      have hmap : Hid ((l.take (k + 1)).map low = (l.take k).map low ++ [low (l.getD k 0)]) := by unfold Hid; rw [take_snoc hkl, List.map_append]; rfl
      have hlen : ((l.take k).map low).length = k := by simp; omega
      have ha := fun (w : World) (y : UInt8) => run_add_str (P := Try.prog) w ((l.take k).map low) [y] (by rw [hlen]; simp; omega)
      have hone := fun (w : World) v (hv : v = ((low (l.getD k 0)).toNat : Int)) => one_back (P := Try.prog) w 60 9 5 (low (l.getD k 0)) v hv Try.underlying60 Try.underlying5 Try.underlying9
      have hb0 := u8_lt (l.getD k 0)
      clear hx hkl
      by_cases h : 65 ≤ (l.getD k 0).toNat ∧ (l.getD k 0).toNat ≤ 90
      · have h1 := hone wr (((l.getD k 0).toNat : Int) + 32) (by rw [low_up h]; push_cast; rfl)
        obtain ⟨h2, h3⟩ := h
        clear hone hxk
        generalize low (l.getD k 0) = y at *
        have ha1 := fun w => ha w y
        clear ha hlen
        generalize (l.take k).map low = z at *
        generalize (l.getD k 0).toNat = x at *
        have h2' : (65 : Int) ≤ (x : Int) := by omega
        have h3' : (x : Int) ≤ 90 := by omega
        go_wp2
        go_roundw
        case rel => exact ⟨k + 1, by omega, by rw [hmap.out], by go_num, HB.out.alloc hbs _⟩
        case measure => simp [intOf]; omega
      · have e := low_not h
        rw [e] at hmap
        have ha1 := fun w => ha w (l.getD k 0)
        clear hone e ha hlen
        generalize (l.take k).map low = z at *
        generalize l.getD k 0 = y at *
        generalize y.toNat = x at *
        go_wp2
        all_goals (go_roundw; (case rel => exact ⟨k + 1, by omega, by rw [hmap.out], by go_num, HB.out⟩); (case measure => simp [intOf]; omega))
    · obtain rfl : k = n := by omega
      have e1 : l.take k = l := List.take_of_length_le (by rw [HL.out]; omega)
      rw [e1]
      go_wp2
      go_ret
      exact ⟨rfl, HB.out⟩
/-- BEGIN trim -/
theorem refBegin : True := trivial

set_option maxRecDepth 100000 in
theorem refTrimC (l : List UInt8) (n : Nat) (w : World) (hl : l.length = n) (hm : n ≤ maxLen) :
    Calls Try.prog 36 #[.string (str l)] w fun e w' => e = .returned (.string (str (trimL l))) ∧ w = w' := by
  have hcut : (str l).extract (nb l) (max (nb l) (endB l n)) = str (trimL l) := by rw [str_extract, ← hl, trimL_max]
  have hsz : (str l).size = n := by rw [str_size, hl]
  unfold maxLen at hm
  have HL := Lib.hid hl
  have hF : nb l ≤ n := by rw [← hl]; exact nb_le l
  have HB := Lib.hid (fun k => @nb_lt l k)
  have HA := Lib.hid (@nb_at l)
  clear hl
  obtain ⟨tl, htl⟩ : ∃ tl, trimL l = tl := ⟨_, rfl⟩
  rw [htl] at hcut
  have HT := Lib.hid htl
  clear htl
  generalize nb l = F at *
  go_enter Try.func36, Try.ntmps36
  go_wp2
  go_loopw [3] (fun i wr => ∃ k : Nat, k ≤ F ∧ i = .int .i64 (k : Int) ∧ w = wr) (fun i _ => n - (intOf i).toNat)
  case atStart => exact ⟨0, Nat.zero_le _, rfl, rfl⟩
  case round =>
    obtain ⟨k, hk, rfl, rfl⟩ := hrel
    rcases (show k < F ∨ (k = F ∧ F < n) ∨ (k = F ∧ F = n) by omega) with hlt | ⟨rfl, hlt⟩ | ⟨rfl, rfl⟩
    · have hlt' : (k : Int) < (n : Int) := by omega
      have hi := run_index_str (P := Try.prog) w 9 l .i64 k Try.underlying9 (by rw [HL.out]; omega)
      have hbb := HB.out k hlt
      unfold blank at hbb
      simp only [Bool.or_eq_true, decide_eq_true_iff] at hbb
      clear hcut
      generalize (l.getD k 0).toNat = x at *
      rcases hbb with rfl | rfl
      · go_wp2
        go_roundw
        case rel => exact ⟨k + 1, by omega, by go_num, by first | rfl | trivial⟩
        case measure => simp [intOf]; omega
      · go_wp2
        go_roundw
        case rel => exact ⟨k + 1, by omega, by go_num, by first | rfl | trivial⟩
        case measure => simp [intOf]; omega
    · obtain ⟨F, hFk⟩ : ∃ F, k = F := ⟨_, rfl⟩
      subst hFk
      have hlt' : (k : Int) < (n : Int) := by omega
      have hi := run_index_str (P := Try.prog) w 9 l .i64 k Try.underlying9 (by rw [HL.out]; omega)
      have hbf := HA.out (by rw [HL.out]; exact hlt)
      have hbb := hbf
      unfold blank at hbb
      simp only [Bool.or_eq_false_iff, decide_eq_false_iff_not] at hbb
      obtain ⟨n1, n2⟩ := hbb
      clear HA HB hbf
      generalize (l.getD k 0).toNat = x at *
      have n1' : ((x : Int) == 32) = false := by simp; omega
      have n2' : ((x : Int) == 9) = false := by simp; omega
      clear n1 n2
      go_wp2
      go_loopw [4] (fun i wr => ∃ t : Nat, k ≤ t ∧ t ≤ n ∧ i = .int .i64 (t : Int) ∧ Hid (max k (endB l n) = max k (endB l t)) ∧ w = wr) (fun i _ => (intOf i).toNat)
      case atStart => exact ⟨n, by omega, Nat.le_refl _, rfl, rfl, rfl⟩
      case round =>
        obtain ⟨t, ht1, ht2, rfl, HM, rfl⟩ := hrel
        by_cases htf : k < t
        · obtain ⟨u, rfl⟩ : ∃ u, t = u + 1 := ⟨t - 1, by omega⟩
          have htf' : (k : Int) < (u : Int) + 1 := by omega
          have hiu := run_index_str (P := Try.prog) w 9 l .i64 u Try.underlying9 (by rw [HL.out]; omega)
          have hiu0 : ((u : Int) + 1) - 1 = (u : Int) := by omega
          have hyes := fun h => endB_step (l := l) (t := u) h
          have hno := fun h => endB_stop (l := l) (t := u) h
          by_cases hb : blank (l.getD u 0) = true
          · have HM2 : Hid (max k (endB l n) = max k (endB l u)) := by have := HM.out; rw [hyes hb] at this; exact this
            have hbb := hb
            unfold blank at hbb
            simp only [Bool.or_eq_true, decide_eq_true_iff] at hbb
            clear hyes hno hb HM
            generalize (l.getD u 0).toNat = x at *
            rcases hbb with rfl | rfl
            · go_wp2
              go_roundw
              case rel => exact ⟨u, by omega, by omega, by go_num, HM2.out, by first | rfl | trivial⟩
              case measure => simp [intOf]
            · go_wp2
              go_roundw
              case rel => exact ⟨u, by omega, by omega, by go_num, HM2.out, by first | rfl | trivial⟩
              case measure => simp [intOf]
          · have hbf : blank (l.getD u 0) = false := by simpa using hb
            have hend : max k (endB l n) = u + 1 := by rw [HM.out, hno hbf]; omega
            unfold blank at hb
            simp only [Bool.or_eq_true, decide_eq_true_iff] at hb
            clear hyes hno hbf HM
            rw [hend] at hcut
            generalize (l.getD u 0).toNat = x at *
            have n1 : ((x : Int) == 32) = false := by simp; omega
            have n2 : ((x : Int) == 9) = false := by simp; omega
            have hux : (u : Int) + 1 ≤ (n : Int) := by omega
            have hkx : (k : Int) ≤ (u : Int) + 1 := by omega
            clear hend
            go_wp2
            go_ret
            exact ⟨by rw [HT.out]; rfl, rfl⟩
        · obtain rfl : k = t := by omega
          have hend : max k (endB l n) = k := by rw [HM.out]; exact Nat.max_eq_left (endB_le l k)
          rw [hend, str_extract, Nat.sub_self, List.take_zero] at hcut
          have hnil := (str_inj hcut).symm
          subst hnil
          have hux : (k : Int) ≤ (n : Int) := by omega
          clear hend HM hcut
          go_wp2
          go_ret
          exact ⟨by rw [HT.out]; rfl, rfl⟩
    · clear HA HB
      have hnil : tl = [] := by
        rw [str_extract] at hcut
        have e0 : max k (endB l k) - k = 0 := by have := endB_le l k; omega
        rw [e0, List.take_zero] at hcut
        exact (str_inj hcut).symm
      subst hnil
      clear hcut
      go_wp2
      go_loopw [4] (fun i wr => i = .int .i64 (k : Int) ∧ w = wr) (fun _ _ => 0)
      case atStart => exact ⟨rfl, rfl⟩
      case round =>
        obtain ⟨rfl, rfl⟩ := hrel
        go_wp2
        go_ret
        exact ⟨by rw [HT.out]; rfl, rfl⟩
end Go.Proofs.Ytlmcfflpgkapgaa
