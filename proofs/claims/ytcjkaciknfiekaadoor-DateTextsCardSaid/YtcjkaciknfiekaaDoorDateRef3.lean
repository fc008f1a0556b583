/- Contracts of the reference of layer 7: a time. -/
import Derived.Test.YtcjkaciknfiekaaDoorDateRef2
namespace Go.Proofs.YtcjkaciknfiekaaDoor
open Go.RowKit
set_option linter.unusedVariables false

theorem infoInt : (Tryd.prog.info? 3).map (fun i => (i.zero, i.size, i.bytes)) = some (some (.int .i64 0), 1, 8) := by kernel_rfl

def timeK (l : List UInt8) : Nat → List UInt8
  | 0 => l
  | k + 1 => timeB (timeK l k)
def valsT (l : List UInt8) (k : Nat) : List Value := (List.range k).map fun j => .int .i64 (valL (timeK l j) : Int)
theorem valsT_snoc (l : List UInt8) (k : Nat) : valsT l k ++ [.int .i64 (valL (timeK l k) : Int)] = valsT l (k + 1) := by
  unfold valsT
  rw [List.range_succ, List.map_append]
  rfl
theorem timeK_le (l : List UInt8) (k : Nat) : (timeK l k).length ≤ l.length := by
  induction k with
  | zero => exact Nat.le_refl _
  | succ k ih => exact Nat.le_trans (timeB_le _) ih
theorem isTime_no (l : List UInt8) (k : Nat) (hk : k ≤ 2) (h : dig 1 2 (timeK l k) = false) : isTimeB l = false := by
  unfold isTimeB
  rcases (show k = 0 ∨ k = 1 ∨ k = 2 by omega) with rfl | rfl | rfl
  · change dig 1 2 l = false at h
    rw [h]; rfl
  · change dig 1 2 (timeB l) = false at h
    rw [h]; simp
  · change dig 1 2 (timeB (timeB l)) = false at h
    rw [h]; simp
theorem isTime_yes (l : List UInt8) (h : ∀ j, j < 3 → dig 1 2 (timeK l j) = true) : isTimeB l = true := by
  have h0 : dig 1 2 l = true := h 0 (by omega)
  have h1 : dig 1 2 (timeB l) = true := h 1 (by omega)
  have h2 : dig 1 2 (timeB (timeB l)) = true := h 2 (by omega)
  unfold isTimeB
  rw [h0, h1, h2]
  rfl

def TimeIs (l : List UInt8) (w : World) (e : Ending) (w' : World) : Prop :=
  Below w.heap.size w w' ∧ ((isTimeB l = false ∧ e = .returned (.tuple #[.slice none 0 0, .bool false])) ∨
    (isTimeB l = true ∧ ∃ a c, e = .returned (.tuple #[.slice a 3 c, .bool true]) ∧ Owned w.heap.size 3 a 3 c (valsT l 3) w'))

set_option maxHeartbeats 1000000 in
theorem refTimeC (l : List UInt8) (n : Nat) (w : World) (hl : l.length = n) (hm : n ≤ 1000000000000) :
    Calls Tryd.prog 25 #[.string (str l)] w (TimeIs l w) := by
  obtain ⟨i0, hi, hz0, hz1, hz2⟩ := info_parts infoInt
  have hown0 := owned_lit w 3
  have hbel0 := below_alloc w (.cells #[] 3)
  have hm' : n ≤ maxLen := by unfold maxLen; omega
  have HD := Lib.hid (fun (k : Nat) (w : World) => refDigC (timeK l k) (timeK l k).length 1 2 1 2 w rfl (by have := timeK_le l k; omega) (by omega) (by omega) rfl rfl)
  have HG := Lib.hid (fun (k : Nat) (w : World) => refDigitsC (timeK l k) (timeK l k).length w rfl (by have := timeK_le l k; omega))
  have HV := Lib.hid (fun (k : Nat) (w : World) => refValueC (timeK l k) (timeK l k).length w rfl (by have := timeK_le l k; omega))
  have HN := Lib.hid (isTime_no l)
  have HY := Lib.hid (isTime_yes l)
  have hle := Lib.hid (timeK_le l)
  obtain ⟨G, hG⟩ : ∃ G, TimeIs l w = G := ⟨_, rfl⟩
  rw [hG]
  have hG' := Lib.hid hG
  have HL := Lib.hid hl
  clear hl hG
  have hl0 : timeK l 0 = l := rfl
  rw [← hl0]
  clear hl0
  go_enter Tryd.func25, Tryd.ntmps25
  go_wp2
  go_loopw [0, 4, 5] (fun s v i wr => ∃ (k : Nat) (a : Option Addr) (C : Nat), k ≤ 2 ∧ s = .string (str (timeK l k)) ∧ v = .slice a k C ∧ i = .int .i64 (k : Int) ∧ Hid (∀ j, j < k → dig 1 2 (timeK l j) = true) ∧ Owned w.heap.size 3 a k C (valsT l k) wr ∧ Below w.heap.size w wr) (fun _ _ i _ => 3 - (intOf i).toNat)
  case atStart => exact ⟨0, _, _, by omega, rfl, rfl, rfl, fun j hj => absurd hj (by omega), hown0, hbel0⟩
  case round =>
    clear hown0 hbel0
    obtain ⟨k, a, C, hk, rfl, rfl, rfl, HJ, ho, hb⟩ := hrel
    have hHD := HD.out k
    have hHG := HG.out k
    have hHV := HV.out k
    have hsz : (str (timeK l k)).size = (timeK l k).length := str_size _
    have hlen := hle.out k
    have hll := lead_le (timeK l k)
    have hk3 : (k : Int) < 3 := by omega
    have HO := Lib.hid ho
    have hbs := hb.size
    have HB := Lib.hid hb
    clear ho hb
    rw [HL.out] at hlen
    cases c : dig 1 2 (timeK l k) with
    | false =>
      have hn := Lib.hid (HN.out k hk c)
      rw [c] at hHD
      clear c
      generalize timeK l k = t at *
      go_wp2_with (go_at_call 26; (with_reducible refine (hHD _).mono ?_); rintro e w2 ⟨rfl, rfl⟩)
      rw [← hG'.out]
      exact ⟨HB.out, .inl ⟨hn.out, rfl⟩⟩
    | true =>
      have hJ2 : Hid (∀ j, j < k + 1 → dig 1 2 (timeK l j) = true) := fun j hj => by
        rcases Nat.lt_succ_iff_lt_or_eq.1 hj with h1 | rfl
        · exact HJ.out j h1
        · exact c
      rw [c] at hHD
      have hvs := Lib.hid (valsT_snoc l k)
      have hO := HO.out
      have tno := Lib.hid (fun h => HN.out (k + 1) h)
      have hno := Lib.hid (timeB_no (timeK l k))
      have hye := Lib.hid (timeB_yes (timeK l k))
      have hkk : Hid (timeK l (k + 1) = timeB (timeK l k)) := rfl
      have hix := Lib.hid (fun (w : World) (h : lead (timeK l k) < (timeK l k).length) => run_index_str (P := Tryd.prog) w 9 (timeK l k) .i64 (lead (timeK l k)) Tryd.underlying9 h)
      have hex := Lib.hid (str_extract (timeK l k))
      have hv := valL_le (timeK l k)
      clear c
      by_cases hk2 : k = 2
      · subst hk2
        have hy := Lib.hid (HY.out hJ2.out)
        generalize timeK l 2 = t at *
        generalize valL t = vv at *
        generalize lead t = d at *
        generalize t.length = tn at *
        go_wp2_with (first
          | (go_at_call 26; (with_reducible refine (hHD _).mono ?_); rintro e w2 ⟨rfl, rfl⟩)
          | (go_at_call 37; (with_reducible refine (hHG _).mono ?_); rintro e w2 ⟨rfl, rfl⟩)
          | (go_at_call 27; (with_reducible refine (hHV _).mono ?_); rintro e w2 ⟨rfl, rfl⟩)
          | (at_builtin; refine wpList_append_one rfl (.tmp 17) (.tmp 20) 39 rfl 3 i0 (.int .i64 0) 8 Tryd.underlying39 hi hz0 hz1 hz2 rfl hO.1 rfl rfl rfl (by unfold maxLen; omega) (by omega) hbs ?_; intro v2 w2 ho2 hb2; obtain ⟨a2, c2, rfl, ho3⟩ := Owned.of ho2))
        rw [hvs.out] at ho3
        rw [← hG'.out]
        exact ⟨HB.out.trans hb2, .inr ⟨hy.out, a2, c2, rfl, ho3⟩⟩
      · have hk1 : k ≤ 1 := by omega
        have hne : ((k : Int) == 2) = false := by simp; omega
        by_cases hlt : lead (timeK l k) < (timeK l k).length
        · have hxx := fun w => hix.out w hlt
          by_cases hc : ((timeK l k).getD (lead (timeK l k)) 0).toNat = 58
          · have e1 := hye.out hlt hc
            have hx2 := hex.out (lead (timeK l k) + 1) (timeK l k).length
            rw [List.take_of_length_le (by rw [List.length_drop]; omega), ← e1, ← hkk.out] at hx2
            have hne2 : (((timeK l k).length : Int) == (lead (timeK l k) : Int)) = false := by simp; omega
            rw [hc] at hxx
            obtain ⟨t', ht'⟩ : ∃ t', timeK l (k + 1) = t' := ⟨_, rfl⟩
            rw [ht'] at hx2
            have HT := Lib.hid ht'
            clear hno hye hkk hix hex e1 hc tno ht'
            generalize timeK l k = t at *
            generalize valL t = vv at *
            generalize lead t = d at *
            generalize t.length = tn at *
            go_wp2_with (first
              | (go_at_call 26; (with_reducible refine (hHD _).mono ?_); rintro e w2 ⟨rfl, rfl⟩)
              | (go_at_call 37; (with_reducible refine (hHG _).mono ?_); rintro e w2 ⟨rfl, rfl⟩)
              | (go_at_call 27; (with_reducible refine (hHV _).mono ?_); rintro e w2 ⟨rfl, rfl⟩)
              | (at_builtin; refine wpList_append_one rfl (.tmp 17) (.tmp 20) 39 rfl 3 i0 (.int .i64 0) 8 Tryd.underlying39 hi hz0 hz1 hz2 rfl hO.1 rfl rfl rfl (by unfold maxLen; omega) (by omega) hbs ?_; intro v2 w2 ho2 hb2; obtain ⟨a2, c2, rfl, ho3⟩ := Owned.of ho2))
            rw [hvs.out] at ho3
            go_roundw
            case rel => exact ⟨k + 1, a2, c2, by omega, by rw [HT.out], rfl, by go_num, hJ2.out, ho3, HB.out.trans hb2⟩
            case measure => simp [intOf]; omega
          · have e1 : Hid (isTimeB l = false) := by
              refine tno.out (by omega) ?_
              rw [hkk.out, hno.out (fun _ => hc)]
              exact dig_nil 1 2 (by omega)
            have hne2 : (((timeK l k).length : Int) == (lead (timeK l k) : Int)) = false := by simp; omega
            generalize ((timeK l k).getD (lead (timeK l k)) 0).toNat = xb at *
            have hc' : ((xb : Int) == 58) = false := by simp; omega
            have hc2 : ((xb : Int) != 58) = true := by simp; omega
            clear hno hye hkk hix hex hc tno
            generalize timeK l k = t at *
            generalize valL t = vv at *
            generalize lead t = d at *
            generalize t.length = tn at *
            go_wp2_with (first
              | (go_at_call 26; (with_reducible refine (hHD _).mono ?_); rintro e w2 ⟨rfl, rfl⟩)
              | (go_at_call 37; (with_reducible refine (hHG _).mono ?_); rintro e w2 ⟨rfl, rfl⟩)
              | (go_at_call 27; (with_reducible refine (hHV _).mono ?_); rintro e w2 ⟨rfl, rfl⟩)
              | (at_builtin; refine wpList_append_one rfl (.tmp 17) (.tmp 20) 39 rfl 3 i0 (.int .i64 0) 8 Tryd.underlying39 hi hz0 hz1 hz2 rfl hO.1 rfl rfl rfl (by unfold maxLen; omega) (by omega) hbs ?_; intro v2 w2 ho2 hb2; obtain ⟨a2, c2, rfl, ho3⟩ := Owned.of ho2))
            rw [← hG'.out]
            exact ⟨HB.out.trans hb2, .inl ⟨e1.out, rfl⟩⟩
        · have e1 : Hid (isTimeB l = false) := by
            refine tno.out (by omega) ?_
            rw [hkk.out, hno.out (fun h => absurd h hlt)]
            exact dig_nil 1 2 (by omega)
          have hne2 : (timeK l k).length = lead (timeK l k) := by omega
          have hne3 : (((timeK l k).length : Int) == (lead (timeK l k) : Int)) = true := by rw [hne2]; simp
          clear hno hye hkk hix hex tno
          generalize timeK l k = t at *
          generalize valL t = vv at *
          generalize lead t = d at *
          generalize t.length = tn at *
          subst hne2
          go_wp2_with (first
              | (go_at_call 26; (with_reducible refine (hHD _).mono ?_); rintro e w2 ⟨rfl, rfl⟩)
              | (go_at_call 37; (with_reducible refine (hHG _).mono ?_); rintro e w2 ⟨rfl, rfl⟩)
              | (go_at_call 27; (with_reducible refine (hHV _).mono ?_); rintro e w2 ⟨rfl, rfl⟩)
              | (at_builtin; refine wpList_append_one rfl (.tmp 17) (.tmp 20) 39 rfl 3 i0 (.int .i64 0) 8 Tryd.underlying39 hi hz0 hz1 hz2 rfl hO.1 rfl rfl rfl (by unfold maxLen; omega) (by omega) hbs ?_; intro v2 w2 ho2 hb2; obtain ⟨a2, c2, rfl, ho3⟩ := Owned.of ho2))
          rw [← hG'.out]
          exact ⟨HB.out.trans hb2, .inl ⟨e1.out, rfl⟩⟩
end Go.Proofs.YtcjkaciknfiekaaDoor
