/- The walk of layer 3's law on sums in parts. -/
import Derived.Test.YtcclhojigeehnaaDoorCrc
import Derived.Test.YtcclhojigeehnaaDoorSlices
import Derived.Test.YtcclhojigeehnaaDoorOwnAt
import Derived.Test.YtcclhojigeehnaaDoorInfo
import Derived.Deep.RegionHeld3
import Derived.Deep.RegionLaw
namespace Go.Proofs.YtcclhojigeehnaaDoor
open Go.RowKit
set_option linter.unusedVariables false

theorem crcParts_long (a0 : Option Addr) (n0 c0 : Nat) (w : World) (hT : CTab w) (h : 20 < n0) :
    Calls Tryd.prog 4 #[.slice a0 n0 c0] w fun e w' => e = .returned (.bool true) ∧ Below w.heap.size w w' := by
  have HT := Lib.hid hT
  clear hT
  go_enter Tryd.func4, Tryd.ntmps4
  go_wp2_with (go_at_call 8; (with_reducible refine (awake03C _ HT.out).mono ?_); rintro e w' ⟨rfl, hb⟩)
  go_ret
  exact ⟨rfl, hb⟩

set_option maxRecDepth 100000 in
theorem crcParts_short (R : Nat → List Int) (a0 : Option Addr) (n0 c0 : Nat) (w : World) (hT : CTab w) (h : n0 ≤ 20) (hR : IsRows .u8 w a0 n0 c0 R) :
    Calls Tryd.prog 4 #[.slice a0 n0 c0] w fun e w' => e = .returned (.bool true) ∧ Below w.heap.size w w' := by
  obtain ⟨i0, hi, hz0, hz1, hz2⟩ := info_parts info8
  have HT := Lib.hid hT
  have HR := Lib.hid hR.2.2.2
  clear hT hR
  go_enter Tryd.func4, Tryd.ntmps4
  go_wp2_with (go_at_call 11; (with_reducible refine (newC _).mono ?_); rintro e w1 ⟨rfl, hb1⟩)
  have hl := owned_lit w 5
  have hb0 := below_alloc w (.cells #[] 5)
  have hbw : Below w.heap.size w (w1.alloc (.cells #[.int .u32 0] 29)) := (hb0.trans (hb1.mono hb0.size)).alloc (Nat.le_trans hb0.size hb1.size) _
  have hBB : (w.alloc (.cells #[] 5)).heap.size ≤ w1.heap.size := hb1.size
  have hlt1 : w.heap.size < w1.heap.size := by simp at hBB; omega
  have ho1 := (hl.below (hb1.trans ((Below.refl _ _).alloc hBB (.cells #[.int .u32 0] 29))) (Nat.le_refl _))
  have hc1 : (w1.alloc (.cells #[.int .u32 0] 29)).cell? ⟨w1.heap.size, 0, none⟩ = some (.int .u32 0) := by rw [World.cell?_alloc_at _ _ _ _ rfl]; rfl
  have hf1 : (w1.alloc (.cells #[.int .u32 0] 29)).frozen? ⟨w1.heap.size, 0, none⟩ = false := World.frozen?_alloc_at _ _ _ _ rfl
  generalize hB : w1.heap.size = B at hlt1 hc1 hf1
  have hB2 : B < (w1.alloc (.cells #[.int .u32 0] 29)).heap.size := by simp; omega
  have HBe := Lib.hid hB
  clear hl hb0 hBB hb1 hB
  go_loopw [3, 5] (fun v i wr => ∃ (k L c x : Nat) (a : Option Addr) (fl : List Int), k ≤ n0 ∧ x < 4294967296 ∧ L ≤ 200 * k ∧ i = .int .i64 (k : Int) ∧ v = .slice a L c ∧ Hid (fl.length = L) ∧ Hid (cRun 4294967295 fl = 4294967295 - x) ∧ Hid (IsBytes fl) ∧ Owned w.heap.size 5 a L c (fl.map (Value.int .u8)) wr ∧ Apart a B ∧ B < wr.heap.size ∧ wr.cell? ⟨B, 0, none⟩ = some (.int .u32 (x : Int)) ∧ wr.frozen? ⟨B, 0, none⟩ = false ∧ Below w.heap.size w wr) (fun _ i _ => n0 - (intOf i).toNat)
  case atStart =>
    refine ⟨0, 0, 0, 0, _, [], Nat.zero_le _, by omega, by omega, rfl, rfl, rfl, rfl, (fun x hx => by cases hx), ho1, ?_, hB2, ?_, hf1, hbw⟩
    · intro x hx; cases hx; simp; omega
    · exact hc1
  case round =>
    clear ho1 hc1 hf1 hbw
    obtain ⟨k, L, c, x, a, fl, hk, hx, hL, rfl, rfl, HF, HS, HB, ho, hap, hBs, hcB, hfB, hbw⟩ := hrel
    by_cases hlt : k < n0
    · obtain ⟨b, off, A, L', C', rfl, hcell, hRl, hLC, hCm, hA0, hread, hwf⟩ := HR.out k hlt
      have hcw := (hbw.cell (p := ⟨b, off + k, none⟩) (cell_lt hcell)).trans hcell
      have hlt' : (k : Int) < (n0 : Int) := by omega
      by_cases hbig : 200 < L'
      · have hbig' : (200 : Int) < (L' : Int) := by omega
        have HTw := Lib.hid (HT.out.below hbw)
        clear hread ho hcell
        go_wp2_with (go_at_call 8; (with_reducible refine (awake03C _ HTw.out).mono ?_); rintro e w' ⟨rfl, hb⟩)
        go_ret
        exact ⟨rfl, hbw.trans (hb.mono hbw.size)⟩
      · have HRl := Lib.hid hRl
        have HBR : Hid (IsBytes (R k)) := fun y hy => wfU8 (hwf y hy)
        have hreadw := hread.below' hbw
        have hsz := hbw.size
        have hbig' : (L' : Int) ≤ 200 := by omega
        have hbl := cell_lt hcell
        clear hRl hwf hcell
        go_wp2_with (at_builtin; refine wpList_append_where rfl (.tmp 25) (.tmp 29) 22 rfl 5 i0 (.int .u8 0) 1 Tryd.underlying22 hi hz0 hz1 hz2 rfl ho rfl hreadw rfl (by rw [List.length_map, HRl.out]) hA0 (bytes_one _ .u8) (L + L') rfl (by unfold maxLen; omega) (by omega) hsz ?_; intro a2 c2 w2 ho2 hb2 hg2 ha2)
        have hbw2 := hbw.trans hb2
        have hcw2 := (hb2.cell (p := ⟨b, off + k, none⟩) hbl).trans hcw
        have hcB2 := hg2.cell hcB hap
        have hfB2 := (hg2.frozen (x := ⟨B, 0, none⟩) hBs hap).trans hfB
        have hB2 : B < w2.heap.size := Nat.lt_of_lt_of_le hBs hg2.1
        have hap2 : Apart a2 B := by
          rcases ha2 with e | ⟨g, e, hg⟩
          · rw [e]; exact hap
          · rw [e]; intro y hy; cases hy; show g ≠ B; omega
        have hr2 := hread.below' hbw2
        have hT2 := HT.out.below hbw2
        have HAD := fun (ww : World) (he : ∀ y, ww.cell? y = w2.cell? y) => addC (R k) L' x A C' ww HRl.out (hr2.same he) HBR.out (by omega) hx (fun j hj => (he _).trans (hT2 j hj))
        rw [← HS.out] at HAD
        unfold StateIs at HAD
        have hsum : 4294967295 - cRun (cRun 4294967295 fl) (R k) = cSum (fl ++ R k) := by unfold cSum; rw [cRun_append]
        rw [hsum] at HAD
        have HSM : Hid (cRun 4294967295 (fl ++ R k) = 4294967295 - cSum (fl ++ R k)) := by
          have : cRun 4294967295 (fl ++ R k) < 4294967296 := cRun_lt _ _ (fun y hy => (List.mem_append.mp hy).elim (HB.out y) (HBR.out y)) (by omega)
          show _ = _
          unfold cSum
          omega
        have hx' : cSum (fl ++ R k) < 4294967296 := by have := cSum_le (fl ++ R k); omega
        have HRS := fun (w : World) (a : Option Addr) (c : Nat) ha => refSumC (fl ++ R k) (L + L') a c w (by rw [List.length_append, HF.out, HRl.out]) ha (fun y hy => (List.mem_append.mp hy).elim (HB.out y) (HBR.out y)) (by unfold maxLen; omega)
        have hFL : Hid ((fl ++ R k).length = L + L') := by show _ = _; rw [List.length_append, HF.out, HRl.out]
        have hBF : Hid (IsBytes (fl ++ R k)) := fun y hy => (List.mem_append.mp hy).elim (HB.out y) (HBR.out y)
        rw [← List.map_append] at ho2
        generalize fl ++ R k = fl' at HAD HSM hx' HRS ho2 hFL hBF
        generalize cSum fl' = x' at HAD HSM hx' HRS
        clear ho hap hfB hcB hcw hbw hb2 hg2 ha2 hreadw hr2 hT2 hread hsum HBR HRl HF HS HB
        go_region_law (first | (go_simp; go_at_call 12; (refine (HAD _ (fun y => by simp)).mono ?_); rintro e w3 ⟨rfl, hb3⟩; have hcB3 := (hb3.cell (p := ⟨B, 0, none⟩) (by simpa using hB2)).trans (by simpa using hcB2); have hcw3 := (hb3.cell (p := ⟨b, off + k, none⟩) (by simpa using cell_lt hcw2)).trans (by simpa using hcw2); have hfB3 := (hb3.frozen (p := ⟨B, 0, none⟩) (by simpa using hB2)).trans (by simpa using hfB2)))
        all_goals
          have hbw3 := hbw2.drew.trans (hb3.mono (by simpa using hbw2.size))
          have ho3 := ho2.below (((Below.refl w2.heap.size w2).drew).trans hb3) (Nat.le_refl _)
          have hbw4 := hbw3.setCell (p := ⟨B, 0, none⟩) (Nat.le_of_lt hlt1) (.int .u32 (x' : Int))
          have ho4 := ho3.setCell (p := ⟨B, 0, none⟩) hap2 (.int .u32 (x' : Int))
          have hcB4 := World.cell?_setCell_same (v := .int .u32 (x' : Int)) w3 ⟨B, 0, none⟩ hcB3
          have hfB4 : (w3.setCell ⟨B, 0, none⟩ (.int .u32 (x' : Int))).frozen? ⟨B, 0, none⟩ = false := by rw [World.frozen?_setCell]; exact hfB3
          have hB4 : B < (w3.setCell ⟨B, 0, none⟩ (.int .u32 (x' : Int))).heap.size := cell_lt hcB4
          obtain ⟨w4, hw4⟩ : ∃ w4, w4 = w3.setCell ⟨B, 0, none⟩ (.int .u32 (x' : Int)) := ⟨_, rfl⟩
          rw [← hw4] at hbw4 ho4 hcB4 hfB4 hB4 ⊢
          clear hw4 hbw3 ho3 hcB3 hcw3 hfB3 hb3 ho2 hB2 hfB2 hcB2 hcw2 hbw2
          go_wp2_with (first
            | (go_at_call 13; (with_reducible refine (stateSumC _ _).mono ?_); rintro e w5 ⟨rfl, hb5⟩)
            | (go_at_call 10; (with_reducible refine (HRS _ _ _ (ho4.reads.below' hb5)).mono ?_); rintro e w' ⟨rfl, rfl⟩))
          go_roundw
          case rel => exact ⟨k + 1, L + L', c2, x', a2, fl', by omega, hx', by omega, by go_num, rfl, hFL, HSM, hBF, ho4.below hb5 (Nat.le_refl _), hap2, Nat.lt_of_lt_of_le hB4 hb5.size, (hb5.cell (p := ⟨B, 0, none⟩) hB4).trans hcB4, (hb5.frozen (p := ⟨B, 0, none⟩) hB4).trans hfB4, hbw4.trans (hb5.mono hbw4.size)⟩
          case measure => simp [intOf]; omega
    · have HSA := fun (w : World) ha hT => sumC fl L a c w HF.out ha HB.out (by unfold maxLen; omega) hT
      have hsum : cSum fl = x := by unfold cSum; rw [HS.out]; omega
      rw [hsum] at HSA
      unfold SumIs at HSA
      clear hsum HB HS HF
      go_wp2_with (first
        | (go_at_call 13; (with_reducible refine (stateSumC _ _).mono ?_); rintro e w5 ⟨rfl, hb5⟩; have hbw5 := hbw.trans (hb5.mono hbw.size))
        | (go_at_call 9; (with_reducible refine (HSA _ (ho.reads.below' hb5) (HT.out.below hbw5)).mono ?_); rintro e w6 ⟨rfl, hb6⟩; have hbw6 := hbw5.trans (hb6.mono hbw5.size); clear hbw5)
        | (go_at_call 8; (with_reducible refine (awake03C _ (HT.out.below hbw6)).mono ?_); rintro e w7 ⟨rfl, hb7⟩))
      go_ret
      exact ⟨rfl, hbw6.trans (hb7.mono hbw6.size)⟩

theorem crcParts_walk (a0 : Option Addr) (n0 c0 : Nat) (R : Nat → List Int) (w : World) (w0 : IsRows .u8 w a0 n0 c0 R) (hT : CTab w) :
    Calls Tryd.prog 4 #[.slice a0 n0 c0] w fun e w' => e = .returned (.bool true) ∧ Below w.heap.size w w' := by
  by_cases c : 20 < n0
  · exact crcParts_long a0 n0 c0 w hT c
  · exact crcParts_short R a0 n0 c0 w hT (by omega) w0
end Go.Proofs.YtcclhojigeehnaaDoor
