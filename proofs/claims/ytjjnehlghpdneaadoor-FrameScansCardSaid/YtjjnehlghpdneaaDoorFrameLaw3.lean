/- The walk of layer 4's law on frames one behind the other. -/
import Derived.Test.YtjjnehlghpdneaaDoorFrameScan
import Derived.Test.YtjjnehlghpdneaaDoorFrameLaw
namespace Go.Proofs.YtjjnehlghpdneaaDoor
open Go.RowKit
set_option linter.unusedVariables false

theorem framesOf_add (R : Nat → List Int) (W : Nat) : ∀ m, framesOf R (W + m) = framesOf R W ++ framesOf (fun i => R (W + i)) m
  | 0 => by simp [framesOf]
  | m + 1 => by rw [← Nat.add_assoc, framesOf_succ, framesOf_succ, framesOf_add R W m, List.append_assoc]

theorem scan_cut (R : Nat → List Int) (n W C : Nat) (hR : ∀ i, i < n → IsBytes (R i) ∧ (R i).length ≤ 1048576) (hW : W ≤ n) (h1 : (framesOf R W).length ≤ C) (h2 : W < n → C < (framesOf R (W + 1)).length) (h3 : C ≤ (framesOf R n).length) :
    framesGot ((framesOf R n).take C) = ((List.range W).map R, (framesOf R W).length) := by
  by_cases c : W < n
  · obtain ⟨m, rfl⟩ : ∃ m, n = W + (m + 1) := ⟨n - W - 1, by omega⟩
    have h2' := h2 c
    rw [framesOf_succ, List.length_append, frameOf_length] at h2'
    have hlen : (frameOf (R W)).length = frameLen (R W).length := frameOf_length _
    rw [framesOf_add, framesOf_cons, Nat.add_zero]
    have e : (framesOf R W ++ (frameOf (R W) ++ framesOf (fun i => (fun i => R (W + i)) (i + 1)) m)).take C = framesOf R W ++ (frameOf (R W)).take (C - (framesOf R W).length) := by
      rw [List.take_append, List.take_of_length_le h1, List.take_append_of_le_length (by rw [hlen]; omega)]
    rw [e]
    exact frames_scan W R _ (fun i hi => hR i (by omega)) ((frameOf_bytes _ (hR W c).1).take _) (frame_cut (R W) (hR W c).1 (hR W c).2 _ (by omega))
  · have e : W = n := by omega
    subst e
    rw [List.take_of_length_le h1]
    have h := frames_scan W R [] (fun i hi => hR i hi) (fun x hx => by cases hx) (by unfold frameGot; decide)
    rw [List.append_nil] at h
    exact h

theorem frameScans_long (a0 b0 : Option Addr) (n0 c0 m0 d0 : Nat) (n : Int) (w : World) (hT : CTab w) (h : 20 < n0 ∨ 1000 < m0) :
    Calls Tryd.prog 5 #[.slice a0 n0 c0, .int .i64 n, .slice b0 m0 d0] w fun e w' => e = .returned (.bool true) ∧ Below w.heap.size w w' := by
  have HT := Lib.hid hT
  have H := Lib.hid h
  clear hT h
  by_cases c : 20 < n0
  · have c' : (20 : Int) < (n0 : Int) := by omega
    go_enter Tryd.func5, Tryd.ntmps5
    go_wp2_with (go_at_call 7; (with_reducible refine (awake04C _ HT.out).mono ?_); rintro e w' ⟨rfl, hb⟩)
    go_ret
    exact ⟨rfl, hb⟩
  · have c2 : 1000 < m0 := by have := H.out; omega
    have c3 : ¬ (20 : Int) < (n0 : Int) := by omega
    go_enter Tryd.func5, Tryd.ntmps5
    go_wp2_with (go_at_call 7; (with_reducible refine (awake04C _ HT.out).mono ?_); rintro e w' ⟨rfl, hb⟩)
    go_ret
    exact ⟨rfl, hb⟩

/-- How many frames of the first are whole, where their end is. -/
def WholeTo (R : Nat → List Int) (cut : Int) (k W L E : Nat) : Prop :=
  (framesOf R k).length = L ∧ (framesOf R W).length = E ∧ (W = 0 ∨ (E : Int) ≤ cut) ∧ (W < k → cut < ((framesOf R (W + 1)).length : Int)) ∧ ∀ i, i < k → IsBytes (R i) ∧ (R i).length ≤ 1048576
theorem WholeTo.zero (R : Nat → List Int) (cut : Int) : WholeTo R cut 0 0 0 0 := ⟨rfl, rfl, .inl rfl, fun h => absurd h (Nat.not_lt_zero _), fun i h => absurd h (Nat.not_lt_zero _)⟩
theorem WholeTo.len {R : Nat → List Int} {cut : Int} {k W L E : Nat} (h : WholeTo R cut k W L E) (F : Nat) (hF : frameLen (R k).length = F) : (framesOf R (k + 1)).length = L + F := by
  rw [framesOf_succ, List.length_append, h.1, frameOf_length, hF]
theorem WholeTo.more {R : Nat → List Int} {cut : Int} {k W L E : Nat} (h : WholeTo R cut k W L E) (F : Nat) (hF : frameLen (R k).length = F) (hb : IsBytes (R k)) (hl : (R k).length ≤ 1048576) (hc : ((L + F : Nat) : Int) ≤ cut) : WholeTo R cut (k + 1) (k + 1) (L + F) (L + F) :=
  ⟨h.len F hF, h.len F hF, .inr hc, fun h => absurd h (Nat.lt_irrefl _), fun i hi => by
    by_cases c : i < k
    · exact h.2.2.2.2 i c
    · have e : i = k := by omega
      subst e
      exact ⟨hb, hl⟩⟩
theorem WholeTo.same {R : Nat → List Int} {cut : Int} {k W L E : Nat} (h : WholeTo R cut k W L E) (hW : W ≤ k) (F : Nat) (hF : frameLen (R k).length = F) (hb : IsBytes (R k)) (hl : (R k).length ≤ 1048576) (hc : cut < ((L + F : Nat) : Int)) : WholeTo R cut (k + 1) W (L + F) E :=
  ⟨h.len F hF, h.2.1, h.2.2.1, fun h2 => by
    by_cases c : W < k
    · exact h.2.2.2.1 c
    · have e : W = k := by omega
      subst e
      rw [h.len F hF]
      exact hc, fun i hi => by
    by_cases c : i < k
    · exact h.2.2.2.2 i c
    · have e : i = k := by omega
      subst e
      exact ⟨hb, hl⟩⟩
theorem WholeTo.scan {R : Nat → List Int} {C k W L E : Nat} (h : WholeTo R (C : Int) k W L E) (hW : W ≤ k) (hC : C ≤ L) : framesGot ((framesOf R k).take C) = ((List.range W).map R, E) := by
  obtain ⟨h1, h2, h3, h4, h5⟩ := h
  rw [← h2]
  refine scan_cut R k W C h5 hW ?_ (fun c => by have := h4 c; omega) (by omega)
  rcases h3 with rfl | h3
  · exact Nat.zero_le _
  · omega

set_option maxRecDepth 100000 in
theorem frameScans_short (R : Nat → List Int) (q : List Int) (a0 b0 : Option Addr) (n0 c0 m0 d0 : Nat) (cut : Int) (w : World) (hT : CTab w) (h0 : n0 ≤ 20) (h1 : m0 ≤ 1000) (hR : IsRows .u8 w a0 n0 c0 R)
    (hq : q.length = m0) (hrq : Reads w b0 (q.map (Value.int .u8))) (hqb : IsBytes q) (hmd : m0 ≤ d0) (hd : d0 ≤ maxLen) (hc1 : -9223372036854775808 ≤ cut) (hc2 : cut ≤ 9223372036854775807) :
    Calls Tryd.prog 5 #[.slice a0 n0 c0, .int .i64 cut, .slice b0 m0 d0] w fun e w' => e = .returned (.bool true) ∧ Below w.heap.size w w' := by
  have HS2 := fun w hr hT => scanC q m0 d0 b0 w hq hr hqb hmd hd (by omega) hT
  have HR2 := fun w hr => refScanC q m0 d0 b0 w hq hr hqb hmd hd (by omega)
  unfold ScanIs at HS2 HR2
  generalize framesGot q = r at HS2 HR2
  obtain ⟨P, T⟩ := r
  simp only [] at HS2 HR2
  generalize P.length = K at HS2 HR2
  have HT := Lib.hid hT
  have HR := Lib.hid hR
  have hcc := hR.1
  have hcm := hR.2.1
  unfold maxLen at hcm
  clear hT hR hq hqb
  go_enter Tryd.func5, Tryd.ntmps5
  go_wp2
  have hl0 := owned_lit w 5
  have hb0 := below_alloc w (.cells #[] 5)
  go_loopw [7, 8, 9, 10] (fun all wh en i wr => ∃ (k W L E C : Nat) (a : Option Addr), k ≤ n0 ∧ W ≤ k ∧ L ≤ 214 * k ∧ E ≤ L ∧ all = .slice a L C ∧ wh = .int .i64 (W : Int) ∧ en = .int .i64 (E : Int) ∧ i = .int .i64 (k : Int) ∧ Hid (WholeTo R cut k W L E) ∧ Owned w.heap.size 5 a L C ((framesOf R k).map (Value.int .u8)) wr ∧ Below w.heap.size w wr) (fun _ _ _ i _ => n0 - (intOf i).toNat)
  case atStart => exact ⟨0, 0, 0, 0, 0, _, Nat.zero_le _, Nat.le_refl _, Nat.zero_le _, Nat.le_refl _, rfl, rfl, rfl, rfl, WholeTo.zero R cut, hl0, hb0⟩
  case round =>
    clear hl0 hb0
    obtain ⟨k, W, L, E, C, a, hk, hW, hL, hE, rfl, rfl, rfl, rfl, HW, ho, hbw⟩ := hrel
    by_cases hlt : k < n0
    · obtain ⟨b, off, A, L', C', rfl, hcell, hRl, hLC, hCm, hA0, hread, hwf⟩ := HR.out.2.2.2 k hlt
      have hcw := (hbw.cell (p := ⟨b, off + k, none⟩) (cell_lt hcell)).trans hcell
      have hlt' : (k : Int) < (n0 : Int) := by omega
      by_cases hbig : 200 < L'
      · have hbig' : (200 : Int) < (L' : Int) := by omega
        have HTw := Lib.hid (HT.out.below hbw)
        clear hread ho hcell HS2 HR2
        go_wp2_with (go_at_call 7; (with_reducible refine (awake04C _ HTw.out).mono ?_); rintro e w' ⟨rfl, hb⟩)
        go_ret
        exact ⟨rfl, hbw.trans (hb.mono hbw.size)⟩
      · have hbig' : ¬ (200 : Int) < (L' : Int) := by omega
        have hRb : IsBytes (R k) := fun y hy => wfU8 (hwf y hy)
        have HTw := Lib.hid (HT.out.below hbw)
        have hreadw := hread.below' hbw
        have HP := putFC (framesOf R k) (R k) L L' a A C C' wr HW.out.1 hRl ho.reads ho.nil0 hreadw hA0 hRb (by omega) (by omega) HTw.out
        have hF := short_ten L' (by omega)
        have hFL : frameLen (R k).length = frameLen L' := by rw [hRl]
        have hF2 : frameLen L' ≤ 214 := by unfold frameLen; omega
        rw [← framesOf_succ] at HP
        unfold PutIs at HP
        generalize frameLen L' = F at HP hFL hF2
        have hsz := hbw.size
        by_cases hcut : ((L + F : Nat) : Int) ≤ cut
        · have HW2 := Lib.hid (HW.out.more F hFL hRb (by omega) hcut)
          obtain ⟨G, hG⟩ : ∃ G, L + F = G := ⟨_, rfl⟩
          rw [hG] at HP HW2 hcut
          clear hread hcell HW hwf hRb hFL hF hreadw HS2 HR2
          go_wp2_with (go_at_call 8; (with_reducible refine HP.mono ?_); rintro e1 w1 ⟨a1, c1, rfl, ho1, hb1⟩)
          go_roundw
          case rel => exact ⟨k + 1, k + 1, G, G, c1, a1, by omega, Nat.le_refl _, by omega, Nat.le_refl _, rfl, by go_num, rfl, by go_num, HW2, ho1.base hsz, hbw.trans (hb1.mono hsz)⟩
          case measure => simp [intOf]; omega
        · have HW2 := Lib.hid (HW.out.same hW F hFL hRb (by omega) (by omega))
          obtain ⟨G, hG⟩ : ∃ G, L + F = G := ⟨_, rfl⟩
          rw [hG] at HP HW2 hcut
          clear hread hcell HW hwf hRb hFL hF hreadw HS2 HR2
          go_wp2_with (go_at_call 8; (with_reducible refine HP.mono ?_); rintro e1 w1 ⟨a1, c1, rfl, ho1, hb1⟩)
          go_roundw
          case rel => exact ⟨k + 1, W, G, E, c1, a1, by omega, by omega, by omega, by omega, rfl, rfl, rfl, by go_num, HW2, ho1.base hsz, hbw.trans (hb1.mono hsz)⟩
          case measure => simp [intOf]; omega
    · have hkn : k = n0 := by omega
      subst hkn
      clear hlt
      by_cases hx : cut < 0 ∨ (L : Int) < cut
      · have HX := Lib.hid hx
        clear hx
        by_cases hx1 : cut < 0
        · go_wp2_with (first
            | (go_at_call 15; (with_reducible refine (HS2 _ (hrq.below' hbw) (HT.out.below hbw)).mono ?_); rintro e w5 ⟨a5, c5, rfl, hrow5, hb5⟩; have hb05 := hbw.trans (hb5.mono hbw.size))
            | (go_at_call 17; (with_reducible refine (HR2 _ (hrq.below' hb05)).mono ?_); rintro e w6 ⟨a6, c6, rfl, hrow6, hb6⟩; have hb06 := hb05.trans (hb6.mono hb05.size); have hrow56 := hrow5.below hb6)
            | (go_at_call 16; (with_reducible refine (sameRowsC _ K a5 a6 c5 c6 w6 hrow56 hrow6).mono ?_); rintro e w' ⟨rfl, d7, rfl⟩; have hb07 := below_drewN hb06 d7)
            | (go_at_call 7; (with_reducible refine (awake04C _ (HT.out.below hb07)).mono ?_); rintro e w8 ⟨rfl, hb8⟩))
          go_ret
          exact ⟨rfl, hb07.trans (hb8.mono hb07.size)⟩
        · have hx2 : (L : Int) < cut := by have := HX.out; omega
          go_wp2_with (first
            | (go_at_call 15; (with_reducible refine (HS2 _ (hrq.below' hbw) (HT.out.below hbw)).mono ?_); rintro e w5 ⟨a5, c5, rfl, hrow5, hb5⟩; have hb05 := hbw.trans (hb5.mono hbw.size))
            | (go_at_call 17; (with_reducible refine (HR2 _ (hrq.below' hb05)).mono ?_); rintro e w6 ⟨a6, c6, rfl, hrow6, hb6⟩; have hb06 := hb05.trans (hb6.mono hb05.size); have hrow56 := hrow5.below hb6)
            | (go_at_call 16; (with_reducible refine (sameRowsC _ K a5 a6 c5 c6 w6 hrow56 hrow6).mono ?_); rintro e w' ⟨rfl, d7, rfl⟩; have hb07 := below_drewN hb06 d7)
            | (go_at_call 7; (with_reducible refine (awake04C _ (HT.out.below hb07)).mono ?_); rintro e w8 ⟨rfl, hb8⟩))
          go_ret
          exact ⟨rfl, hb07.trans (hb8.mono hb07.size)⟩
      · obtain ⟨Q, rfl⟩ := Int.eq_ofNat_of_zero_le (show 0 ≤ cut by omega)
        have hQL : Q ≤ L := by omega
        have hsc := HW.out.scan hW hQL
        have hb1 : IsBytes ((framesOf R k).take Q) := (framesOf_bytes R k (fun i hi => (HW.out.2.2.2.2 i hi).1)).take Q
        have hr1 : Reads wr a (((framesOf R k).take Q).map (Value.int .u8)) := by
          have := ho.reads
          rw [← List.take_append_drop Q (framesOf R k), List.map_append] at this
          exact this.head
        have hlen : ((framesOf R k).take Q).length = Q := by rw [List.length_take, HW.out.1]; omega
        have hLC : L ≤ C := ho.2.2.2.1
        have hCM : C ≤ maxLen := ho.2.2.2.2.1
        have HS1 := scanC _ Q C a wr hlen hr1 hb1 (by omega) hCM (by omega) (HT.out.below hbw)
        rw [hsc] at HS1
        unfold ScanIs at HS1
        simp only [List.length_map, List.length_range] at HS1
        have hcong : ∀ i, i < W → ((List.range W).map R).getD i [] = R i := fun i hi => by
          rw [List.getD_eq_getElem?_getD, List.getElem?_map, List.getElem?_range hi]
          rfl
        have HCG := Lib.hid hcong
        have hWk : (W : Int) ≤ (k : Int) := by omega
        unfold maxLen at hCM
        clear hsc hb1 hr1 hlen hcong ho HW hx
        go_wp2_with (first
          | (go_at_call 15; (with_reducible refine HS1.mono ?_); rintro e w3 ⟨a3, c3, rfl, hrow3, hb3⟩; have hb03 := hbw.trans (hb3.mono hbw.size); have hrow3' := hrow3.congr HCG.out; have hrow0 := (HR.out.head W hW).below hb03)
          | (go_at_call 16; (with_reducible refine (sameRowsC R W a3 a0 c3 c0 w3 hrow3' hrow0).mono ?_); rintro e w' ⟨rfl, d3, rfl⟩; have hb04 := below_drewN hb03 d3)
          | (go_at_call 15; (with_reducible refine (HS2 _ (hrq.below' hb04) (HT.out.below hb04)).mono ?_); rintro e w5 ⟨a5, c5, rfl, hrow5, hb5⟩; have hb05 := hb04.trans (hb5.mono hb04.size))
          | (go_at_call 17; (with_reducible refine (HR2 _ (hrq.below' hb05)).mono ?_); rintro e w6 ⟨a6, c6, rfl, hrow6, hb6⟩; have hb06 := hb05.trans (hb6.mono hb05.size); have hrow56 := hrow5.below hb6)
          | (go_at_call 16; (with_reducible refine (sameRowsC _ K a5 a6 c5 c6 w6 hrow56 hrow6).mono ?_); rintro e w' ⟨rfl, d7, rfl⟩; have hb07 := below_drewN hb06 d7)
          | (go_at_call 7; (with_reducible refine (awake04C _ (HT.out.below hb07)).mono ?_); rintro e w8 ⟨rfl, hb8⟩))
        go_ret
        exact ⟨rfl, hb07.trans (hb8.mono hb07.size)⟩

theorem frameScans_walk (a0 : Option Addr) (n0 c0 : Nat) (R : Nat → List Int) (cut : Int) (b0 : Option Addr) (m0 d0 : Nat) (z1 : List Int) (w : World) (w0 : IsRows .u8 w a0 n0 c0 R) (w1 : (Lit.int .i64 cut).wf = true) (w2 : IsRow .u8 w b0 m0 d0 z1) (hT : CTab w) :
    Calls Tryd.prog 5 #[.slice a0 n0 c0, .int .i64 cut, .slice b0 m0 d0] w fun e w' => e = .returned (.bool true) ∧ Below w.heap.size w w' := by
  have hn := wfI64 w1
  obtain ⟨h1, h2, h3, h4, _⟩ := isRow_reads w2
  by_cases c : 20 < n0 ∨ 1000 < m0
  · exact frameScans_long a0 b0 n0 c0 m0 d0 cut w hT c
  · exact frameScans_short R _ a0 b0 n0 c0 m0 d0 cut w hT (by omega) (by omega) w0 h2 h1 (isRow_bytes w2) h3 h4 hn.1 hn.2
end Go.Proofs.YtjjnehlghpdneaaDoor
