/- Contracts of layer 4's functions and of its reference: the frames that stand one behind the other, and whether bodies are the same. -/
import Derived.Test.YtjjnehlghpdneaaDoorFrameGet
import Derived.Test.YtjjnehlghpdneaaDoorOwnRows
namespace Go.Proofs.YtjjnehlghpdneaaDoor
open Go.RowKit
set_option linter.unusedVariables false

theorem infoRow : (Tryd.prog.info? 22).map (fun i => (i.zero, i.size, i.bytes)) = some (some (.slice none 0 0), 1, 24) := by kernel_rfl

theorem quiet_sum {P : Program} {f : FuncId} {args : Array Value} {w : World} {m x : Nat} {v : Value} (h : Calls P f args (w.drewN (m + x)) fun e w' => e = .returned v ∧ ∃ j, w' = (w.drewN (m + x)).drewN j) : Calls P f args (w.drewN (m + x)) fun e w'' => e = .returned v ∧ ∃ n, w'' = w.drewN (m + n) :=
  h.mono fun _ _ ⟨he, j, hm⟩ => ⟨he, x + j, by rw [hm, World.drewN_drewN, Nat.add_assoc]⟩

theorem sameRowsC (R : Nat → List Int) (K : Nat) (a b : Option Addr) (c d : Nat) (w : World) (ha : IsRows .u8 w a K c R) (hb : IsRows .u8 w b K d R) :
    Calls Tryd.prog 16 #[.slice a K c, .slice b K d] w fun e w' => e = .returned (.bool true) ∧ ∃ n, w' = w.drewN n := by
  have hK := ha.1
  have hm := ha.2.1
  unfold maxLen at hm
  have HA := Lib.hid ha
  have HB := Lib.hid hb
  clear ha hb
  go_enter Tryd.func16, Tryd.ntmps16
  go_wp2
  go_loopw [5] (fun i wr => ∃ k m : Nat, k ≤ K ∧ i = .int .i64 (k : Int) ∧ wr = w.drewN m) (fun i _ => K - (intOf i).toNat)
  case atStart => exact ⟨0, 0, Nat.zero_le _, rfl, rfl⟩
  case round =>
    obtain ⟨k, m, hk, rfl, rfl⟩ := hrel
    by_cases hlt : k < K
    · have hlt' : (k : Int) < (K : Int) := by omega
      obtain ⟨b1, o1, A1, L1, C1, rfl, hc1, hl1, hL1, hC1, hN1, hr1, hw1⟩ := HA.out.2.2.2 k hlt
      obtain ⟨b2, o2, A2, L2, C2, rfl, hc2, hl2, hL2, hC2, hN2, hr2, hw2⟩ := HB.out.2.2.2 k hlt
      have e12 : L2 = L1 := by omega
      subst e12
      have HL := Lib.hid hl1
      clear hl1 hl2
      go_wp2_with fail
      go_quiet ((go_at_call 9; exact quiet_sum (sameO (R k) L2 HL.out _ _ _ _ _ (hr1.drewN _) (hr2.drewN _) (by omega))))
      go_wp2
      go_roundw
      case rel => exact ⟨k + 1, _, by omega, by go_num, rfl⟩
      case measure => simp [intOf]; omega
    · go_wp2
      go_ret
      exact ⟨rfl, m, rfl⟩

theorem frames_step (l : List Int) (P : List (List Int)) (T : Nat) (hb : IsBytes l) (hT : T ≤ l.length) (H : framesGot l = (P ++ (framesGot (l.drop T)).1, T + (framesGot (l.drop T)).2)) (y : List Int) (N : Nat) (e : Int) (h : frameGot (l.drop T) = (y, N, e)) :
    (e ≠ 0 ∧ framesGot l = (P, T)) ∨ (e = 0 ∧ 1 ≤ N ∧ T + N ≤ l.length ∧ framesGot l = ((P ++ [y]) ++ (framesGot (l.drop (T + N))).1, T + N + (framesGot (l.drop (T + N))).2)) := by
  by_cases c : e = 0
  · subst c
    right
    obtain ⟨h1, _, _, h4, _⟩ := frame_only (l.drop T) y N (hb.drop T) h
    rw [List.length_drop] at h1
    have h5 := frameLen_pos y.length
    rw [framesGot_some (l.drop T) y N (hb.drop T) h, List.drop_drop] at H
    refine ⟨rfl, by omega, by omega, ?_⟩
    rw [H]
    simp [Nat.add_assoc]
  · left
    rw [framesGot_none (l.drop T) (by rw [h]; exact c)] at H
    exact ⟨c, by simpa using H⟩

/-- Bodies in new memory, and a number. -/
def ScanIs (r : List (List Int) × Nat) (w : World) (en : Ending) (w' : World) : Prop :=
  ∃ (A : Option Addr) (C : Nat), en = .returned (.tuple #[.slice A r.1.length C, .int .i64 (r.2 : Int)]) ∧ IsRows .u8 w' A r.1.length C (fun i => r.1.getD i []) ∧ Below w.heap.size w w'

theorem bytes_wf {l : List Int} (h : IsBytes l) : ∀ x ∈ l, (Lit.int .u8 x).wf = true := fun x hx => by
  simpa [Lit.wf, IntKind.min, IntKind.max, IntKind.signed, IntKind.bits] using h x hx

theorem refScanC_nil (a : Option Addr) (c : Nat) (w : World) (hm : c ≤ maxLen) :
    Calls Tryd.prog 17 #[.slice a 0 c] w (ScanIs (framesGot []) w) := by
  have h0 : frameGot [] = ([], 0, 2) := by unfold frameGot; rfl
  rw [framesGot_none [] (by rw [h0]; decide)]
  have HG := fun w A C (hC : C ≤ maxLen) => refGetFC [] 0 A C w rfl (Reads.nil _ _) (fun x hx => by cases hx) (Nat.zero_le _) hC (Nat.zero_le _)
  rw [h0] at HG
  unfold GetIs at HG
  simp only [List.length_nil] at HG
  have hl := (OwnsRows.lit 22 .u8 w).isRows
  have hb0 := below_alloc w (.cells #[] 22)
  go_enter Tryd.func17, Tryd.ntmps17
  go_wp2
  go_loopw [4, 5] (fun v i wr => v = .slice (some ⟨w.heap.size, 0, none⟩) 0 0 ∧ i = .int .i64 0 ∧ wr = w.alloc (.cells #[] 22)) (fun _ _ _ => 0)
  case atStart => exact ⟨rfl, rfl, rfl⟩
  case round =>
    obtain ⟨rfl, rfl, rfl⟩ := hrel
    go_wp2_with (go_at_call 14; (with_reducible refine (HG _ _ _ hm).mono ?_); rintro e w1 ⟨a1, c1, rfl, ho1, hb1⟩)
    go_ret2
    exact ⟨some ⟨w.heap.size, 0, none⟩, 0, rfl, hl.below hb1, hb0.trans (hb1.mono hb0.size)⟩

set_option maxRecDepth 100000 in
theorem refScanC_some (l : List Int) (n B off c : Nat) (w : World) (hl : l.length = n) (ha : Reads w (some ⟨B, off, none⟩) (l.map (Value.int .u8))) (hb : IsBytes l) (hn : n ≤ c) (hm : c ≤ maxLen) (h12 : n ≤ 1000000000000) :
    Calls Tryd.prog 17 #[.slice (some ⟨B, off, none⟩) n c] w (ScanIs (framesGot l) w) := by
  obtain ⟨i1, hi, hz0, hz1, hz2⟩ := info_parts infoRow
  have hm2 := hm
  unfold maxLen at hm2
  have hl0 := OwnsRows.lit 22 .u8 w
  have hb0 := below_alloc w (.cells #[] 22)
  have HN := Lib.hid hl
  have HB := Lib.hid hb
  clear hl hb
  go_enter Tryd.func17, Tryd.ntmps17
  go_wp2
  go_loopw [4, 5] (fun v i wr => ∃ (P : List (List Int)) (T K C : Nat) (a : Option Addr), T ≤ n ∧ K ≤ T ∧ v = .slice a K C ∧ i = .int .i64 (T : Int) ∧ Hid (framesGot l = (P ++ (framesGot (l.drop T)).1, T + (framesGot (l.drop T)).2)) ∧ OwnsRows w.heap.size 22 .u8 a K C P wr ∧ Below w.heap.size w wr) (fun _ i _ => n - (intOf i).toNat)
  case atStart => exact ⟨[], 0, 0, 0, _, Nat.zero_le _, Nat.le_refl _, rfl, rfl, by unfold Hid; rw [List.drop_zero, List.nil_append, Nat.zero_add], hl0, hb0⟩
  case round =>
    clear hl0 hb0
    obtain ⟨P, T, K, C, a, hT, hK, rfl, rfl, H, ho, hbw⟩ := hrel
    have har := (ha.part_if c T (n - T) (by omega)).below' hbw
    rw [List.take_of_length_le (by rw [List.length_drop, HN.out]; omega)] at har
    have HG := fun (ww : World) (A : Option Addr) (hr : Reads ww A ((l.drop T).map (Value.int .u8))) => refGetFC (l.drop T) (n - T) A (c - T) ww (by rw [List.length_drop, HN.out]) hr (HB.out.drop T) (by omega) (by omega) (by omega)
    have hbd := frameGot_bounds (l.drop T) (HB.out.drop T)
    rw [List.length_drop, HN.out] at hbd
    have hstep := frames_step l P T HB.out (by rw [HN.out]; exact hT) H.out
    unfold GetIs at HG
    generalize frameGot (l.drop T) = r at HG hbd hstep
    obtain ⟨y, N, e⟩ := r
    simp only [] at HG hbd
    rcases hstep y N e rfl with ⟨he, hs⟩ | ⟨rfl, hN1, hN2, hs⟩
    · have HS := Lib.hid hs
      clear hstep H hs
      go_wp2_with (go_at_call 14; generalize (if c = T then (some ⟨B, off, none⟩ : Option Addr) else some ⟨B, off + T, none⟩) = A0 at har ⊢; (with_reducible refine (HG _ _ har).mono ?_); rintro e1 w1 ⟨a1, c1, rfl, ho1, hb1⟩)
      go_ret2
      rw [HS.out]
      obtain ⟨xs, k1, k2, k3⟩ := ho
      refine ⟨a, C, ?_, ?_, hbw.trans (hb1.mono hbw.size)⟩
      · show _ = Ending.returned (.tuple #[.slice a P.length C, .int .i64 (T : Int)])
        rw [k2]
        rfl
      · show IsRows .u8 w1 a P.length C (fun i => P.getD i [])
        rw [k2]
        exact (OwnsRows.below ⟨xs, k1, k2, k3⟩ hb1).isRows
    · have HS := Lib.hid hs
      rw [HN.out] at hN2
      clear hstep H hs
      obtain ⟨L, hL⟩ : ∃ L, y.length = L := ⟨_, rfl⟩
      rw [hL] at HG hbd
      have HL := Lib.hid hL
      have hyb := bytes_wf hbd.2.2
      clear hL
      have har2 := (ha.part T (n - T)).below' hbw
      rw [List.take_of_length_le (by rw [List.length_drop, HN.out]; omega)] at har2
      have ho2 := ho
      obtain ⟨xs0, k10, -, -⟩ := ho
      have hsz := hbw.size
      go_wp2_with (first
        | (go_at_call 14; (with_reducible refine (HG _ _ har2).mono ?_); rintro e1 w1 ⟨a1, c1, rfl, ho1, hb1⟩; obtain ⟨xs, k1, k2, k3⟩ := ho2.below hb1; have hb2 := below_alloc w1 (.cells #[.slice a1 L c1] 22); have k1' := k1.below hb2 (Nat.le_refl _); have k3' := k3.below hb2; have hnew := reads_new w1 [.slice a1 L c1] 22; have hr1 := ho1.reads.below' hb2; have hsz2 := Nat.le_trans hsz (Nat.le_trans hb1.size hb2.size); have hap : ∀ x, a1 = some x → Apart a x.block ∧ x.block < (w1.alloc (.cells #[.slice a1 L c1] 22)).heap.size := (fun x hx => ⟨fun z hz => (by have h1 := (ho1.lt x hx).1; have h2 := (k10.lt z hz).2; omega), Nat.lt_of_lt_of_le (ho1.lt x hx).2 hb2.size⟩))
        | (at_builtin; refine wpList_append_where rfl (.tmp 22) (.tmp 24) 35 rfl 22 i1 (.slice none 0 0) 24 Tryd.underlying35 hi hz0 hz1 hz2 rfl k1' rfl hnew rfl rfl (fun h => by cases h) (fun u hu => by simp at hu; subst hu; rfl) (K + 1) rfl (by unfold maxLen; omega) (by omega) hsz2 ?_; intro a3 c3 w3 ho3 hb3 hg3 ha3))
      have hrow := RowsAt.snoc k3' k2 k1'.len hg3 ha3 HL.out ho1.2.2.2.1 ho1.2.2.2.2.1 ho1.nil0 hr1 hyb hap
      have hrows : OwnsRows w.heap.size 22 .u8 a3 (K + 1) c3 (P ++ [y]) w3 := ⟨xs ++ [.slice a1 L c1], ho3, by rw [List.length_append, k2]; rfl, hrow⟩
      have hbw3 : Below w.heap.size w w3 := hbw.trans ((hb1.mono hsz).trans ((hb2.mono (Nat.le_trans hsz hb1.size)).trans hb3))
      clear hrow ho3 hb3 hg3 ha3 hr1 hap hnew k1' k3' k1 k3 ho1 hb1 hb2 ho2 k10 har har2
      go_wp2
      go_roundw
      case rel => exact ⟨P ++ [y], T + N, K + 1, c3, a3, hN2, by omega, rfl, by go_num, HS, hrows, hbw3⟩
      case measure => simp [intOf]; omega

set_option maxRecDepth 100000 in
theorem scanC_some (l : List Int) (n B off c : Nat) (w : World) (hl : l.length = n) (ha : Reads w (some ⟨B, off, none⟩) (l.map (Value.int .u8))) (hb : IsBytes l) (hn : n ≤ c) (hm : c ≤ maxLen) (h12 : n ≤ 1000000000000) (hT0 : CTab w) :
    Calls Tryd.prog 15 #[.slice (some ⟨B, off, none⟩) n c] w (ScanIs (framesGot l) w) := by
  obtain ⟨i1, hi, hz0, hz1, hz2⟩ := info_parts infoRow
  have hm2 := hm
  unfold maxLen at hm2
  have HN := Lib.hid hl
  have HB := Lib.hid hb
  have HT := Lib.hid hT0
  clear hl hb hT0
  go_enter Tryd.func15, Tryd.ntmps15
  go_wp2
  go_step3
  go_wp2
  go_step3
  go_wp2
  go_loopw [4, 5] (fun v i wr => ∃ (P : List (List Int)) (T K C : Nat) (a : Option Addr), T ≤ n ∧ K ≤ T ∧ v = .slice a K C ∧ i = .int .i64 (T : Int) ∧ Hid (framesGot l = (P ++ (framesGot (l.drop T)).1, T + (framesGot (l.drop T)).2)) ∧ OwnsRows w.heap.size 22 .u8 a K C P wr ∧ Below w.heap.size w wr) (fun _ i _ => n - (intOf i).toNat)
  case atStart => exact ⟨[], 0, 0, 0, none, Nat.zero_le _, Nat.le_refl _, rfl, rfl, by unfold Hid; rw [List.drop_zero, List.nil_append, Nat.zero_add], OwnsRows.nil _ _ _ _, Below.refl _ _⟩
  case round =>
    obtain ⟨P, T, K, C, a, hT, hK, rfl, rfl, H, ho, hbw⟩ := hrel
    have har := (ha.part_if n T (n - T) (by omega)).below' hbw
    rw [List.take_of_length_le (by rw [List.length_drop, HN.out]; omega)] at har
    have HTr := Lib.hid (HT.out.below hbw)
    have HG := fun (ww : World) (A : Option Addr) (hr : Reads ww A ((l.drop T).map (Value.int .u8))) hT => getFC (l.drop T) (n - T) A (n - T) ww (by rw [List.length_drop, HN.out]) hr (HB.out.drop T) (Nat.le_refl _) (by omega) (by omega) hT
    have hbd := frameGot_bounds (l.drop T) (HB.out.drop T)
    rw [List.length_drop, HN.out] at hbd
    have hstep := frames_step l P T HB.out (by rw [HN.out]; exact hT) H.out
    unfold GetIs at HG
    generalize frameGot (l.drop T) = r at HG hbd hstep
    obtain ⟨y, N, e⟩ := r
    simp only [] at HG hbd
    rcases hstep y N e rfl with ⟨he, hs⟩ | ⟨rfl, hN1, hN2, hs⟩
    · have HS := Lib.hid hs
      have he2 : (e == 0) = false := by simpa using he
      clear hstep H hs he
      go_wp2_with (go_at_call 12; generalize (if n = T then (some ⟨B, off, none⟩ : Option Addr) else some ⟨B, off + T, none⟩) = A0 at har ⊢; (with_reducible refine (HG _ _ har HTr.out).mono ?_); rintro e1 w1 ⟨a1, c1, rfl, ho1, hb1⟩)
      rw [Exit.noGoto_ret]
      go_ret2
      rw [HS.out]
      obtain ⟨xs, k1, k2, k3⟩ := ho
      refine ⟨a, C, ?_, ?_, hbw.trans (hb1.mono hbw.size)⟩
      · show _ = Ending.returned (.tuple #[.slice a P.length C, .int .i64 (T : Int)])
        rw [k2]
        rfl
      · show IsRows .u8 w1 a P.length C (fun i => P.getD i [])
        rw [k2]
        exact (OwnsRows.below ⟨xs, k1, k2, k3⟩ hb1).isRows
    · have HS := Lib.hid hs
      rw [HN.out] at hN2
      clear hstep H hs
      obtain ⟨L, hL⟩ : ∃ L, y.length = L := ⟨_, rfl⟩
      rw [hL] at HG hbd
      have HL := Lib.hid hL
      have hyb := bytes_wf hbd.2.2
      clear hL
      have har2 := (ha.part T (n - T)).below' hbw
      rw [List.take_of_length_le (by rw [List.length_drop, HN.out]; omega)] at har2
      have ho2 := ho
      obtain ⟨xs0, k10, -, -⟩ := ho
      have hsz := hbw.size
      go_wp2_with (first
        | (go_at_call 12; (with_reducible refine (HG _ _ har2 HTr.out).mono ?_); rintro e1 w1 ⟨a1, c1, rfl, ho1, hb1⟩; obtain ⟨xs, k1, k2, k3⟩ := ho2.below hb1; have hb2 := below_alloc w1 (.cells #[.slice a1 L c1] 22); have k1' := k1.below hb2 (Nat.le_refl _); have k3' := k3.below hb2; have hnew := reads_new w1 [.slice a1 L c1] 22; have hr1 := ho1.reads.below' hb2; have hsz2 := Nat.le_trans hsz (Nat.le_trans hb1.size hb2.size); have hap : ∀ x, a1 = some x → Apart a x.block ∧ x.block < (w1.alloc (.cells #[.slice a1 L c1] 22)).heap.size := (fun x hx => ⟨fun z hz => (by have h1 := (ho1.lt x hx).1; have h2 := (k10.lt z hz).2; omega), Nat.lt_of_lt_of_le (ho1.lt x hx).2 hb2.size⟩))
        | (at_builtin; refine wpList_append_where rfl (.tmp 24) (.tmp 26) 35 rfl 22 i1 (.slice none 0 0) 24 Tryd.underlying35 hi hz0 hz1 hz2 rfl k1' rfl hnew rfl rfl (fun h => by cases h) (fun u hu => by simp at hu; subst hu; rfl) (K + 1) rfl (by unfold maxLen; omega) (by omega) hsz2 ?_; intro a3 c3 w3 ho3 hb3 hg3 ha3))
      have hrow := RowsAt.snoc k3' k2 k1'.len hg3 ha3 HL.out ho1.2.2.2.1 ho1.2.2.2.2.1 ho1.nil0 hr1 hyb hap
      have hrows : OwnsRows w.heap.size 22 .u8 a3 (K + 1) c3 (P ++ [y]) w3 := ⟨xs ++ [.slice a1 L c1], ho3, by rw [List.length_append, k2]; rfl, hrow⟩
      have hbw3 : Below w.heap.size w w3 := hbw.trans ((hb1.mono hsz).trans ((hb2.mono (Nat.le_trans hsz hb1.size)).trans hb3))
      clear hrow ho3 hb3 hg3 ha3 hr1 hap hnew k1' k3' k1 k3 ho1 hb1 hb2 ho2 k10 har har2
      go_wp2
      go_roundw
      case rel => exact ⟨P ++ [y], T + N, K + 1, c3, a3, hN2, by omega, rfl, by go_num, HS, hrows, hbw3⟩
      case measure => simp [intOf]; omega

theorem scanC_nil (a : Option Addr) (c : Nat) (w : World) (hT : CTab w) :
    Calls Tryd.prog 15 #[.slice a 0 c] w (ScanIs (framesGot []) w) := by
  have h0 : frameGot [] = ([], 0, 2) := by unfold frameGot; rfl
  rw [framesGot_none [] (by rw [h0]; decide)]
  have HG := fun w A hT => getFC [] 0 A 0 w rfl (Reads.nil _ _) (fun x hx => by cases hx) (Nat.le_refl _) (Nat.zero_le _) (Nat.zero_le _) hT
  rw [h0] at HG
  unfold GetIs at HG
  simp only [List.length_nil] at HG
  have hl := fun w => (OwnsRows.nil w.heap.size 22 .u8 w).isRows
  have HT := Lib.hid hT
  clear hT
  go_enter Tryd.func15, Tryd.ntmps15
  go_wp2
  go_step3
  go_wp2
  go_step3
  go_wp2
  go_loopw [4, 5] (fun v i wr => v = .slice none 0 0 ∧ i = .int .i64 0 ∧ wr = w) (fun _ _ _ => 0)
  case atStart => exact ⟨rfl, rfl, rfl⟩
  case round =>
    obtain ⟨rfl, rfl, rfl⟩ := hrel
    go_wp2_with (go_at_call 12; (with_reducible refine (HG _ _ HT.out).mono ?_); rintro e w1 ⟨a1, c1, rfl, ho1, hb1⟩)
    rw [Exit.noGoto_ret]
    go_ret2
    exact ⟨none, 0, rfl, hl w1, hb1⟩

theorem scanC (l : List Int) (n c : Nat) (a : Option Addr) (w : World) (hl : l.length = n) (ha : Reads w a (l.map (Value.int .u8))) (hb : IsBytes l) (hn : n ≤ c) (hm : c ≤ maxLen) (h12 : n ≤ 1000000000000) (hT : CTab w) :
    Calls Tryd.prog 15 #[.slice a n c] w (ScanIs (framesGot l) w) := by
  cases l with
  | nil =>
    have e : n = 0 := hl.symm
    subst e
    exact scanC_nil a c w hT
  | cons y ys =>
    obtain ⟨b, off, rfl, _⟩ := ha 0 (.int .u8 y) rfl
    exact scanC_some (y :: ys) n b off c w hl ha hb hn hm h12 hT
theorem refScanC (l : List Int) (n c : Nat) (a : Option Addr) (w : World) (hl : l.length = n) (ha : Reads w a (l.map (Value.int .u8))) (hb : IsBytes l) (hn : n ≤ c) (hm : c ≤ maxLen) (h12 : n ≤ 1000000000000) :
    Calls Tryd.prog 17 #[.slice a n c] w (ScanIs (framesGot l) w) := by
  cases l with
  | nil =>
    have e : n = 0 := hl.symm
    subst e
    exact refScanC_nil a c w hm
  | cons y ys =>
    obtain ⟨b, off, rfl, _⟩ := ha 0 (.int .u8 y) rfl
    exact refScanC_some (y :: ys) n b off c w hl ha hb hn hm h12
end Go.Proofs.YtjjnehlghpdneaaDoor
