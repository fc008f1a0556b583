/- Layer 19's laws, walked: each stamp is above all ahead. -/
import Derived.Test.YtfdiomghoheljaaClockLaw2
namespace Go.Proofs.Ytfdiomghoheljaa
open Go.RowKit
set_option linter.unusedVariables false

theorem infoStamp : (Try.prog.info? 29).map (fun i => (i.zero, i.size, i.bytes)) = some (some (.agg #[.int .i64 0, .int .i64 0, .int .i64 0]), 3, 24) := by kernel_rfl
def encM (s : StampN) : List Value := [.int .i64 s.wall, .int .i64 s.count, .int .i64 s.dev]
theorem encM_len (x : StampN) : (encM x).length = 3 := rfl
theorem encM_one (x : StampN) : ∀ u ∈ encM x, u.oneCell' = true := by
  intro u hu
  unfold encM at hu
  rcases List.mem_cons.1 hu with rfl | hu
  · rfl
  rcases List.mem_cons.1 hu with rfl | hu
  · rfl
  rw [List.mem_singleton.1 hu]
  rfl
theorem stamp_at {w : World} {a : Option Addr} {n c : Nat} {L : List StampN} (h : RowOf encM 3 w a n c L) (k : Nat) (hk : k < n) :
    ∃ x g off, L[k]? = some x ∧ a = some ⟨g, off, none⟩ ∧ w.cell? ⟨g, off + k * 3, none⟩ = some (.int .i64 x.wall) ∧ w.cell? ⟨g, off + k * 3 + 1, none⟩ = some (.int .i64 x.count) ∧ w.cell? ⟨g, off + k * 3 + 2, none⟩ = some (.int .i64 x.dev) := by
  obtain ⟨x, g, off, hx, e, hc⟩ := h.at k hk
  exact ⟨x, g, off, hx, e, hc 0 _ rfl, hc 1 _ rfl, hc 2 _ rfl⟩
theorem rowM_at {base : Nat} {e : TypeId} {q : Option Addr} {m C : Nat} {P : List StampN} {w : World} (h : OwnZ encM 3 base e q m C P w) : ∀ k, At q k → base ≤ k ∧ k < w.heap.size := fun k hk => by
  rcases h.head with ⟨rfl, -⟩ | ⟨g, rfl, h1, h2⟩
  · exact absurd hk (at_none k)
  · have e : g = k := at_some.1 hk
    subst e
    exact ⟨h1, h2⟩
theorem rowM_keeps {F : Nat → Prop} {base : Nat} {e : TypeId} {q : Option Addr} {m C : Nat} {P : List StampN} {w w' : World} (h : OwnZ encM 3 base e q m C P w) (hk : Keeps F w w') (hq : ∀ k, At q k → ¬ F k) : OwnZ encM 3 base e q m C P w' :=
  ⟨ownsRow_keeps h.1 hk hq, h.2⟩

/-- A clock of the program's, and a row of stamps beside it. -/
structure StM (w : World) (p : Nat) (F : Nat → Prop) (c : ClockN) (q : Option Addr) (m C : Nat) (M : List StampN) (v : World) : Prop where
  k : ClkAt v p F c
  z : OwnZ encM 3 w.heap.size 29 q m C M v
  off : ∀ i, At q i → ¬ F i
  new : ∀ i, F i → w.heap.size ≤ i
  hb : Below w.heap.size w v
theorem StM.below {w v v' : World} {p : Nat} {F : Nat → Prop} {c : ClockN} {q : Option Addr} {m C : Nat} {M : List StampN} (h : StM w p F c q m C M v) (hx : Below v.heap.size v v') : StM w p F c q m C M v' :=
  ⟨h.k.below hx, h.z.below hx (Nat.le_refl _), h.off, h.new, h.hb.trans (hx.mono h.hb.size)⟩
theorem StM.clock {w v v' : World} {p : Nat} {F F3 : Nat → Prop} {c c3 : ClockN} {q : Option Addr} {m C : Nat} {M : List StampN} (h : StM w p F c q m C M v) (hv : ClkAt v' p F3 c3) (hk : Keeps F v v') (hn : ∀ i, F3 i → F i ∨ v.heap.size ≤ i) : StM w p F3 c3 q m C M v' :=
  ⟨hv, rowM_keeps h.z hk h.off, fun i h1 h2 => (hn i h2).elim (h.off i h1) (fun h3 => by have := (rowM_at h.z i h1).2; omega), fun i h1 => (hn i h1).elim (h.new i) (fun h2 => Nat.le_trans h.hb.size h2), h.hb.trans (hk.below h.hb.size fun i _ h1 => h.new i h1)⟩
theorem StM.grown {w v v' : World} {p : Nat} {F : Nat → Prop} {c : ClockN} {q q' : Option Addr} {m C m' C' : Nat} {M M' : List StampN} (h : StM w p F c q m C M v) (hz : OwnZ encM 3 w.heap.size 29 q' m' C' M' v') (hx : Below w.heap.size v v') (hg : GrownBut v v' q) (hn : q' = q ∨ ∃ g, q' = some ⟨g, 0, none⟩ ∧ v.heap.size ≤ g) : StM w p F c q' m' C' M' v' :=
  ⟨h.k.keeps (Keeps.ofGrown hx hg) (fun i h1 h2 => h.off i h2 h1), hz, fun i h1 h2 => by
    rcases hn with rfl | ⟨g, rfl, hg⟩
    · exact h.off i h1 h2
    · have e : g = i := at_some.1 h1
      have := h.k.lt i h2
      omega, h.new, h.hb.trans hx⟩

theorem hear_case (c : ClockN) (s : StampN) : ((hearK c s).2 = 0 ∧ AtMost c.last (hearK c s).1.last ∧ AtMost s (hearK c s).1.last) ∨ ((hearK c s).2 ≠ 0 ∧ (hearK c s).1 = c) := by
  unfold hearK
  split
  · exact .inr ⟨show (4 : Int) ≠ 0 by decide, rfl⟩
  split
  · exact .inr ⟨show (8 : Int) ≠ 0 by decide, rfl⟩
  · exact .inl ⟨rfl, take_most c s⟩
theorem restore_case (c : ClockN) (s : StampN) : ((restoreK c s).2 = 0 ∧ AtMost c.last (restoreK c s).1.last ∧ AtMost s (restoreK c s).1.last) ∨ ((restoreK c s).2 ≠ 0 ∧ (restoreK c s).1 = c) := by
  unfold restoreK
  split
  · exact .inr ⟨show (4 : Int) ≠ 0 by decide, rfl⟩
  · exact .inl ⟨rfl, take_most c s⟩
theorem all_most {M : List StampN} {l l' : StampN} (h : ∀ x ∈ M, AtMost x l) (hl : AtMost l l') : ∀ x ∈ M, AtMost x l' := fun x hx => (h x hx).trans hl
theorem all_snoc {M : List StampN} {l s : StampN} (h : ∀ x ∈ M, AtMost x l) (hs : AtMost s l) : ∀ x ∈ M ++ [s], AtMost x l := fun x hx => by
  rcases List.mem_append.1 hx with hx | hx
  · exact h x hx
  · rw [List.mem_singleton.1 hx]; exact hs

set_option maxHeartbeats 8000000 in
set_option maxRecDepth 100000 in
theorem clockGoesOn_walk (t : Int) (a : Option Addr) (n c : Nat) (L : List StepN) (w : World) (ht : (Lit.int .u8 t).wf = true) (hL : RowOf encT 5 w a n c L) (hF : ∀ x ∈ L, FitS x) :
    Calls Try.prog 4 #[.int .u8 t, .slice a n c] w fun e w' => e = .returned (.bool true) ∧ Below w.heap.size w w' := by
  have hcm := hL.capm
  have hcl := hL.cle
  have hleq := hL.leq
  unfold maxLen at hcm
  have HL := Lib.hid hL
  have Hn := Lib.hid hleq
  clear hL hleq
  by_cases h100 : 100 < n
  · have h100' : (100 : Int) < (n : Int) := by omega
    go_enter Try.func4, Try.ntmps4
    go_wp2_with (go_at_call 8; (with_reducible refine (awake19C _).mono ?_); rintro e w2 ⟨rfl, hx⟩)
    go_ret
    exact ⟨rfl, hx⟩
  have h100' : ¬ (100 : Int) < (n : Int) := by omega
  obtain ⟨i0, hi, hz0, hz1, hz2⟩ := info_parts infoStamp
  obtain ⟨M, rfl, hM⟩ : ∃ M : Nat, t = (M : Int) ∧ M ≤ 255 := by
    have h1 := wfU8 ht
    exact ⟨t.toNat, by omega, by omega⟩
  obtain ⟨N, hN⟩ : ∃ N, M % 64 = N := ⟨_, rfl⟩
  have hNk : N < 64 := by rw [← hN]; exact Nat.mod_lt _ (by decide)
  have hN1 : (M : Int).tmod 64 = (N : Int) := by rw [← hN]; exact (Int.ofNat_tmod M 64).symm
  have hN2 : (M : Int) % 64 = (N : Int) := by rw [← hN]; rfl
  have HN := fun v => kNewYes (N : Int) v ⟨by omega, by omega⟩
  clear hN
  go_enter Try.func4, Try.ntmps4
  go_wp2_with (go_at_call 9; (with_reducible refine (HN _).mono ?_); rintro e w1 ⟨p, F, rfl, k1, n1, hx1⟩; have y1 := below_alloc w1 (.cells #[] 29); have hS1 : StM w p F ⟨0, ⟨0, 0, (N : Int)⟩⟩ (some ⟨w1.heap.size, 0, none⟩) 0 0 [] (w1.alloc (.cells #[] 29)) := ⟨k1.below y1, (OwnZ.lit encM 3 29 w1).base hx1.size, fun i h1 h2 => by have e : w1.heap.size = i := at_some.1 h1; have := k1.lt i h2; omega, n1, hx1.trans (y1.mono hx1.size)⟩)
  clear k1 n1 hx1 y1
  have hA0 : Hid (∀ x ∈ ([] : List StampN), AtMost x (⟨0, ⟨0, 0, (N : Int)⟩⟩ : ClockN).last) := fun x hx => by cases hx
  go_loopw [7, 8] (fun l i wr => ∃ (k m C : Nat) (q : Option Addr) (Me : List StampN) (c' : ClockN) (F : Nat → Prop), k ≤ n ∧ m ≤ k ∧ i = .int .i64 (k : Int) ∧ l = .slice q m C ∧ Hid (∀ x ∈ Me, AtMost x c'.last) ∧ StM w p F c' q m C Me wr) (fun _ i _ => n - (intOf i).toNat)
  case atStart => exact ⟨0, 0, 0, _, [], _, F, Nat.zero_le _, Nat.le_refl _, rfl, rfl, hA0, hS1⟩
  case round =>
    clear hS1 HN hA0
    obtain ⟨k, m, C, q, Me, c', F, hk, hmk, rfl, rfl, hA, hS⟩ := hrel
    by_cases hlt : k < n
    · have hlt' : (k : Int) < (n : Int) := by omega
      obtain ⟨x, g, off, hx, rfl, d0, d1, d2, d3, d4⟩ := step_at (HL.out.below hS.hb) k hlt
      have hfx := hF x (List.mem_of_getElem? hx)
      have HD0 : ∀ w', Below w.heap.size w w' → w'.cell? ⟨g, off + k * 5, none⟩ = some (.int .i64 x.kind) ∧ w'.cell? ⟨g, off + k * 5 + 1, none⟩ = some (.int .i64 x.n) ∧ w'.cell? ⟨g, off + k * 5 + 2, none⟩ = some (.int .i64 x.s.wall) ∧ w'.cell? ⟨g, off + k * 5 + 3, none⟩ = some (.int .i64 x.s.count) ∧ w'.cell? ⟨g, off + k * 5 + 4, none⟩ = some (.int .i64 x.s.dev) := fun w' h => by
        obtain ⟨x', g', off', e1, e2, e3⟩ := step_at (HL.out.below h) k hlt
        rw [hx] at e1
        cases e1
        cases e2
        exact e3
      clear hx
      by_cases q1 : x.kind = 1
      · have HT := fun v h => kTickC p F c' x.n v h hfx.n
        have hl := tick_last c' x.n
        unfold KChanged at HT
        generalize tickK c' x.n = X at *
        rw [q1] at d0
        go_wp2_with (go_at_call 13; (with_reducible refine (HT _ hS.k).mono ?_); rintro e w3 ⟨rfl, F3, k3, hk3, n3⟩; have hS3 := hS.clock k3 hk3 n3)
        go_roundw
        case rel => exact ⟨k + 1, m, C, q, Me, _, F3, by omega, by omega, by go_num, rfl, by unfold Hid; rw [hl]; exact hA.out, hS3⟩
        case measure => simp [intOf]; omega
      have q1' : (x.kind == 1) = false := beq_eq_false_iff_ne.2 q1
      by_cases q2 : x.kind = 2
      · have HT := fun v h => kNextC p F c' v h
        have hle := fun h0 y hy => peek_less (c := c') h0 (hA.out y hy)
        have hnm := next_most c'
        have hnl := fun h0 => next_last (c := c') h0
        have hnn : (peekK c').2 ≠ 0 → nextK c' = c' := fun h => by unfold nextK; rw [if_neg h]
        unfold KChanged at HT
        generalize peekK c' = X at *
        generalize nextK c' = c2 at *
        obtain ⟨⟨a2, b2, d2'⟩, er⟩ := X
        unfold valT at HT
        dsimp only at *
        rw [q2] at d0
        by_cases he : er = 0
        · subst he
          have hle9 := Lib.hid (hle rfl)
          have hnl9 := Lib.hid (hnl rfl)
          have hnm9 := Lib.hid hnm
          clear hnn hle hnl hnm
          go_wp2_with (go_at_call 14; (with_reducible refine (HT _ hS.k).mono ?_); rintro e w3 ⟨rfl, F3, k3, hk3, n3⟩; have hS3 := hS.clock k3 hk3 n3; have y3 := below_alloc w3 (.cells #[.int .i64 a2, .int .i64 b2, .int .i64 d2'] 29); have o4 := ObjAt.new w3 #[.int .i64 a2, .int .i64 b2, .int .i64 d2'] 29; have hS4 := hS3.below y3; clear hS3 y3; generalize hv4 : w3.alloc (.cells #[.int .i64 a2, .int .i64 b2, .int .i64 d2'] 29) = v4 at *)
          clear hS
          go_loopw [11] (fun j wr2 => ∃ i : Nat, i ≤ m ∧ j = .int .i64 (i : Int) ∧ StM w p F3 c2 q m C Me wr2 ∧ ObjAt wr2 w3.heap.size [.int .i64 a2, .int .i64 b2, .int .i64 d2']) (fun j _ => m - (intOf j).toNat)
          case atStart => exact ⟨0, Nat.zero_le _, rfl, hS4, o4⟩
          case round =>
            clear hS4 o4
            obtain ⟨i, hi9, rfl, hS4, o4⟩ := hrel
            by_cases hlt2 : i < m
            · have hlt2' : (i : Int) < (m : Int) := by omega
              have g1' : decide ((i : Int) < (m : Int)) = true := decide_eq_true hlt2'
              have i1 : (0 : Int) ≤ (i : Int) := by omega
              obtain ⟨y, g2, off2, hy, rfl, e0, e1, e2⟩ := stamp_at (hS4.z.row encM_len) i hlt2
              have HLs := fun v => refTLessC y ⟨a2, b2, d2'⟩ v
              rw [hle9.out y (List.mem_of_getElem? hy)] at HLs
              unfold valT at HLs
              dsimp only at HLs
              clear hy
              have hB1 : Below wr.heap.size wr wr.drew := (Below.refl _ wr).drew
              have hH : ∀ w', Below wr.heap.size wr w' → w'.cell? ⟨g2, off2 + i * 3, none⟩ = some (.int .i64 y.wall) ∧ w'.cell? ⟨g2, off2 + i * 3 + 1, none⟩ = some (.int .i64 y.count) ∧ w'.cell? ⟨g2, off2 + i * 3 + 2, none⟩ = some (.int .i64 y.dev) ∧ w'.cell? ⟨w3.heap.size, 0, none⟩ = some (.int .i64 a2) ∧ w'.cell? ⟨w3.heap.size, 1, none⟩ = some (.int .i64 b2) ∧ w'.cell? ⟨w3.heap.size, 2, none⟩ = some (.int .i64 d2') := fun w' h => by
                have o5 := o4.below h o4.lt
                exact ⟨(h.cell (cell_lt e0)).trans e0, (h.cell (cell_lt e1)).trans e1, (h.cell (cell_lt e2)).trans e2, o5.cell 0 rfl, o5.cell 1 rfl, o5.cell 2 rfl⟩
              go_wp2_with fail
              go_region_held3 (fun w' => w'.cell? ⟨g2, off2 + i * 3, none⟩ = some (.int .i64 y.wall) ∧ w'.cell? ⟨g2, off2 + i * 3 + 1, none⟩ = some (.int .i64 y.count) ∧ w'.cell? ⟨g2, off2 + i * 3 + 2, none⟩ = some (.int .i64 y.dev) ∧ w'.cell? ⟨w3.heap.size, 0, none⟩ = some (.int .i64 a2) ∧ w'.cell? ⟨w3.heap.size, 1, none⟩ = some (.int .i64 b2) ∧ w'.cell? ⟨w3.heap.size, 2, none⟩ = some (.int .i64 d2'))
                (first | exact hH _ hB1)
                (first | (go_at_call 15; (with_reducible refine (HLs _).mono ?_); rintro e w5 ⟨rfl, hx⟩; have hB1 := hB1.trans (hx.mono hB1.size); clear hx))
              all_goals (
                go_wp2_with fail
                go_roundw
                case rel => exact ⟨i + 1, by omega, by go_num, hS4.below hB1, o4.below hB1 o4.lt⟩
                case measure => simp [intOf]; omega)
            · obtain rfl : i = m := by omega
              have u0 := o4.cell 0 rfl; have u1 := o4.cell 1 rfl; have u2 := o4.cell 2 rfl
              have hbs := hS4.hb.size
              go_wp2_with (at_builtin; refine wpList_append_row1 encM_len (by decide) encM_one rfl (.tmp 66) (.tmp 68) 39 rfl 29 i0 (.agg #[.int .i64 0, .int .i64 0, .int .i64 0]) 24 Try.underlying39 hi hz0 hz1 hz2 rfl hS4.z rfl ⟨a2, b2, d2'⟩ rfl rfl (i + 1) rfl (by unfold maxLen; omega) (by omega) hbs ?_; intro q7 c7 w7 hO7 hb7 hg7 hn7; have hS7 := hS4.grown hO7 hb7 hg7 hn7)
              go_roundw
              case rel => exact ⟨k + 1, i + 1, c7, q7, _, c2, F3, by omega, by omega, by go_num, rfl, all_snoc (all_most hA.out hnm9.out) (by rw [hnl9.out]; exact .inr ⟨rfl, Int.le_refl _⟩), hS7⟩
              case measure => simp [intOf]; omega
        · have he1 : (er == 0) = false := beq_eq_false_iff_ne.2 he
          have he2 : (er != 0) = true := by rw [bne, he1]; rfl
          obtain rfl := hnn he
          clear hle hnl hnn
          go_wp2_with (go_at_call 14; (with_reducible refine (HT _ hS.k).mono ?_); rintro e w3 ⟨rfl, F3, k3, hk3, n3⟩; have hS3 := hS.clock k3 hk3 n3; have y3 := below_alloc w3 (.cells #[.int .i64 a2, .int .i64 b2, .int .i64 d2'] 29); have o4 := ObjAt.new w3 #[.int .i64 a2, .int .i64 b2, .int .i64 d2'] 29; have hS4 := hS3.below y3; clear hS3 y3; generalize hv4 : w3.alloc (.cells #[.int .i64 a2, .int .i64 b2, .int .i64 d2'] 29) = v4 at *)
          go_roundw
          case rel => exact ⟨k + 1, m, C, q, Me, _, F3, by omega, by omega, by go_num, rfl, hA, hS4⟩
          case measure => simp [intOf]; omega
      have q2' : (x.kind == 2) = false := beq_eq_false_iff_ne.2 q2
      by_cases q3 : x.kind = 3
      · have HT := fun v h => kHearC p F c' x.s v h hfx.s
        have hcs := hear_case c' x.s
        unfold KChanged at HT
        unfold valT at HT
        generalize hearK c' x.s = X at *
        obtain ⟨c2, er⟩ := X
        dsimp only at HT hcs
        rw [q3] at d0
        rcases hcs with ⟨rfl, hm1, hm2⟩ | ⟨he, rfl⟩
        · go_wp2_with (first
            | (go_at_call 16; (with_reducible refine (HT _ hS.k).mono ?_); rintro e w3 ⟨rfl, F3, k3, hk3, n3⟩; have hS3 := hS.clock k3 hk3 n3; obtain ⟨d0, d1, d2, d3, d4⟩ := HD0 _ hS3.hb)
            | (at_builtin; refine wpList_append_row1 encM_len (by decide) encM_one rfl (.tmp 80) (.tmp 86) 39 rfl 29 i0 (.agg #[.int .i64 0, .int .i64 0, .int .i64 0]) 24 Try.underlying39 hi hz0 hz1 hz2 rfl hS3.z rfl x.s rfl rfl (m + 1) rfl (by unfold maxLen; omega) (by omega) hS3.hb.size ?_; intro q7 c7 w7 hO7 hb7 hg7 hn7; have hS7 := hS3.grown hO7 hb7 hg7 hn7))
          go_roundw
          case rel => exact ⟨k + 1, m + 1, c7, q7, _, c2, F3, by omega, by omega, by go_num, rfl, all_snoc (all_most hA.out hm1) hm2, hS7⟩
          case measure => simp [intOf]; omega
        · have he1 : (er == 0) = false := beq_eq_false_iff_ne.2 he
          go_wp2_with (go_at_call 16; (with_reducible refine (HT _ hS.k).mono ?_); rintro e w3 ⟨rfl, F3, k3, hk3, n3⟩; have hS3 := hS.clock k3 hk3 n3)
          go_roundw
          case rel => exact ⟨k + 1, m, C, q, Me, _, F3, by omega, by omega, by go_num, rfl, hA, hS3⟩
          case measure => simp [intOf]; omega
      have q3' : (x.kind == 3) = false := beq_eq_false_iff_ne.2 q3
      by_cases q4 : x.kind = 4
      · have HT := fun v h => kRestoreC p F c' x.s v h hfx.s
        have hcs := restore_case c' x.s
        unfold KChanged at HT
        unfold valT at HT
        generalize restoreK c' x.s = X at *
        obtain ⟨c2, er⟩ := X
        dsimp only at HT hcs
        rw [q4] at d0
        rcases hcs with ⟨rfl, hm1, hm2⟩ | ⟨he, rfl⟩
        · go_wp2_with (first
            | (go_at_call 17; (with_reducible refine (HT _ hS.k).mono ?_); rintro e w3 ⟨rfl, F3, k3, hk3, n3⟩; have hS3 := hS.clock k3 hk3 n3; obtain ⟨d0, d1, d2, d3, d4⟩ := HD0 _ hS3.hb)
            | (at_builtin; refine wpList_append_row1 encM_len (by decide) encM_one rfl (.tmp 98) (.tmp 104) 39 rfl 29 i0 (.agg #[.int .i64 0, .int .i64 0, .int .i64 0]) 24 Try.underlying39 hi hz0 hz1 hz2 rfl hS3.z rfl x.s rfl rfl (m + 1) rfl (by unfold maxLen; omega) (by omega) hS3.hb.size ?_; intro q7 c7 w7 hO7 hb7 hg7 hn7; have hS7 := hS3.grown hO7 hb7 hg7 hn7))
          go_roundw
          case rel => exact ⟨k + 1, m + 1, c7, q7, _, c2, F3, by omega, by omega, by go_num, rfl, all_snoc (all_most hA.out hm1) hm2, hS7⟩
          case measure => simp [intOf]; omega
        · have he1 : (er == 0) = false := beq_eq_false_iff_ne.2 he
          go_wp2_with (go_at_call 17; (with_reducible refine (HT _ hS.k).mono ?_); rintro e w3 ⟨rfl, F3, k3, hk3, n3⟩; have hS3 := hS.clock k3 hk3 n3)
          go_roundw
          case rel => exact ⟨k + 1, m, C, q, Me, _, F3, by omega, by omega, by go_num, rfl, hA, hS3⟩
          case measure => simp [intOf]; omega
      have q4' : (x.kind == 4) = false := beq_eq_false_iff_ne.2 q4
      go_wp2_with fail
      go_roundw
      case rel => exact ⟨k + 1, m, C, q, Me, c', F, by omega, by omega, by go_num, rfl, hA, hS⟩
      case measure => simp [intOf]; omega
    · obtain rfl : k = n := by omega
      go_wp2_with (go_at_call 8; (with_reducible refine (awake19C _).mono ?_); rintro e w2 ⟨rfl, hx⟩)
      go_ret
      exact ⟨rfl, hS.hb.trans (hx.mono hS.hb.size)⟩
end Go.Proofs.Ytfdiomghoheljaa
