/- Layer 19's laws, walked: no last stamp is far ahead of the wall. -/
import Derived.Test.YtfdiomghoheljaaClockLaw2
namespace Go.Proofs.Ytfdiomghoheljaa
open Go.RowKit
set_option linter.unusedVariables false

theorem fieldWall (a b d : Int) (w : World) : (Instr.field 29 (.agg #[.int .i64 a, .int .i64 b, .int .i64 d]) 0).run Try.prog w = .ok (.int .i64 a) w := by
  have h := Try.underlying29
  simp [Instr.field, go_sem, run_underlying h]
  rfl

set_option maxHeartbeats 4000000 in
set_option maxRecDepth 100000 in
theorem clockNear_walk (t : Int) (a : Option Addr) (n c : Nat) (L : List StepN) (w : World) (ht : (Lit.int .u8 t).wf = true) (hL : RowOf encT 5 w a n c L) (hF : ∀ x ∈ L, FitS x) :
    Calls Try.prog 5 #[.int .u8 t, .slice a n c] w fun e w' => e = .returned (.bool true) ∧ Below w.heap.size w w' := by
  have hcm := hL.capm
  have hcl := hL.cle
  have hleq := hL.leq
  unfold maxLen at hcm
  have HL := Lib.hid hL
  have Hn := Lib.hid hleq
  clear hL hleq
  by_cases h100 : 100 < n
  · have h100' : (100 : Int) < (n : Int) := by omega
    go_enter Try.func5, Try.ntmps5
    go_wp2_with (go_at_call 8; (with_reducible refine (awake19C _).mono ?_); rintro e w2 ⟨rfl, hx⟩)
    go_ret
    exact ⟨rfl, hx⟩
  have h100' : ¬ (100 : Int) < (n : Int) := by omega
  obtain ⟨M, rfl, hM⟩ : ∃ M : Nat, t = (M : Int) ∧ M ≤ 255 := by
    have h1 := wfU8 ht
    exact ⟨t.toNat, by omega, by omega⟩
  obtain ⟨N, hN⟩ : ∃ N, M % 64 = N := ⟨_, rfl⟩
  have hNk : N < 64 := by rw [← hN]; exact Nat.mod_lt _ (by decide)
  have hN1 : (M : Int).tmod 64 = (N : Int) := by rw [← hN]; exact (Int.ofNat_tmod M 64).symm
  have hN2 : (M : Int) % 64 = (N : Int) := by rw [← hN]; rfl
  have HN := fun v => kNewYes (N : Int) v ⟨by omega, by omega⟩
  clear hN
  go_enter Try.func5, Try.ntmps5
  go_wp2_with (go_at_call 9; (with_reducible refine (HN _).mono ?_); rintro e w1 ⟨p, F, rfl, k1, n1, hx1⟩; have y1 := below_alloc w1 (.cells #[.int .i64 0, .int .i64 0, .int .i64 0, .int .i64 (N : Int)] 31); have hS1 : StKl w p F w1.heap.size ⟨0, ⟨0, 0, (N : Int)⟩⟩ (w1.alloc (.cells #[.int .i64 0, .int .i64 0, .int .i64 0, .int .i64 (N : Int)] 31)) := ⟨k1.below y1, ObjAt.new w1 #[.int .i64 0, .int .i64 0, .int .i64 0, .int .i64 (N : Int)] 31, fun i h => ⟨n1 i h, fun e => by have := k1.lt i h; omega⟩, hx1.size, hx1.trans (y1.mono hx1.size)⟩; generalize hv1 : w1.alloc (.cells #[.int .i64 0, .int .i64 0, .int .i64 0, .int .i64 (N : Int)] 31) = v1 at *)
  clear k1 n1 hx1 y1 hv1
  generalize w1.heap.size = B at *
  have hnr0 := near_new (N : Int)
  go_loopw [8] (fun i wr => ∃ (k : Nat) (c' : ClockN) (F : Nat → Prop), k ≤ n ∧ i = .int .i64 (k : Int) ∧ NearK c' ∧ StKl w p F B c' wr) (fun i _ => n - (intOf i).toNat)
  case atStart => exact ⟨0, _, F, Nat.zero_le _, rfl, hnr0, hS1⟩
  case round =>
    clear hS1 HN hnr0
    obtain ⟨k, c', F, hk, rfl, hnr, hS⟩ := hrel
    by_cases hlt : k < n
    · have hlt' : (k : Int) < (n : Int) := by omega
      have g1' : decide ((k : Int) < (n : Int)) = true := decide_eq_true hlt'
      have i1 : (0 : Int) ≤ (k : Int) := by omega
      obtain ⟨x, g, off, hx, rfl, d0, d1, d2, d3, d4⟩ := step_at (HL.out.below hS.hb) k hlt
      have hfx := hF x (List.mem_of_getElem? hx)
      by_cases q4 : x.kind = 4
      · rw [q4] at d0
        go_wp2_with fail
        go_roundw
        case rel => exact ⟨k + 1, c', F, by omega, by go_num, hnr, hS⟩
        case measure => simp [intOf]; omega
      · have q4' : (x.kind == 4) = false := beq_eq_false_iff_ne.2 q4
        have HS := fun v h => stepC p F c' x v h hfx.n hfx.s
        unfold StepIs valK at HS
        have hnr2 := near_step hS.k.ok hnr x q4
        generalize stepK c' x = c2 at *
        obtain ⟨nw, wl, ct, dv⟩ := c'
        obtain ⟨nK, wK, cK, dK⟩ := c2
        dsimp only at HS
        have hdA := (Below.refl wr.heap.size wr).drew
        have hSA := hS.below hdA
        have hdB := (below_alloc wr (.cells #[.int .i64 0, .int .i64 0, .int .i64 0, .int .i64 0] 31)).drew
        have hSB := hS.below hdB
        have oB := (ObjAt.new wr #[.int .i64 0, .int .i64 0, .int .i64 0, .int .i64 0] 31).drew
        have d0A := (hdA.cell (cell_lt d0)).trans d0; have d1A := (hdA.cell (cell_lt d1)).trans d1; have d2A := (hdA.cell (cell_lt d2)).trans d2; have d3A := (hdA.cell (cell_lt d3)).trans d3; have d4A := (hdA.cell (cell_lt d4)).trans d4
        have d0B := (hdB.cell (cell_lt d0)).trans d0; have d1B := (hdB.cell (cell_lt d1)).trans d1; have d2B := (hdB.cell (cell_lt d2)).trans d2; have d3B := (hdB.cell (cell_lt d3)).trans d3; have d4B := (hdB.cell (cell_lt d4)).trans d4
        have u0A := hSA.o.cell 0 rfl; have u1A := hSA.o.cell 1 rfl; have u2A := hSA.o.cell 2 rfl; have u3A := hSA.o.cell 3 rfl
        have u0B := hSB.o.cell 0 rfl; have u1B := hSB.o.cell 1 rfl; have u2B := hSB.o.cell 2 rfl; have u3B := hSB.o.cell 3 rfl
        have hlt2 := hS.k.lt
        go_wp2_with fail
        go_region_law (first
          | ((try go_simp); go_at_call 10; (with_reducible refine (HS _ hSA.k).mono ?_); rintro e w3 ⟨rfl, F3, k3, hk3, n3⟩)
          | ((try go_simp); go_at_call 10; (with_reducible refine (HS _ hSB.k).mono ?_); rintro e w3 ⟨rfl, F3, k3, hk3, n3⟩; have oB3 := oB.keeps hk3 (fun h => by have := hlt2 _ h; omega); have r0 := oB3.cell 0 rfl; have r1 := oB3.cell 1 rfl; have r2 := oB3.cell 2 rfl; have r3 := oB3.cell 3 rfl; have g0 := oB3.free 0; have g1 := oB3.free 1; have g2 := oB3.free 2; have g3 := oB3.free 3))
        all_goals (
          first
            | (have ox := ((((oB3.set 0 (.int .i64 nK)).set 1 (.int .i64 wK)).set 2 (.int .i64 cK)).set 3 (.int .i64 dK))
               have hKs : Keeps (fun k => k = wr.heap.size) w3 ((((w3.setCell ⟨wr.heap.size, 0, none⟩ (.int .i64 nK)).setCell ⟨wr.heap.size, 1, none⟩ (.int .i64 wK)).setCell ⟨wr.heap.size, 2, none⟩ (.int .i64 cK)).setCell ⟨wr.heap.size, 3, none⟩ (.int .i64 dK)) := (((((Keeps.refl (fun k => k = wr.heap.size) w3).setCell (x := ⟨wr.heap.size, 0, none⟩) rfl (.int .i64 nK)).setCell (x := ⟨wr.heap.size, 1, none⟩) rfl (.int .i64 wK)).setCell (x := ⟨wr.heap.size, 2, none⟩) rfl (.int .i64 cK)).setCell (x := ⟨wr.heap.size, 3, none⟩) rfl (.int .i64 dK))
               have hzb := hdB.size
               have hzs : (wr.alloc (.cells #[.int .i64 0, .int .i64 0, .int .i64 0, .int .i64 0] 31)).drew.heap.size = wr.heap.size + 1 := by simp
               have hBl := hS.o.lt
               have k5 := k3.keeps hKs (fun i h e => (n3 i h).elim (fun h1 => by have := hlt2 i h1; omega) (fun h1 => by omega))
               have o5 := (hSB.o.keeps hk3 (fun h => (hS.new _ h).2 rfl)).keeps hKs (fun (e : B = wr.heap.size) => by omega)
               have hb5 := (hSB.hb.trans (hk3.below hSB.hb.size (fun i _ h => (hS.new i h).1))).trans (hKs.below (B := w.heap.size) (by have := hk3.size; have := hSB.hb.size; omega) (fun i _ e => by have := hS.hb.size; omega))
               have new5 : ∀ i, F3 i → w.heap.size ≤ i ∧ i ≠ B := fun i h => (n3 i h).elim (fun h1 => hS.new i h1) (fun h1 => ⟨by have := hS.hb.size; omega, by omega⟩)
               generalize hv5 : ((((w3.setCell ⟨wr.heap.size, 0, none⟩ (.int .i64 nK)).setCell ⟨wr.heap.size, 1, none⟩ (.int .i64 wK)).setCell ⟨wr.heap.size, 2, none⟩ (.int .i64 cK)).setCell ⟨wr.heap.size, 3, none⟩ (.int .i64 dK)) = v5 at *)
            | (have ox := ObjAt.new w3 #[.int .i64 nK, .int .i64 wK, .int .i64 cK, .int .i64 dK] 31
               have y5 := below_alloc w3 (.cells #[.int .i64 nK, .int .i64 wK, .int .i64 cK, .int .i64 dK] 31)
               have hzs : wr.drew.heap.size = wr.heap.size := by simp
               have hBl := hS.o.lt
               have k5 := k3.below y5
               have o53 := hSA.o.keeps hk3 (fun h => (hS.new _ h).2 rfl)
               have o5 := o53.below y5 o53.lt
               have hb53 := hSA.hb.trans (hk3.below hSA.hb.size (fun i _ h => (hS.new i h).1))
               have hb5 := hb53.trans (y5.mono hb53.size)
               have new5 : ∀ i, F3 i → w.heap.size ≤ i ∧ i ≠ B := fun i h => (n3 i h).elim (fun h1 => hS.new i h1) (fun h1 => ⟨by have := hS.hb.size; omega, by omega⟩)
               generalize hv5 : w3.alloc (.cells #[.int .i64 nK, .int .i64 wK, .int .i64 cK, .int .i64 dK] 31) = v5 at *)
          clear d0 d1 d2 d3 d4 d0A d1A d2A d3A d4A d0B d1B d2B d3B d4B u0A u1A u2A u3A u0B u1B u2B u3B hdA hdB hSA hSB oB HS hv5
          have x0 := ox.cell 0 rfl; have x1 := ox.cell 1 rfl; have x2 := ox.cell 2 rfl; have x3 := ox.cell 3 rfl
          have u0 := o5.cell 0 rfl; have u1 := o5.cell 1 rfl; have u2 := o5.cell 2 rfl; have u3 := o5.cell 3 rfl
          have f0 := o5.free 0; have f1 := o5.free 1; have f2 := o5.free 2; have f3 := o5.free 3
          have o6 := ((((o5.set 0 (.int .i64 nK)).set 1 (.int .i64 wK)).set 2 (.int .i64 cK)).set 3 (.int .i64 dK))
          have hK6 : Keeps (fun k => k = B) v5 ((((v5.setCell ⟨B, 0, none⟩ (.int .i64 nK)).setCell ⟨B, 1, none⟩ (.int .i64 wK)).setCell ⟨B, 2, none⟩ (.int .i64 cK)).setCell ⟨B, 3, none⟩ (.int .i64 dK)) := (((((Keeps.refl (fun k => k = B) v5).setCell (x := ⟨B, 0, none⟩) rfl (.int .i64 nK)).setCell (x := ⟨B, 1, none⟩) rfl (.int .i64 wK)).setCell (x := ⟨B, 2, none⟩) rfl (.int .i64 cK)).setCell (x := ⟨B, 3, none⟩) rfl (.int .i64 dK))
          have k6 := k5.keeps hK6 (fun i h e => (new5 i h).2 e)
          have hb6 := hb5.trans (hK6.below (B := w.heap.size) hb5.size (fun i _ e => by have := hS.nB; omega))
          have hS6 : StKl w p F3 B ⟨nK, wK, cK, dK⟩ ((((v5.setCell ⟨B, 0, none⟩ (.int .i64 nK)).setCell ⟨B, 1, none⟩ (.int .i64 wK)).setCell ⟨B, 2, none⟩ (.int .i64 cK)).setCell ⟨B, 3, none⟩ (.int .i64 dK)) := ⟨k6, o6, new5, hS.nB, hb6⟩
          clear hS
          have HW := fun v h => kWallC p F3 ⟨nK, wK, cK, dK⟩ v h
          have HLa := fun v h => kLastC p F3 ⟨nK, wK, cK, dK⟩ v h
          have hf := fieldWall wK cK dK
          have hr6 := rightT_iff.1 hS6.k.ok.right
          have hn0 := hS6.k.ok.now0
          have hn1 := hS6.k.ok.now1
          have hnr3 := hnr2
          unfold NearK at hnr3
          unfold valT at HLa
          dsimp only at HW HLa hr6 hn0 hn1 hnr3
          go_wp2_with (go_at_call 12; (with_reducible refine (HLa _ hS6.k).mono ?_); rintro e w8 ⟨rfl, hx⟩; have hS7 := hS6.below hx; clear hx)
          go_wp2_with (go_at_call 11; (with_reducible refine (HW _ hS7.k).mono ?_); rintro e w7 ⟨rfl, hx⟩; have hS9 := hS7.below hx; clear hx)
          go_roundw
          case rel => exact ⟨k + 1, ⟨nK, wK, cK, dK⟩, F3, by omega, by go_num, hnr2, hS9⟩
          case measure => simp [intOf]; omega)
    · obtain rfl : k = n := by omega
      go_wp2_with (go_at_call 8; (with_reducible refine (awake19C _).mono ?_); rintro e w2 ⟨rfl, hx⟩)
      go_ret
      exact ⟨rfl, hS.hb.trans (hx.mono hS.hb.size)⟩
end Go.Proofs.Ytfdiomghoheljaa
