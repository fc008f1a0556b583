/- Layer 19's laws, walked: a clock that is played. -/
import Derived.Test.YtfdiomghoheljaaClockStep
import Derived.Test.YtfdiomghoheljaaRowPart
namespace Go.Proofs.Ytfdiomghoheljaa
open Go.RowKit
set_option linter.unusedVariables false

def encT (s : StepN) : List Value := [.int .i64 s.kind, .int .i64 s.n, .int .i64 s.s.wall, .int .i64 s.s.count, .int .i64 s.s.dev]
structure FitS (s : StepN) : Prop where
  n : -9223372036854775808 ≤ s.n ∧ s.n ≤ 9223372036854775807
  s : FitT s.s
theorem step_at {w : World} {a : Option Addr} {n c : Nat} {L : List StepN} (h : RowOf encT 5 w a n c L) (k : Nat) (hk : k < n) :
    ∃ x g off, L[k]? = some x ∧ a = some ⟨g, off, none⟩ ∧ w.cell? ⟨g, off + k * 5, none⟩ = some (.int .i64 x.kind) ∧ w.cell? ⟨g, off + k * 5 + 1, none⟩ = some (.int .i64 x.n) ∧ w.cell? ⟨g, off + k * 5 + 2, none⟩ = some (.int .i64 x.s.wall) ∧ w.cell? ⟨g, off + k * 5 + 3, none⟩ = some (.int .i64 x.s.count) ∧ w.cell? ⟨g, off + k * 5 + 4, none⟩ = some (.int .i64 x.s.dev) := by
  obtain ⟨x, g, off, hx, e, hc⟩ := h.at k hk
  exact ⟨x, g, off, hx, e, hc 0 _ rfl, hc 1 _ rfl, hc 2 _ rfl, hc 3 _ rfl, hc 4 _ rfl⟩

/-- A clock of the program's, and one of the document's. -/
structure StKl (w : World) (p : Nat) (F : Nat → Prop) (B : Nat) (c : ClockN) (v : World) : Prop where
  k : ClkAt v p F c
  o : ObjAt v B [.int .i64 c.now, .int .i64 c.last.wall, .int .i64 c.last.count, .int .i64 c.last.dev]
  new : ∀ i, F i → w.heap.size ≤ i ∧ i ≠ B
  nB : w.heap.size ≤ B
  hb : Below w.heap.size w v
theorem StKl.below {w v v' : World} {p : Nat} {F : Nat → Prop} {B : Nat} {c : ClockN} (h : StKl w p F B c v) (hx : Below v.heap.size v v') : StKl w p F B c v' :=
  ⟨h.k.below hx, h.o.below hx h.o.lt, h.new, h.nB, h.hb.trans (hx.mono h.hb.size)⟩

set_option maxHeartbeats 4000000 in
set_option maxRecDepth 100000 in
theorem clockPlays_walk (dev : Int) (a : Option Addr) (n c : Nat) (L : List StepN) (w : World) (hd : (Lit.int .i64 dev).wf = true) (hL : RowOf encT 5 w a n c L) (hF : ∀ x ∈ L, FitS x) :
    Calls Try.prog 3 #[.int .i64 dev, .slice a n c] w fun e w' => e = .returned (.bool true) ∧ Below w.heap.size w w' := by
  have hcm := hL.capm
  have hcl := hL.cle
  have hleq := hL.leq
  unfold maxLen at hcm
  have HL := Lib.hid hL
  have Hn := Lib.hid hleq
  clear hL hleq
  by_cases h100 : 100 < n
  · have h100' : (100 : Int) < (n : Int) := by omega
    go_enter Try.func3, Try.ntmps3
    go_wp2_with (go_at_call 8; (with_reducible refine (awake19C _).mono ?_); rintro e w2 ⟨rfl, hx⟩)
    go_ret
    exact ⟨rfl, hx⟩
  have h100' : ¬ (100 : Int) < (n : Int) := by omega
  by_cases hdev : 0 ≤ dev ∧ dev ≤ 63
  · have HN := fun v => kNewYes dev v hdev
    obtain ⟨d0, d1⟩ := hdev
    have e0 : decide (dev < 0) = false := decide_eq_false (by omega)
    have e0' : ¬ dev < 0 := by omega
    have e1 : decide (63 < dev) = false := decide_eq_false (by omega)
    have e1' : ¬ 63 < dev := by omega
    go_enter Try.func3, Try.ntmps3
    go_wp2_with (go_at_call 9; (with_reducible refine (HN _).mono ?_); rintro e w1 ⟨p, F, rfl, k1, n1, hx1⟩; have y1 := below_alloc w1 (.cells #[.int .i64 0, .int .i64 0, .int .i64 0, .int .i64 dev] 31); have hS1 : StKl w p F w1.heap.size ⟨0, ⟨0, 0, dev⟩⟩ (w1.alloc (.cells #[.int .i64 0, .int .i64 0, .int .i64 0, .int .i64 dev] 31)) := ⟨k1.below y1, ObjAt.new w1 #[.int .i64 0, .int .i64 0, .int .i64 0, .int .i64 dev] 31, fun i h => ⟨n1 i h, fun e => by have := k1.lt i h; omega⟩, hx1.size, hx1.trans (y1.mono hx1.size)⟩; generalize hv1 : w1.alloc (.cells #[.int .i64 0, .int .i64 0, .int .i64 0, .int .i64 dev] 31) = v1 at *)
    clear k1 n1 hx1 y1 hv1
    generalize w1.heap.size = B at *
    go_loopw [8] (fun i wr => ∃ (k : Nat) (c' : ClockN) (F : Nat → Prop), k ≤ n ∧ i = .int .i64 (k : Int) ∧ StKl w p F B c' wr) (fun i _ => n - (intOf i).toNat)
    case atStart => exact ⟨0, _, F, Nat.zero_le _, rfl, hS1⟩
    case round =>
      clear hS1 HN
      obtain ⟨k, c', F, hk, rfl, hS⟩ := hrel
      by_cases hlt : k < n
      · have hlt' : (k : Int) < (n : Int) := by omega
        have g1' : decide ((k : Int) < (n : Int)) = true := decide_eq_true hlt'
        have i1 : (0 : Int) ≤ (k : Int) := by omega
        obtain ⟨x, g, off, hx, rfl, d0, d1, d2, d3, d4⟩ := step_at (HL.out.below hS.hb) k hlt
        have hfx := hF x (List.mem_of_getElem? hx)
        have HS := fun v h => stepC p F c' x v h hfx.n hfx.s
        unfold StepIs valK at HS
        have hok2 := step_okK hS.k.ok x
        generalize stepK c' x = c2 at *
        obtain ⟨nw, wl, ct, dv⟩ := c'
        obtain ⟨nK, wK, cK, dK⟩ := c2
        dsimp only at HS
        have hdA := (Below.refl wr.heap.size wr).drew
        have hSA := hS.below hdA
        have hdB := (below_alloc wr (.cells #[.int .i64 0, .int .i64 0, .int .i64 0, .int .i64 0] 31)).drew
        have hSB := hS.below hdB
        have oB := (ObjAt.new wr #[.int .i64 0, .int .i64 0, .int .i64 0, .int .i64 0] 31).drew
        have d0A := (hdA.cell (cell_lt d0)).trans d0; have d1A := (hdA.cell (cell_lt d1)).trans d1; have d2A := (hdA.cell (cell_lt d2)).trans d2; have d3A := (hdA.cell (cell_lt d3)).trans d3; have d4A := (hdA.cell (cell_lt d4)).trans d4
        have d0B := (hdB.cell (cell_lt d0)).trans d0; have d1B := (hdB.cell (cell_lt d1)).trans d1; have d2B := (hdB.cell (cell_lt d2)).trans d2; have d3B := (hdB.cell (cell_lt d3)).trans d3; have d4B := (hdB.cell (cell_lt d4)).trans d4
        have u0A := hSA.o.cell 0 rfl; have u1A := hSA.o.cell 1 rfl; have u2A := hSA.o.cell 2 rfl; have u3A := hSA.o.cell 3 rfl
        have u0B := hSB.o.cell 0 rfl; have u1B := hSB.o.cell 1 rfl; have u2B := hSB.o.cell 2 rfl; have u3B := hSB.o.cell 3 rfl
        have hlt2 := hS.k.lt
        go_wp2_with fail
        go_region_law (first
          | ((try go_simp); go_at_call 10; (with_reducible refine (HS _ hSA.k).mono ?_); rintro e w3 ⟨rfl, F3, k3, hk3, n3⟩)
          | ((try go_simp); go_at_call 10; (with_reducible refine (HS _ hSB.k).mono ?_); rintro e w3 ⟨rfl, F3, k3, hk3, n3⟩; have oB3 := oB.keeps hk3 (fun h => by have := hlt2 _ h; omega); have r0 := oB3.cell 0 rfl; have r1 := oB3.cell 1 rfl; have r2 := oB3.cell 2 rfl; have r3 := oB3.cell 3 rfl; have g0 := oB3.free 0; have g1 := oB3.free 1; have g2 := oB3.free 2; have g3 := oB3.free 3))
        all_goals (
          first
            | (have ox := ((((oB3.set 0 (.int .i64 nK)).set 1 (.int .i64 wK)).set 2 (.int .i64 cK)).set 3 (.int .i64 dK))
               have hKs : Keeps (fun k => k = wr.heap.size) w3 ((((w3.setCell ⟨wr.heap.size, 0, none⟩ (.int .i64 nK)).setCell ⟨wr.heap.size, 1, none⟩ (.int .i64 wK)).setCell ⟨wr.heap.size, 2, none⟩ (.int .i64 cK)).setCell ⟨wr.heap.size, 3, none⟩ (.int .i64 dK)) := (((((Keeps.refl (fun k => k = wr.heap.size) w3).setCell (x := ⟨wr.heap.size, 0, none⟩) rfl (.int .i64 nK)).setCell (x := ⟨wr.heap.size, 1, none⟩) rfl (.int .i64 wK)).setCell (x := ⟨wr.heap.size, 2, none⟩) rfl (.int .i64 cK)).setCell (x := ⟨wr.heap.size, 3, none⟩) rfl (.int .i64 dK))
               have hzb := hdB.size
               have hzs : (wr.alloc (.cells #[.int .i64 0, .int .i64 0, .int .i64 0, .int .i64 0] 31)).drew.heap.size = wr.heap.size + 1 := by simp
               have hBl := hS.o.lt
               have k5 := k3.keeps hKs (fun i h e => (n3 i h).elim (fun h1 => by have := hlt2 i h1; omega) (fun h1 => by omega))
               have o5 := (hSB.o.keeps hk3 (fun h => (hS.new _ h).2 rfl)).keeps hKs (fun (e : B = wr.heap.size) => by omega)
               have hb5 := (hSB.hb.trans (hk3.below hSB.hb.size (fun i _ h => (hS.new i h).1))).trans (hKs.below (B := w.heap.size) (by have := hk3.size; have := hSB.hb.size; omega) (fun i _ e => by have := hS.hb.size; omega))
               have new5 : ∀ i, F3 i → w.heap.size ≤ i ∧ i ≠ B := fun i h => (n3 i h).elim (fun h1 => hS.new i h1) (fun h1 => ⟨by have := hS.hb.size; omega, by omega⟩)
               generalize hv5 : ((((w3.setCell ⟨wr.heap.size, 0, none⟩ (.int .i64 nK)).setCell ⟨wr.heap.size, 1, none⟩ (.int .i64 wK)).setCell ⟨wr.heap.size, 2, none⟩ (.int .i64 cK)).setCell ⟨wr.heap.size, 3, none⟩ (.int .i64 dK)) = v5 at *)
            | (have ox := ObjAt.new w3 #[.int .i64 nK, .int .i64 wK, .int .i64 cK, .int .i64 dK] 31
               have y5 := below_alloc w3 (.cells #[.int .i64 nK, .int .i64 wK, .int .i64 cK, .int .i64 dK] 31)
               have hzs : wr.drew.heap.size = wr.heap.size := by simp
               have hBl := hS.o.lt
               have k5 := k3.below y5
               have o53 := hSA.o.keeps hk3 (fun h => (hS.new _ h).2 rfl)
               have o5 := o53.below y5 o53.lt
               have hb53 := hSA.hb.trans (hk3.below hSA.hb.size (fun i _ h => (hS.new i h).1))
               have hb5 := hb53.trans (y5.mono hb53.size)
               have new5 : ∀ i, F3 i → w.heap.size ≤ i ∧ i ≠ B := fun i h => (n3 i h).elim (fun h1 => hS.new i h1) (fun h1 => ⟨by have := hS.hb.size; omega, by omega⟩)
               generalize hv5 : w3.alloc (.cells #[.int .i64 nK, .int .i64 wK, .int .i64 cK, .int .i64 dK] 31) = v5 at *)
          clear d0 d1 d2 d3 d4 d0A d1A d2A d3A d4A d0B d1B d2B d3B d4B u0A u1A u2A u3A u0B u1B u2B u3B hdA hdB hSA hSB oB HS hv5
          have x0 := ox.cell 0 rfl; have x1 := ox.cell 1 rfl; have x2 := ox.cell 2 rfl; have x3 := ox.cell 3 rfl
          have u0 := o5.cell 0 rfl; have u1 := o5.cell 1 rfl; have u2 := o5.cell 2 rfl; have u3 := o5.cell 3 rfl
          have f0 := o5.free 0; have f1 := o5.free 1; have f2 := o5.free 2; have f3 := o5.free 3
          have o6 := ((((o5.set 0 (.int .i64 nK)).set 1 (.int .i64 wK)).set 2 (.int .i64 cK)).set 3 (.int .i64 dK))
          have hK6 : Keeps (fun k => k = B) v5 ((((v5.setCell ⟨B, 0, none⟩ (.int .i64 nK)).setCell ⟨B, 1, none⟩ (.int .i64 wK)).setCell ⟨B, 2, none⟩ (.int .i64 cK)).setCell ⟨B, 3, none⟩ (.int .i64 dK)) := (((((Keeps.refl (fun k => k = B) v5).setCell (x := ⟨B, 0, none⟩) rfl (.int .i64 nK)).setCell (x := ⟨B, 1, none⟩) rfl (.int .i64 wK)).setCell (x := ⟨B, 2, none⟩) rfl (.int .i64 cK)).setCell (x := ⟨B, 3, none⟩) rfl (.int .i64 dK))
          have k6 := k5.keeps hK6 (fun i h e => (new5 i h).2 e)
          have hb6 := hb5.trans (hK6.below (B := w.heap.size) hb5.size (fun i _ e => by have := hS.nB; omega))
          have hS6 : StKl w p F3 B ⟨nK, wK, cK, dK⟩ ((((v5.setCell ⟨B, 0, none⟩ (.int .i64 nK)).setCell ⟨B, 1, none⟩ (.int .i64 wK)).setCell ⟨B, 2, none⟩ (.int .i64 cK)).setCell ⟨B, 3, none⟩ (.int .i64 dK)) := ⟨k6, o6, new5, hS.nB, hb6⟩
          clear hS
          go_wp2_with fail
          generalize hv6 : ((((v5.setCell ⟨B, 0, none⟩ (.int .i64 nK)).setCell ⟨B, 1, none⟩ (.int .i64 wK)).setCell ⟨B, 2, none⟩ (.int .i64 cK)).setCell ⟨B, 3, none⟩ (.int .i64 dK)) = v6 at *
          clear x0 x1 x2 x3 u0 u1 u2 u3 f0 f1 f2 f3 o5 o6 hK6 k6 k5 hb6 hb5 ox
          have hSd := hS6.below ((Below.refl v6.heap.size v6).drew)
          have hBW := hSd.hb
          have HW := fun v h => kWallC p F3 ⟨nK, wK, cK, dK⟩ v h
          have HLa := fun v h => kLastC p F3 ⟨nK, wK, cK, dK⟩ v h
          have hE := eqStamp wK cK dK
          unfold valT at HLa
          dsimp only at HW HLa
          have o6 := hSd.o
          go_region_held3 (fun w' => w'.cell? ⟨B, 0, none⟩ = some (.int .i64 nK) ∧ w'.cell? ⟨B, 1, none⟩ = some (.int .i64 wK) ∧ w'.cell? ⟨B, 2, none⟩ = some (.int .i64 cK) ∧ w'.cell? ⟨B, 3, none⟩ = some (.int .i64 dK))
            (first | exact ⟨hSd.o.cell 0 rfl, hSd.o.cell 1 rfl, hSd.o.cell 2 rfl, hSd.o.cell 3 rfl⟩)
            (first
              | (go_at_call 11; (with_reducible refine (HW _ hSd.k).mono ?_); rintro e w7 ⟨rfl, hx⟩; have hSd := hSd.below hx; clear hx)
              | (go_at_call 12; (with_reducible refine (HLa _ hSd.k).mono ?_); rintro e w8 ⟨rfl, hx⟩; have hSd := hSd.below hx; clear hx))
          all_goals (
            go_wp2_with fail
            go_roundw
            case rel => exact ⟨k + 1, ⟨nK, wK, cK, dK⟩, F3, by omega, by go_num, hSd⟩
            case measure => simp [intOf]; omega))
      · obtain rfl : k = n := by omega
        go_wp2_with (go_at_call 8; (with_reducible refine (awake19C _).mono ?_); rintro e w2 ⟨rfl, hx⟩)
        go_ret
        exact ⟨rfl, hS.hb.trans (hx.mono hS.hb.size)⟩
  · have HN := fun v => kNewNo dev v hdev
    by_cases e0 : dev < 0
    · have e0' : decide (dev < 0) = true := decide_eq_true e0
      go_enter Try.func3, Try.ntmps3
      go_wp2_with (first
        | (go_at_call 9; (with_reducible refine (HN _).mono ?_); rintro e w1 ⟨rfl, hx1⟩)
        | (go_at_call 8; (with_reducible refine (awake19C _).mono ?_); rintro e w2 ⟨rfl, hx⟩))
      go_ret
      exact ⟨rfl, hx1.trans (hx.mono hx1.size)⟩
    · have e0' : decide (dev < 0) = false := decide_eq_false e0
      have e1 : 63 < dev := by omega
      have e1' : decide (63 < dev) = true := decide_eq_true e1
      go_enter Try.func3, Try.ntmps3
      go_wp2_with (first
        | (go_at_call 9; (with_reducible refine (HN _).mono ?_); rintro e w1 ⟨rfl, hx1⟩)
        | (go_at_call 8; (with_reducible refine (awake19C _).mono ?_); rintro e w2 ⟨rfl, hx⟩))
      go_ret
      exact ⟨rfl, hx1.trans (hx.mono hx1.size)⟩
end Go.Proofs.Ytfdiomghoheljaa
