/- Layer 17's laws, walked: numbers raised, and dots taken, in turn. -/
import Derived.Test.YtcganblfeddjdaaLibAH
namespace Go.Proofs.Ytcganblfeddjdaa
open Go.RowKit
set_option linter.unusedVariables false

set_option maxHeartbeats 8000000 in
set_option maxRecDepth 100000 in
theorem vectorPlays_walk (a1 : Option Addr) (n1 c1 : Nat) (L : List DotN) (ta : Option Addr) (nt ct : Nat) (T : List Bool) (x : DotN) (w : World) (hL : RowOf encD 3 w a1 n1 c1 L) (hF : ∀ y ∈ L, FitD y) (hT : Reads w ta (T.map Value.bool)) (hTl : T.length = nt) (hTm : nt ≤ maxLen) (hx : FitD x) :
    Calls Try.prog 3 #[.slice a1 n1 c1, .slice ta nt ct, .agg #[.int .i64 x.dev, .int .i64 x.inc, .int .i64 x.seq]] w fun e w' => e = .returned (.bool true) ∧ Below w.heap.size w w' := by
  have hcm := hL.capm
  have hcl := hL.cle
  have hleq := hL.leq
  unfold maxLen at hcm hTm
  have o1 := ObjAt.new w #[.int .i64 x.dev, .int .i64 x.inc, .int .i64 x.seq] 27
  have b1 := below_alloc w (.cells #[.int .i64 x.dev, .int .i64 x.inc, .int .i64 x.seq] 27)
  have hlt1 := o1.lt
  generalize hw1 : w.alloc (.cells #[.int .i64 x.dev, .int .i64 x.inc, .int .i64 x.seq] 27) = w1 at *
  by_cases h1 : 60 < n1
  · have h1' : (60 : Int) < (n1 : Int) := by omega
    go_enter Try.func3, Try.ntmps3
    go_wp2_with (go_at_call 8; (with_reducible refine (awake17C _).mono ?_); rintro e w2 ⟨rfl, hx⟩)
    go_ret
    exact ⟨rfl, b1.trans (hx.mono b1.size)⟩
  have h1' : ¬ (60 : Int) < (n1 : Int) := by omega
  have HL := Lib.hid (hL.below b1)
  have HT := Lib.hid (hT.below' b1)
  have HTl := Lib.hid hTl
  have Hn := Lib.hid hleq
  have HN := fun v => vNewC v
  unfold MadeV at HN
  clear hL hleq hT hTl
  go_enter Try.func3, Try.ntmps3
  go_wp2_with (go_at_call 9; (with_reducible refine (HN _).mono ?_); rintro e w2 ⟨p, F, rfl, hv2, hF2, hx2⟩; have hz2 := OwnZ.lit encD 3 33 w2; have b2 := below_alloc w2 (.cells #[] 33); have hs2 : w2.heap.size < (w2.alloc (.cells #[] 33)).heap.size := (by simp); have hS2 : StP w1 p F (some ⟨w2.heap.size, 0, none⟩) 0 0 [] [] (w2.alloc (.cells #[] 33)) := ⟨hv2.below b2, hz2.row encD_len, fun k h1 h2 => by have e : w2.heap.size = k := at_some.1 h1; have := hv2.lt k h2; omega, fun k h1 => by have e : w2.heap.size = k := at_some.1 h1; omega, hF2, hx2.trans (b2.mono hx2.size)⟩)
  clear hv2 hF2 hx2 hz2 b2 hs2 HN
  go_loopw [8, 9] (fun l i wr => ∃ (k n' c' : Nat) (a' : Option Addr) (R : List DotN) (F : Nat → Prop), k ≤ n1 ∧ n' ≤ k ∧ i = .int .i64 (k : Int) ∧ l = .slice a' n' c' ∧ StP w1 p F a' n' c' R R wr) (fun _ i _ => n1 - (intOf i).toNat)
  case atStart => exact ⟨0, 0, 0, _, [], F, Nat.zero_le _, Nat.le_refl _, rfl, rfl, hS2⟩
  case round =>
    clear hS2
    obtain ⟨k, n', c', a', R, F, hk, hn', rfl, rfl, hS⟩ := hrel
    have hRl := hS.row.leq
    by_cases hlt : k < n1
    · have hlt' : (k : Int) < (n1 : Int) := by omega
      have g1' : decide ((k : Int) < (n1 : Int)) = true := decide_eq_true hlt'
      have i1 : (0 : Int) ≤ (k : Int) := by omega
      obtain ⟨y, g, off, hy, rfl, d0, d1, d2⟩ := dot_at (HL.out.below hS.hb) k hlt
      have hfy : FitD y := hF y (List.mem_of_getElem? hy)
      have hS0 : ∀ w', Below w1.heap.size w1 w' → w'.cell? ⟨g, off + k * 3, none⟩ = some (.int .i64 y.dev) ∧ w'.cell? ⟨g, off + k * 3 + 1, none⟩ = some (.int .i64 y.inc) ∧ w'.cell? ⟨g, off + k * 3 + 2, none⟩ = some (.int .i64 y.seq) := fun w' h => by
        obtain ⟨y', g', off', e1, e2, e3⟩ := dot_at (HL.out.below h) k hlt
        rw [hy] at e1
        cases e1
        cases e2
        exact e3
      have hok := hS.vec.ok
      have HR := fun v h => vRaiseC p F R y v h hfy
      have HK := fun v h => vTakeC p F R y v h hfy
      have HG := fun v h => refRaiseVC a' n' c' R y v h (by omega)
      have HH := fun v h => refTakeVC a' n' c' R y v h hok (by omega)
      unfold Raised at HR HK
      unfold GivesV at HG HH
      obtain ⟨R2, t2, hr2⟩ : ∃ R2 t2, raiseV R y = (R2, t2) := ⟨_, _, rfl⟩
      obtain ⟨R3, t3, hr3⟩ : ∃ R3 t3, takeV R y = (R3, t3) := ⟨_, _, rfl⟩
      have hrk : R2.length ≤ R.length + 1 := by have := raise_len R y; rw [hr2] at this; exact this
      simp only [hr2] at HG HR
      simp only [hr3] at HH HK
      obtain ⟨tk, htk⟩ : ∃ tk, T.getD k false = tk := ⟨_, rfl⟩
      clear hy hfy hr2 hr3 hok
      go_wp2_with fail
      have hSd := hS.below ((Below.refl wr.heap.size wr).drew)
      have hBW := hSd.hb
      go_region_held3 (fun w' => w'.cell? ⟨g, off + k * 3, none⟩ = some (.int .i64 y.dev) ∧ w'.cell? ⟨g, off + k * 3 + 1, none⟩ = some (.int .i64 y.inc) ∧ w'.cell? ⟨g, off + k * 3 + 2, none⟩ = some (.int .i64 y.seq))
        (first | exact hS0 _ hBW)
        (first
          | (go_at_call 10; (with_reducible refine (HG _ hSd.row).mono ?_); rintro e w4 ⟨a4, n4, c4, rfl, hr4, hn4, hat4, hx4⟩; have hS4 := hSd.below hx4; have hBW := hS4.hb))
      all_goals (
        have hoff4 : ∀ j, At a4 j → ¬ F j ∧ j < w4.heap.size := fun j h => (hat4 j h).elim (fun h1 => ⟨hSd.off j h1, Nat.lt_of_lt_of_le (hSd.alt j h1) hx4.size⟩) (fun h1 => ⟨fun h2 => by have := hSd.vec.lt j h2; omega, h1.2⟩)
        clear hSd hS HG hat4 hx4 hBW
        go_upto_region 10 with fail
        go_cut [49] (fun s49 wx => s49 = .bool tk ∧ wx = w4)
        case first =>
          by_cases hkt : k < nt
          · have hkt' : (k : Int) < (nt : Int) := by omega
            obtain ⟨tb, toff, rfl, tc⟩ := (HT.out.below' hS4.hb) k (.bool tk) (by rw [List.getElem?_map, List.getElem?_eq_getElem (by rw [HTl.out]; exact hkt), ← htk, List.getD, List.getElem?_eq_getElem (by rw [HTl.out]; exact hkt)]; rfl)
            cases tk
            all_goals (
              go_wp2_with fail
              go_meet
              exact ⟨rfl, rfl⟩)
          · have hkt' : ¬ (k : Int) < (nt : Int) := by omega
            have htf : tk = false := by rw [← htk, List.getD, List.getElem?_eq_none (by rw [HTl.out]; omega)]; rfl
            subst htf
            go_wp2_with fail
            go_meet
            exact ⟨rfl, rfl⟩
        case rest =>
        obtain ⟨rfl, hwc⟩ := hcut
        subst hwc
        clear htk
        have hBW := hS4.hb
        cases tk with
        | true =>
          clear hr4 hoff4 HR hrk
          obtain ⟨f0, f1, f2⟩ := hS0 _ hBW
          clear hBW
          go_wp2_with fail
          have hSe := hS4.below ((Below.refl _ _).drew)
          have hBW := hSe.hb
          go_region_held3 (fun w' => w'.cell? ⟨g, off + k * 3, none⟩ = some (.int .i64 y.dev) ∧ w'.cell? ⟨g, off + k * 3 + 1, none⟩ = some (.int .i64 y.inc) ∧ w'.cell? ⟨g, off + k * 3 + 2, none⟩ = some (.int .i64 y.seq))
            (first | exact hS0 _ hBW)
            (first
              | (go_at_call 11; (with_reducible refine (HH _ hSe.row).mono ?_); rintro e w5 ⟨a5, n5, c5, rfl, hr5, hn5, hat5, hx5⟩; have hS5 := hSe.rows hr5 hat5 hx5; have hBW := hS5.hb))
          all_goals (
            clear hSe hS4 HH
            obtain ⟨f0, f1, f2⟩ := hS0 _ hBW
            clear hBW
            go_wp2_with fail
            have hSf := hS5.below ((Below.refl _ _).drew)
            have hBW := hSf.hb
            go_region_held3 (fun w' => w'.cell? ⟨g, off + k * 3, none⟩ = some (.int .i64 y.dev) ∧ w'.cell? ⟨g, off + k * 3 + 1, none⟩ = some (.int .i64 y.inc) ∧ w'.cell? ⟨g, off + k * 3 + 2, none⟩ = some (.int .i64 y.seq))
              (first | exact hS0 _ hBW)
              (first
                | (go_at_call 12; (with_reducible refine (HK _ hSf.vec).mono ?_); rintro e w6 ⟨rfl, F6, hv6, hk6, hn6⟩; have hS6 := hSf.vecs hv6 hk6 hn6; have hBW := hS6.hb))
            all_goals (
              clear hSf hS5 HK
              have hl6 := hS6.row.leq
              have HM := fun v h => vMarksC p F6 R3 v h (by omega)
              unfold GivesZ at HM
              have HL6 := Lib.hid hl6
              clear hl6
              go_wp2_with (first
                | (go_at_call 15; (with_reducible refine (HM _ hS6.vec).mono ?_); rintro e w7 ⟨a7, c7, rfl, hz7, hx⟩; have hr7 := hz7.row encD_len; have hS7 := hS6.below hx; clear hx hz7)
                | (go_at_call 14; (with_reducible refine (refSameMY _ _ _ _ _ _ _ _ hr7 hS7.row).mono ?_); rintro e w8 ⟨rfl, q8, rfl⟩; have hS8 := hS7.below (drawn_below (Below.refl _ _) q8)))
              go_roundw
              case rel => exact ⟨k + 1, n5, c5, a5, R3, F6, by omega, by omega, by go_num, rfl, hS8⟩
              case measure => simp [intOf]; omega))
        | false =>
          clear HH HK
          obtain ⟨f0, f1, f2⟩ := hS0 _ hBW
          clear hBW
          go_wp2_with fail
          have hSe := hS4.below ((Below.refl _ _).drew)
          have hBW := hSe.hb
          go_region_held3 (fun w' => w'.cell? ⟨g, off + k * 3, none⟩ = some (.int .i64 y.dev) ∧ w'.cell? ⟨g, off + k * 3 + 1, none⟩ = some (.int .i64 y.inc) ∧ w'.cell? ⟨g, off + k * 3 + 2, none⟩ = some (.int .i64 y.seq))
            (first | exact hS0 _ hBW)
            (first
              | (go_at_call 13; (with_reducible refine (HR _ hSe.vec).mono ?_); rintro e w6 ⟨rfl, F6, hv6, hk6, hn6⟩; have hS5 := hSe.vecs hv6 hk6 hn6; have hBW := hS5.hb))
          all_goals (
            have hS6 : StP w1 p F6 a4 n4 c4 R2 R2 w6 := ⟨hv6, (hr4.below ((Below.refl _ _).drew)).keeps hk6 (fun j h => (hoff4 j h).1), fun j h1 h2 => (hn6 j h2).elim (hoff4 j h1).1 (fun h3 => by have := (hoff4 j h1).2; simp at h3; omega), fun j h1 => Nat.lt_of_lt_of_le (hoff4 j h1).2 (by have := hk6.size; simpa using this), hS5.new, hS5.hb⟩
            clear hSe hS4 HR hS5 hr4
            have hl6 := hS6.row.leq
            have HM := fun v h => vMarksC p F6 R2 v h (by omega)
            unfold GivesZ at HM
            have HL6 := Lib.hid hl6
            clear hl6
            go_wp2_with (first
              | (go_at_call 15; (with_reducible refine (HM _ hS6.vec).mono ?_); rintro e w7 ⟨a7, c7, rfl, hz7, hx⟩; have hr7 := hz7.row encD_len; have hS7 := hS6.below hx; clear hx hz7)
              | (go_at_call 14; (with_reducible refine (refSameMY _ _ _ _ _ _ _ _ hr7 hS7.row).mono ?_); rintro e w8 ⟨rfl, q8, rfl⟩; have hS8 := hS7.below (drawn_below (Below.refl _ _) q8)))
            go_roundw
            case rel => exact ⟨k + 1, n4, c4, a4, R2, F6, by omega, by omega, by go_num, rfl, hS8⟩
            case measure => simp [intOf]; omega))
    · obtain rfl : k = n1 := by omega
      have H1 := fun v h => vHasC p F R x v h hx
      have H2 := fun v h => refHasVC a' n' c' R x v h
      have H3 := fun v h => vGetC p F R x v h hx
      have H4 := fun v h => refGetVC a' n' c' R x v h
      generalize hasV R x = hv at *
      generalize getV R x.dev x.inc = gv at *
      have hS0 : ∀ w', Below wr.heap.size wr w' → w'.cell? ⟨w.heap.size, 0, none⟩ = some (.int .i64 x.dev) ∧ w'.cell? ⟨w.heap.size, 1, none⟩ = some (.int .i64 x.inc) ∧ w'.cell? ⟨w.heap.size, 2, none⟩ = some (.int .i64 x.seq) := fun w' h => by
        have o2 := o1.below ((hS.below h).hb) hlt1
        exact ⟨o2.cell 0 rfl, o2.cell 1 rfl, o2.cell 2 rfl⟩
      have hB1 : Below wr.heap.size wr wr.drew := (Below.refl _ wr).drew
      clear hRl
      go_wp2_with fail
      go_region_held3 (fun w' => w'.cell? ⟨w.heap.size, 0, none⟩ = some (.int .i64 x.dev) ∧ w'.cell? ⟨w.heap.size, 1, none⟩ = some (.int .i64 x.inc) ∧ w'.cell? ⟨w.heap.size, 2, none⟩ = some (.int .i64 x.seq))
        (first | exact hS0 _ hB1)
        (first
          | (go_at_call 16; (with_reducible refine (H1 _ (hS.below hB1).vec).mono ?_); rintro e w3 ⟨rfl, hx⟩; have hB1 := hB1.trans (hx.mono hB1.size); clear hx)
          | (go_at_call 17; (with_reducible refine (H2 _ (hS.below hB1).row).mono ?_); rintro e w3 ⟨rfl, hx⟩; have hB1 := hB1.trans (hx.mono hB1.size); clear hx)
          | (go_at_call 18; (with_reducible refine (H3 _ (hS.below hB1).vec).mono ?_); rintro e w3 ⟨rfl, hx⟩; have hB1 := hB1.trans (hx.mono hB1.size); clear hx)
          | (go_at_call 19; (with_reducible refine (H4 _ (hS.below hB1).row).mono ?_); rintro e w3 ⟨rfl, hx⟩; have hB1 := hB1.trans (hx.mono hB1.size); clear hx)
          | (go_at_call 8; (with_reducible refine (awake17C _).mono ?_); rintro e w3 ⟨rfl, hx⟩; have hB1 := hB1.trans (hx.mono hB1.size); clear hx))
      all_goals (
        go_wp2
        go_ret
        exact ⟨rfl, b1.trans (((hS.below hB1).hb).mono b1.size)⟩)
end Go.Proofs.Ytcganblfeddjdaa
