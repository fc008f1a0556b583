/- Contracts and plain words that the laws' proofs stand on. -/
import Derived.Test.YtaodjnkjjmhecaaGreatDoorLibAB
namespace Go.Proofs.YtaodjnkjjmhecaaGreatDoor
open Go.RowKit
set_option linter.unusedVariables false
theorem sameA_val (x y : DotN) : (x.dev == y.dev && x.inc == y.inc) = sameA x y := rfl
set_option maxRecDepth 100000 in
theorem refGetVC (a : Option Addr) (n c : Nat) (L : List DotN) (x : DotN) (w : World) (hL : RowOf encD 3 w a n c L) :
    Calls Tryz.prog 63 #[.slice a n c, .agg #[.int .i64 x.dev, .int .i64 x.inc]] w fun e w' => e = .returned (.int .i64 (getV L x.dev x.inc)) ∧ Below w.heap.size w w' := by
  have hn := hL.leq
  have hcm := hL.capm
  have hcl := hL.cle
  unfold maxLen at hcm
  have o1 := ObjAt.new w #[.int .i64 x.dev, .int .i64 x.inc] 33
  have b1 := below_alloc w (.cells #[.int .i64 x.dev, .int .i64 x.inc] 33)
  have HL := Lib.hid (hL.below b1)
  have Hn := Lib.hid hn
  have v0 := o1.cell 0 rfl; have v1 := o1.cell 1 rfl
  clear hL hn o1
  generalize hw1 : w.alloc (.cells #[.int .i64 x.dev, .int .i64 x.inc] 33) = w1 at *
  go_enter Tryz.func63, Tryz.ntmps63
  go_wp2
  go_loopw [5] (fun i wr => ∃ k q : Nat, k ≤ n ∧ i = .int .i64 (k : Int) ∧ Hid (getV L x.dev x.inc = getV (L.drop k) x.dev x.inc) ∧ wr = w1.drewN q) (fun i _ => n - (intOf i).toNat)
  case atStart => exact ⟨0, 0, Nat.zero_le _, rfl, rfl, rfl⟩
  case round =>
    obtain ⟨k, q, hk, rfl, hs, rfl⟩ := hrel
    by_cases hlt : k < n
    · have hlt' : (k : Int) < (n : Int) := by omega
      obtain ⟨y, g1, o1, hy, rfl, c0, c1, c2⟩ := dot_at HL.out k hlt
      have hd : L.drop k = y :: L.drop (k + 1) := by
        obtain ⟨h1, h2⟩ := List.getElem?_eq_some_iff.1 hy
        rw [← h2]
        exact List.drop_eq_getElem_cons h1
      have hE := eqActor y.dev y.inc x.dev x.inc
      rw [sameA_val] at hE
      cases hxy : sameA y x with
      | true =>
        have e : Hid (getV L x.dev x.inc = y.seq) := by unfold Hid; rw [hs.out, hd, getV, if_pos (sameA_iff.1 hxy)]
        rw [hxy] at hE
        clear hs hxy hd hy
        go_wp2_with fail
        go_quiet (fail)
        go_wp2
        go_ret
        exact ⟨by rw [e.out]; rfl, drawn_below b1 _⟩
      | false =>
        have e : Hid (getV L x.dev x.inc = getV (L.drop (k + 1)) x.dev x.inc) := by unfold Hid; rw [hs.out, hd, getV, if_neg (sameA_no.1 hxy)]
        rw [hxy] at hE
        clear hs hxy hd hy
        go_wp2_with fail
        go_quiet (fail)
        go_wp2
        go_roundw
        case rel => exact ⟨k + 1, _, by omega, by go_num, e, by first | rfl | simp⟩
        case measure => simp [intOf]; omega
    · obtain rfl : k = n := by omega
      have e : Hid (getV L x.dev x.inc = 0) := by unfold Hid; rw [hs.out, List.drop_of_length_le (by rw [Hn.out]; exact Nat.le_refl _)]; rfl
      go_wp2
      go_ret
      exact ⟨by rw [e.out]; rfl, drawn_below b1 _⟩
structure StS (w : World) (x : DotN) (b : Option Addr) (m C : Nat) (R : List DotN) (v : World) : Prop where
  o1 : ObjAt v w.heap.size [.int .i64 x.dev, .int .i64 x.inc]
  hZ : OwnZ encD 3 (w.heap.size + 1) 149 b m C R v
  hB : Below w.heap.size w v
theorem StS.below {w v v' : World} {x : DotN} {b : Option Addr} {m C : Nat} {R : List DotN} (h : StS w x b m C R v) (hx : Below v.heap.size v v') : StS w x b m C R v' :=
  ⟨h.o1.below hx h.o1.lt, h.hZ.below hx (Nat.le_refl _), h.hB.trans (hx.mono h.hB.size)⟩
theorem StS.drawn {w v : World} {x : DotN} {b : Option Addr} {m C : Nat} {R : List DotN} (h : StS w x b m C R v) (q : Nat) : StS w x b m C R (v.drewN q) := h.below (drawn_below (Below.refl _ _) q)
theorem StS.lt {w v : World} {x : DotN} {b : Option Addr} {m C : Nat} {R : List DotN} (h : StS w x b m C R v) : w.heap.size + 1 ≤ v.heap.size := h.o1.lt
theorem StS.grown {w v v' : World} {x : DotN} {b b' : Option Addr} {m C m' C' : Nat} {R R' : List DotN} (h : StS w x b m C R v) (hz : OwnZ encD 3 (w.heap.size + 1) 149 b' m' C' R' v') (hx : Below (w.heap.size + 1) v v') : StS w x b' m' C' R' v' :=
  ⟨h.o1.below hx (Nat.lt_succ_self _), hz, h.hB.trans (hx.mono (Nat.le_succ _))⟩
set_option maxHeartbeats 4000000 in
set_option maxRecDepth 100000 in
theorem refSetVC (a : Option Addr) (n c : Nat) (L : List DotN) (x : DotN) (w : World) (hL : RowOf encD 3 w a n c L) (hn9 : n ≤ 1000000) :
    Calls Tryz.prog 64 #[.slice a n c, .agg #[.int .i64 x.dev, .int .i64 x.inc], .int .i64 x.seq] w (GivesZ encD 3 149 (setV L x) (setV L x).length w) := by
  have hn := hL.leq
  have hcm := hL.capm
  have hcl := hL.cle
  unfold maxLen at hcm
  obtain ⟨i0, hi, hz0, hz1, hz2⟩ := info_parts infoMark
  have o1 := ObjAt.new w #[.int .i64 x.dev, .int .i64 x.inc] 33
  have b1 := below_alloc w (.cells #[.int .i64 x.dev, .int .i64 x.inc] 33)
  have hs1 : (w.alloc (.cells #[.int .i64 x.dev, .int .i64 x.inc] 33)).heap.size = w.heap.size + 1 := by simp
  generalize hw1 : w.alloc (.cells #[.int .i64 x.dev, .int .i64 x.inc] 33) = w1 at *
  have hZ0 := OwnZ.lit encD 3 149 w1
  have b2 := below_alloc w1 (.cells #[] 149)
  rw [hs1] at hZ0
  have hS0 : StS w x (some ⟨w.heap.size + 1, 0, none⟩) 0 0 [] (w1.alloc (.cells #[] 149)) := ⟨o1.below b2 o1.lt, hZ0, b1.trans (b2.mono b1.size)⟩
  have HL := Lib.hid hL
  have Hn := Lib.hid hn
  clear hL hn o1 hZ0
  unfold GivesZ
  go_enter Tryz.func64, Tryz.ntmps64
  go_wp2
  go_loopw [7, 8, 9] (fun l t i wr => ∃ (k m : Nat) (b : Option Addr) (C : Nat) (R : List DotN) (u : Bool), k ≤ n ∧ m ≤ k + 1 ∧ (u = false → m ≤ k) ∧ l = .slice b m C ∧ t = .bool u ∧ i = .int .i64 (k : Int) ∧ Hid ((L.take k).foldl (setStep x) ([], false) = (R, u)) ∧ StS w x b m C R wr) (fun _ _ i _ => n - (intOf i).toNat)
  case atStart => exact ⟨0, 0, _, 0, [], false, Nat.zero_le _, by omega, fun _ => Nat.le_refl _, rfl, rfl, rfl, rfl, hS0⟩
  case round =>
    clear hS0 b1 b2 hw1 hs1
    obtain ⟨k, m, b, C, R, u, hk, hm, hmu, rfl, rfl, rfl, hs, hS⟩ := hrel
    have hRl : R.length = m := hS.hZ.2.1
    by_cases hlt : k < n
    · have hlt' : (k : Int) < (n : Int) := by omega
      have g1' : decide ((k : Int) < (n : Int)) = true := decide_eq_true hlt'
      have i1 : (0 : Int) ≤ (k : Int) := by omega
      obtain ⟨y, g, off, hy, rfl, d0, d1, d2⟩ := dot_at (HL.out.below hS.hB) k hlt
      have hC : ∀ v, Below w.heap.size w v → v.cell? ⟨g, off + k * 3, none⟩ = some (.int .i64 y.dev) ∧ v.cell? ⟨g, off + k * 3 + 1, none⟩ = some (.int .i64 y.inc) ∧ v.cell? ⟨g, off + k * 3 + 2, none⟩ = some (.int .i64 y.seq) := fun v hv => by
        obtain ⟨y', g', off', e1, e2, e3⟩ := dot_at (HL.out.below hv) k hlt
        rw [hy] at e1
        cases e1
        cases e2
        exact e3
      have hst : Hid ((L.take (k + 1)).foldl (setStep x) ([], false) = setStep x (R, u) y) := by unfold Hid; rw [take_snocI hy, List.foldl_append, hs.out]; rfl
      have hE := eqActor y.dev y.inc x.dev x.inc
      rw [sameA_val] at hE
      have HA := fun w => refAheadAC y.dev y.inc x.dev x.inc w
      have hah : aheadA y.dev y.inc x.dev x.inc = aheadD y x := rfl
      rw [hah] at HA
      have p0 := hS.o1.cell 0 rfl; have p1 := hS.o1.cell 1 rfl
      clear hs hy hah
      cases u with
      | true =>
        cases hsa : sameA y x with
        | true =>
          rw [hsa] at hE
          have h9 := Lib.hid (hst.out.trans (show setStep x (R, true) y = (R, true) by simp [setStep, hsa]))
          clear hst hsa
          go_wp2_with fail
          go_quiet (fail)
          go_wp2_with fail
          refine wp_some (fun v => StS w x b m C R v) (hS.drawn _) ?_
          intro w2 hS2
          have q0 := hS2.o1.cell 0 rfl; have q1 := hS2.o1.cell 1 rfl
          obtain ⟨e0, e1, e2⟩ := hC _ hS2.hB
          go_wp2_with fail
          go_quiet (fail)
          go_wp2
          go_roundw
          case rel => exact ⟨k + 1, m, b, C, R, true, by omega, by omega, (fun h => by first | (cases h; done) | omega), rfl, rfl, by go_num, h9, hS2.drawn _⟩
          case measure => simp [intOf]; omega
        | false =>
          rw [hsa] at hE
          have h9 := Lib.hid (hst.out.trans (show setStep x (R, true) y = (R ++ [y], true) by simp [setStep, hsa]))
          clear hst hsa
          go_wp2_with fail
          go_quiet (fail)
          go_wp2_with fail
          refine wp_some (fun v => StS w x b m C R v) (hS.drawn _) ?_
          intro w2 hS2
          have q0 := hS2.o1.cell 0 rfl; have q1 := hS2.o1.cell 1 rfl
          obtain ⟨e0, e1, e2⟩ := hC _ hS2.hB
          go_wp2_with fail
          go_quiet (fail)
          go_wp2_with (at_builtin; refine wpList_append_row1 encD_len (by decide) encD_one rfl (.tmp 42) (.tmp 47) 27 rfl 149 i0 (.agg #[.int .i64 0, .int .i64 0, .int .i64 0]) 24 Tryz.underlying27 hi hz0 hz1 hz2 rfl (hS2.drawn _).hZ rfl y rfl rfl (m + 1) rfl (by unfold maxLen; omega) (by omega) (hS2.drawn _).lt ?_; intro b6 C6 w6 hz6 hx6 hg6 hn6; have hS6 := (hS2.drawn _).grown hz6 hx6)
          go_roundw
          case rel => exact ⟨k + 1, m + 1, b6, C6, R ++ [y], true, by omega, by omega, (fun h => by first | (cases h; done) | omega), rfl, rfl, by go_num, h9, hS6⟩
          case measure => simp [intOf]; omega
      | false =>
        have hmk := hmu rfl
        cases hah : aheadD y x with
        | true =>
          have hsa : sameA y x = false := by rw [sameA_no]; rw [aheadD_iff] at hah; omega
          rw [hsa] at hE
          simp only [hah] at HA
          have h9 := Lib.hid (hst.out.trans (show setStep x (R, false) y = (R ++ [y], false) by simp [setStep, hah, hsa]))
          clear hst hah hsa
          go_wp2_with fail
          have hdr : Below wr.heap.size wr wr.drew := (Below.refl _ wr).drew
          have hS9 : ∀ w', Below wr.heap.size wr w' → w'.cell? ⟨w.heap.size, 0, none⟩ = some (.int .i64 x.dev) ∧ w'.cell? ⟨w.heap.size, 1, none⟩ = some (.int .i64 x.inc) ∧ w'.cell? ⟨g, off + k * 3, none⟩ = some (.int .i64 y.dev) ∧ w'.cell? ⟨g, off + k * 3 + 1, none⟩ = some (.int .i64 y.inc) ∧ w'.cell? ⟨g, off + k * 3 + 2, none⟩ = some (.int .i64 y.seq) := fun w' h => ⟨(hS.below h).o1.cell 0 rfl, (hS.below h).o1.cell 1 rfl, hC _ (hS.below h).hB⟩
          go_region_held3 (fun w' => w'.cell? ⟨w.heap.size, 0, none⟩ = some (.int .i64 x.dev) ∧ w'.cell? ⟨w.heap.size, 1, none⟩ = some (.int .i64 x.inc) ∧ w'.cell? ⟨g, off + k * 3, none⟩ = some (.int .i64 y.dev) ∧ w'.cell? ⟨g, off + k * 3 + 1, none⟩ = some (.int .i64 y.inc) ∧ w'.cell? ⟨g, off + k * 3 + 2, none⟩ = some (.int .i64 y.seq))
            (first | exact hS9 _ hdr | exact hS9 _ (hdr.trans hx))
            (first | (go_at_call 102; (with_reducible refine (HA _).mono ?_); rintro e w2 ⟨rfl, hx⟩))
          have hS2 := hS.below (hdr.trans hx)
          clear hS9 hdr hx
          go_wp2_with fail
          have q0 := hS2.o1.cell 0 rfl; have q1 := hS2.o1.cell 1 rfl
          obtain ⟨e0, e1, e2⟩ := hC _ hS2.hB
          go_wp2_with fail
          go_quiet (fail)
          go_wp2_with (at_builtin; refine wpList_append_row1 encD_len (by decide) encD_one rfl (.tmp 42) (.tmp 47) 27 rfl 149 i0 (.agg #[.int .i64 0, .int .i64 0, .int .i64 0]) 24 Tryz.underlying27 hi hz0 hz1 hz2 rfl (hS2.drawn _).hZ rfl y rfl rfl (m + 1) rfl (by unfold maxLen; omega) (by omega) (hS2.drawn _).lt ?_; intro b6 C6 w6 hz6 hx6 hg6 hn6; have hS6 := (hS2.drawn _).grown hz6 hx6)
          go_roundw
          case rel => exact ⟨k + 1, m + 1, b6, C6, R ++ [y], false, by omega, by omega, (fun h => by first | (cases h; done) | omega), rfl, rfl, by go_num, h9, hS6⟩
          case measure => simp [intOf]; omega
        | false =>
          simp only [hah] at HA
          cases hsa : sameA y x with
          | true =>
            rw [hsa] at hE
            have h9 := Lib.hid (hst.out.trans (show setStep x (R, false) y = (R ++ [x], true) by simp [setStep, hah, hsa]))
            clear hst hah hsa
            go_wp2_with fail
            have hdr : Below wr.heap.size wr wr.drew := (Below.refl _ wr).drew
            have hS9 : ∀ w', Below wr.heap.size wr w' → w'.cell? ⟨w.heap.size, 0, none⟩ = some (.int .i64 x.dev) ∧ w'.cell? ⟨w.heap.size, 1, none⟩ = some (.int .i64 x.inc) ∧ w'.cell? ⟨g, off + k * 3, none⟩ = some (.int .i64 y.dev) ∧ w'.cell? ⟨g, off + k * 3 + 1, none⟩ = some (.int .i64 y.inc) ∧ w'.cell? ⟨g, off + k * 3 + 2, none⟩ = some (.int .i64 y.seq) := fun w' h => ⟨(hS.below h).o1.cell 0 rfl, (hS.below h).o1.cell 1 rfl, hC _ (hS.below h).hB⟩
            go_region_held3 (fun w' => w'.cell? ⟨w.heap.size, 0, none⟩ = some (.int .i64 x.dev) ∧ w'.cell? ⟨w.heap.size, 1, none⟩ = some (.int .i64 x.inc) ∧ w'.cell? ⟨g, off + k * 3, none⟩ = some (.int .i64 y.dev) ∧ w'.cell? ⟨g, off + k * 3 + 1, none⟩ = some (.int .i64 y.inc) ∧ w'.cell? ⟨g, off + k * 3 + 2, none⟩ = some (.int .i64 y.seq))
              (first | exact hS9 _ hdr | exact hS9 _ (hdr.trans hx))
              (first | (go_at_call 102; (with_reducible refine (HA _).mono ?_); rintro e w2 ⟨rfl, hx⟩))
            have hS2 := hS.below (hdr.trans hx)
            clear hS9 hdr hx
            obtain ⟨q0, q1⟩ : _ ∧ _ := ⟨hS2.o1.cell 0 rfl, hS2.o1.cell 1 rfl⟩
            go_wp2_with (at_builtin; refine wpList_append_row1 encD_len (by decide) encD_one rfl (.tmp 29) (.tmp 33) 27 rfl 149 i0 (.agg #[.int .i64 0, .int .i64 0, .int .i64 0]) 24 Tryz.underlying27 hi hz0 hz1 hz2 rfl hS2.hZ rfl x rfl rfl (m + 1) rfl (by unfold maxLen; omega) (by omega) hS2.lt ?_; intro b3 C3 w3 hz3 hx3 hg3 hn3; have hS3 := hS2.grown hz3 hx3)
            have q0 := hS3.o1.cell 0 rfl; have q1 := hS3.o1.cell 1 rfl
            obtain ⟨e0, e1, e2⟩ := hC _ hS3.hB
            go_wp2_with fail
            go_quiet (fail)
            go_wp2
            go_roundw
            case rel => exact ⟨k + 1, m + 1, b3, C3, R ++ [x], true, by omega, by omega, (fun h => by first | (cases h; done) | omega), rfl, rfl, by go_num, h9, hS3.drawn _⟩
            case measure => simp [intOf]; omega
          | false =>
            rw [hsa] at hE
            have h9 := Lib.hid (hst.out.trans (show setStep x (R, false) y = (R ++ [x] ++ [y], true) by simp [setStep, hah, hsa]))
            clear hst hah hsa
            go_wp2_with fail
            have hdr : Below wr.heap.size wr wr.drew := (Below.refl _ wr).drew
            have hS9 : ∀ w', Below wr.heap.size wr w' → w'.cell? ⟨w.heap.size, 0, none⟩ = some (.int .i64 x.dev) ∧ w'.cell? ⟨w.heap.size, 1, none⟩ = some (.int .i64 x.inc) ∧ w'.cell? ⟨g, off + k * 3, none⟩ = some (.int .i64 y.dev) ∧ w'.cell? ⟨g, off + k * 3 + 1, none⟩ = some (.int .i64 y.inc) ∧ w'.cell? ⟨g, off + k * 3 + 2, none⟩ = some (.int .i64 y.seq) := fun w' h => ⟨(hS.below h).o1.cell 0 rfl, (hS.below h).o1.cell 1 rfl, hC _ (hS.below h).hB⟩
            go_region_held3 (fun w' => w'.cell? ⟨w.heap.size, 0, none⟩ = some (.int .i64 x.dev) ∧ w'.cell? ⟨w.heap.size, 1, none⟩ = some (.int .i64 x.inc) ∧ w'.cell? ⟨g, off + k * 3, none⟩ = some (.int .i64 y.dev) ∧ w'.cell? ⟨g, off + k * 3 + 1, none⟩ = some (.int .i64 y.inc) ∧ w'.cell? ⟨g, off + k * 3 + 2, none⟩ = some (.int .i64 y.seq))
              (first | exact hS9 _ hdr | exact hS9 _ (hdr.trans hx))
              (first | (go_at_call 102; (with_reducible refine (HA _).mono ?_); rintro e w2 ⟨rfl, hx⟩))
            have hS2 := hS.below (hdr.trans hx)
            clear hS9 hdr hx
            obtain ⟨q0, q1⟩ : _ ∧ _ := ⟨hS2.o1.cell 0 rfl, hS2.o1.cell 1 rfl⟩
            go_wp2_with (at_builtin; refine wpList_append_row1 encD_len (by decide) encD_one rfl (.tmp 29) (.tmp 33) 27 rfl 149 i0 (.agg #[.int .i64 0, .int .i64 0, .int .i64 0]) 24 Tryz.underlying27 hi hz0 hz1 hz2 rfl hS2.hZ rfl x rfl rfl (m + 1) rfl (by unfold maxLen; omega) (by omega) hS2.lt ?_; intro b3 C3 w3 hz3 hx3 hg3 hn3; have hS3 := hS2.grown hz3 hx3)
            have q0 := hS3.o1.cell 0 rfl; have q1 := hS3.o1.cell 1 rfl
            obtain ⟨e0, e1, e2⟩ := hC _ hS3.hB
            go_wp2_with fail
            go_quiet (fail)
            go_wp2_with (at_builtin; refine wpList_append_row1 encD_len (by decide) encD_one rfl (.tmp 42) (.tmp 47) 27 rfl 149 i0 (.agg #[.int .i64 0, .int .i64 0, .int .i64 0]) 24 Tryz.underlying27 hi hz0 hz1 hz2 rfl (hS3.drawn _).hZ rfl y rfl rfl (m + 1 + 1) rfl (by unfold maxLen; omega) (by omega) (hS3.drawn _).lt ?_; intro b6 C6 w6 hz6 hx6 hg6 hn6; have hS6 := (hS3.drawn _).grown hz6 hx6)
            go_roundw
            case rel => exact ⟨k + 1, m + 1 + 1, b6, C6, R ++ [x] ++ [y], true, by omega, by omega, (fun h => by first | (cases h; done) | omega), rfl, rfl, by go_num, h9, hS6⟩
            case measure => simp [intOf]; omega
    · obtain rfl : k = n := by omega
      have e0 : L.take k = L := List.take_of_length_le (by rw [Hn.out]; exact Nat.le_refl _)
      have hE := hs.out
      rw [e0] at hE
      cases u with
      | true =>
        have e : Hid (setV L x = R) := by unfold Hid setV; rw [hE]; rfl
        clear hs hE
        go_wp2
        go_ret
        exact ⟨b, C, by rw [e.out, hRl]; rfl, by rw [e.out, hRl]; exact hS.hZ.base (Nat.le_succ _), hS.hB⟩
      | false =>
        have e : Hid (setV L x = R ++ [x]) := by unfold Hid setV; rw [hE]; rfl
        have p0 := hS.o1.cell 0 rfl; have p1 := hS.o1.cell 1 rfl
        clear hs hE
        go_wp2_with (at_builtin; refine wpList_append_row1 encD_len (by decide) encD_one rfl (.tmp 51) (.tmp 55) 27 rfl 149 i0 (.agg #[.int .i64 0, .int .i64 0, .int .i64 0]) 24 Tryz.underlying27 hi hz0 hz1 hz2 rfl hS.hZ rfl x rfl rfl (m + 1) rfl (by unfold maxLen; omega) (by omega) hS.lt ?_; intro b3 C3 w3 hz3 hx3 hg3 hn3; have hS3 := hS.grown hz3 hx3)
        go_ret
        exact ⟨b3, C3, by rw [e.out, List.length_append, hRl]; rfl, by rw [e.out, List.length_append, hRl]; exact hS3.hZ.base (Nat.le_succ _), hS3.hB⟩
end Go.Proofs.YtaodjnkjjmhecaaGreatDoor
