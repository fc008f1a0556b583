/- Contracts and plain words that the laws' proofs stand on. -/
import Derived.Test.YtaodjnkjjmhecaaGreatDoorShort
import Derived.Test.YtaodjnkjjmhecaaGreatDoorLibAP
namespace Go.Proofs.YtaodjnkjjmhecaaGreatDoor
open Go.RowKit
set_option linter.unusedVariables false
set_option linter.unusedSimpArgs false
set_option maxRecDepth 100000 in
theorem refHasVC (a : Option Addr) (n c : Nat) (L : List DotN) (x : DotN) (w : World) (hL : RowOf encD 3 w a n c L) :
    Calls Tryz.prog 37 #[.slice a n c, .agg #[.int .i64 x.dev, .int .i64 x.inc, .int .i64 x.seq]] w fun e w' => e = .returned (.bool (hasV L x)) ∧ Below w.heap.size w w' := by
  have o1 := ObjAt.new w #[.int .i64 x.dev, .int .i64 x.inc, .int .i64 x.seq] 35
  have b1 := below_alloc w (.cells #[.int .i64 x.dev, .int .i64 x.inc, .int .i64 x.seq] 35)
  generalize hw1 : w.alloc (.cells #[.int .i64 x.dev, .int .i64 x.inc, .int .i64 x.seq] 35) = w1 at *
  have hL1 := hL.below b1
  have v0 := o1.cell 0 rfl; have v1 := o1.cell 1 rfl; have v2 := o1.cell 2 rfl
  have HR := fun v => refDRightC x v
  have HG := fun v h => refGetVC a n c L x v h
  have hS0 : ∀ w', Below w1.heap.size w1 w' → w'.cell? ⟨w.heap.size, 0, none⟩ = some (.int .i64 x.dev) ∧ w'.cell? ⟨w.heap.size, 1, none⟩ = some (.int .i64 x.inc) ∧ w'.cell? ⟨w.heap.size, 2, none⟩ = some (.int .i64 x.seq) := fun w' h => ⟨(o1.below h o1.lt).cell 0 rfl, (o1.below h o1.lt).cell 1 rfl, (o1.below h o1.lt).cell 2 rfl⟩
  have hB1 : Below w1.heap.size w1 w1.drew := (Below.refl _ w1).drew
  unfold hasV
  generalize getV L x.dev x.inc = gv at *
  cases hr : rightD x with
  | false =>
    simp only [hr] at HR
    rw [Bool.false_and]
    go_enter Tryz.func37, Tryz.ntmps37
    go_wp2_with fail
    refine wp_region_held_drew (S := fun w' => w'.cell? ⟨w.heap.size, 0, none⟩ = some (.int .i64 x.dev) ∧ w'.cell? ⟨w.heap.size, 1, none⟩ = some (.int .i64 x.inc) ∧ w'.cell? ⟨w.heap.size, 2, none⟩ = some (.int .i64 x.seq)) (by kernel_rfl) (hS0 _ hB1) (fun hHeld => ?_)
    first | (refine tR (i := 0) rfl rfl ?_) | (refine tL (i := 0) (v := ?vbx0) rfl ?hybx0 ?rbx0; case hybx0 => (rintro w' ⟨hs0, hs1, hs2⟩; go_simp; try with_reducible rfl))
    try simp only [gA, gB, Act.put, gD, gE, gF]
    refine wpAnyH_ready (rs := [1]) (by kernel_rfl) (by simp) ?_
    refine AllReadyH.cons (o := _) rfl (fun K hK => ?_) AllReadyH.nil
    go_simp
    go_at_call 86; (with_reducible refine (HR _).mono ?_); rintro e w2 ⟨rfl, hx⟩; have hB1 := hB1.trans (hx.mono hB1.size); clear hx
    dsimp only
    refine hK.out _ _ (hS0 _ hB1) (fun hHeld => ?_)
    clear hK K
    try simp only [gA, gB, gC, Act.put, gD, gE, gF]
    first | (refine tR (i := 2) rfl rfl ?_) | (refine tL (i := 2) (v := ?vbx2) rfl ?hybx2 ?rbx2; case hybx2 => (rintro w' ⟨hs0, hs1, hs2⟩; go_simp; try with_reducible rfl))
    try simp only [gA, gB, gC, Act.put, gD, gE, gF]
    first | (refine tR (i := 3) rfl rfl ?_) | (refine tL (i := 3) (v := ?vbx3) rfl ?hybx3 ?rbx3; case hybx3 => (rintro w' ⟨hs0, hs1, hs2⟩; go_simp; try with_reducible rfl))
    try simp only [gA, gB, gC, Act.put, gD, gE, gF]
    first | (refine tR (i := 4) rfl rfl ?_) | (refine tL (i := 4) (v := ?vbx4) rfl ?hybx4 ?rbx4; case hybx4 => (rintro w' ⟨hs0, hs1, hs2⟩; go_simp; try with_reducible rfl))
    try simp only [gA, gB, gC, Act.put, gD, gE, gF]
    first | (refine tR (i := 5) rfl rfl ?_) | (refine tL (i := 5) (v := ?vbx5) rfl ?hybx5 ?rbx5; case hybx5 => (rintro w' ⟨hs0, hs1, hs2⟩; go_simp; try with_reducible rfl))
    try simp only [gA, gB, gC, Act.put, gD, gE, gF]
    first | (refine tR (i := 6) rfl rfl ?_) | (refine tL (i := 6) (v := ?vbx6) rfl ?hybx6 ?rbx6; case hybx6 => (rintro w' ⟨hs0, hs1, hs2⟩; go_simp; try with_reducible rfl))
    try simp only [gA, gB, gC, Act.put, gD, gE, gF]
    first | (refine tR (i := 7) rfl rfl ?_) | (refine tL (i := 7) (v := ?vbx7) rfl ?hybx7 ?rbx7; case hybx7 => (rintro w' ⟨hs0, hs1, hs2⟩; go_simp; try with_reducible rfl))
    try simp only [gA, gB, gC, Act.put, gD, gE, gF]
    first | (refine tR (i := 8) rfl rfl ?_) | (refine tL (i := 8) (v := ?vbx8) rfl ?hybx8 ?rbx8; case hybx8 => (rintro w' ⟨hs0, hs1, hs2⟩; go_simp; try with_reducible rfl))
    try simp only [gA, gB, gC, Act.put, gD, gE, gF]
    first | (refine tR (i := 9) rfl rfl ?_) | (refine tL (i := 9) (v := ?vbx9) rfl ?hybx9 ?rbx9; case hybx9 => (rintro w' ⟨hs0, hs1, hs2⟩; go_simp; try with_reducible rfl))
    try simp only [gA, gB, gC, Act.put, gD, gE, gF]
    first | (refine tR (i := 10) rfl rfl ?_) | (refine tL (i := 10) (v := ?vbx10) rfl ?hybx10 ?rbx10; case hybx10 => (rintro w' ⟨hs0, hs1, hs2⟩; go_simp; try with_reducible rfl))
    try simp only [gA, gB, gC, Act.put, gD, gE, gF]
    first | (refine tR (i := 11) rfl rfl ?_) | (refine tL (i := 11) (v := ?vbx11) rfl ?hybx11 ?rbx11; case hybx11 => (rintro w' ⟨hs0, hs1, hs2⟩; go_simp; try with_reducible rfl))
    try simp only [gA, gB, gC, Act.put, gD, gE, gF]
    refine wpAnyH_done (by kernel_rfl) ?_ _
    all_goals (
      go_wp2
      go_ret
      exact ⟨rfl, b1.trans (hB1.mono b1.size)⟩)
  | true =>
    simp only [hr] at HR
    rw [Bool.true_and]
    obtain ⟨t, ht⟩ : ∃ t, decide (x.seq ≤ gv) = t := ⟨_, rfl⟩
    rw [ht]
    go_enter Tryz.func37, Tryz.ntmps37
    go_wp2_with fail
    go_region_held3 (fun w' => w'.cell? ⟨w.heap.size, 0, none⟩ = some (.int .i64 x.dev) ∧ w'.cell? ⟨w.heap.size, 1, none⟩ = some (.int .i64 x.inc) ∧ w'.cell? ⟨w.heap.size, 2, none⟩ = some (.int .i64 x.seq))
      (first | exact hS0 _ hB1)
      (first
        | (go_at_call 86; (with_reducible refine (HR _).mono ?_); rintro e w2 ⟨rfl, hx⟩; have hB1 := hB1.trans (hx.mono hB1.size); clear hx)
        | (go_at_call 63; (with_reducible refine (HG _ (hL1.below hB1)).mono ?_); rintro e w3 ⟨rfl, hx⟩; have hB1 := hB1.trans (hx.mono hB1.size); clear hx))
    all_goals (
      go_wp2
      go_ret
      exact ⟨by first | rfl | simp [ht], b1.trans (hB1.mono b1.size)⟩)
end Go.Proofs.YtaodjnkjjmhecaaGreatDoor
namespace Go.Proofs.YtaodjnkjjmhecaaGreatDoor
open Go.RowKit
set_option linter.unusedVariables false
set_option maxRecDepth 100000 in
theorem refSignC (x : UInt8) (w : World) : Calls Tryz.prog 226 #[.int .u8 (x.toNat : Int)] w fun e w' => e = .returned (.bool (signB x)) ∧ w = w' := by
  have h0 := u8_lt x
  unfold signB
  generalize x.toNat = n at *
  -- BEGIN sign
  have hcase : n = 45 ∨ n = 95 ∨ (97 ≤ n ∧ n ≤ 122) ∨ (48 ≤ n ∧ n ≤ 57) ∨ (n < 48 ∧ n ≠ 45) ∨ (58 ≤ n ∧ n ≤ 96 ∧ n ≠ 95) ∨ (123 ≤ n) := by omega
  rcases hcase with rfl | rfl | h | h | h | h | h
  · go_enter Tryz.func226, Tryz.ntmps226
    go_wp2
    go_ret
    exact ⟨by kernel_rfl, rfl⟩
  · go_enter Tryz.func226, Tryz.ntmps226
    go_wp2
    go_ret
    exact ⟨by kernel_rfl, rfl⟩
  · have e45 : ((n : Int) == 45) = false := by rw [beq_eq_false_iff_ne]; omega
    have e95 : ((n : Int) == 95) = false := by rw [beq_eq_false_iff_ne]; omega
    have g97 : (97 : Int) ≤ n := by omega
    have g48 : (48 : Int) ≤ n := by omega
    have l122 : (n : Int) ≤ 122 := by omega
    have l57 : ¬ (n : Int) ≤ 57 := by omega
    have q97 : decide ((97 : Int) ≤ n) = true := by exact decide_eq_true g97
    have q48 : decide ((48 : Int) ≤ n) = true := by exact decide_eq_true g48
    have q122 : decide ((n : Int) ≤ 122) = true := by exact decide_eq_true l122
    have q57 : decide ((n : Int) ≤ 57) = false := by exact decide_eq_false l57
    go_enter Tryz.func226, Tryz.ntmps226
    go_wp2
    go_ret
    refine ⟨?_, rfl⟩
    first | (congr 2; done) | (congr 2; symm; first | (simp; omega) | (rw [Bool.eq_false_iff]; simp; omega))
  · have e45 : ((n : Int) == 45) = false := by rw [beq_eq_false_iff_ne]; omega
    have e95 : ((n : Int) == 95) = false := by rw [beq_eq_false_iff_ne]; omega
    have g97 : ¬ (97 : Int) ≤ n := by omega
    have g48 : (48 : Int) ≤ n := by omega
    have l122 : (n : Int) ≤ 122 := by omega
    have l57 : (n : Int) ≤ 57 := by omega
    have q97 : decide ((97 : Int) ≤ n) = false := by exact decide_eq_false g97
    have q48 : decide ((48 : Int) ≤ n) = true := by exact decide_eq_true g48
    have q122 : decide ((n : Int) ≤ 122) = true := by exact decide_eq_true l122
    have q57 : decide ((n : Int) ≤ 57) = true := by exact decide_eq_true l57
    go_enter Tryz.func226, Tryz.ntmps226
    go_wp2
    go_ret
    refine ⟨?_, rfl⟩
    first | (congr 2; done) | (congr 2; symm; first | (simp; omega) | (rw [Bool.eq_false_iff]; simp; omega))
  · have e45 : ((n : Int) == 45) = false := by rw [beq_eq_false_iff_ne]; omega
    have e95 : ((n : Int) == 95) = false := by rw [beq_eq_false_iff_ne]; omega
    have g97 : ¬ (97 : Int) ≤ n := by omega
    have g48 : ¬ (48 : Int) ≤ n := by omega
    have l122 : (n : Int) ≤ 122 := by omega
    have l57 : (n : Int) ≤ 57 := by omega
    have q97 : decide ((97 : Int) ≤ n) = false := by exact decide_eq_false g97
    have q48 : decide ((48 : Int) ≤ n) = false := by exact decide_eq_false g48
    have q122 : decide ((n : Int) ≤ 122) = true := by exact decide_eq_true l122
    have q57 : decide ((n : Int) ≤ 57) = true := by exact decide_eq_true l57
    go_enter Tryz.func226, Tryz.ntmps226
    go_wp2
    go_ret
    refine ⟨?_, rfl⟩
    first | (congr 2; done) | (congr 2; symm; first | (simp; omega) | (rw [Bool.eq_false_iff]; simp; omega))
  · have e45 : ((n : Int) == 45) = false := by rw [beq_eq_false_iff_ne]; omega
    have e95 : ((n : Int) == 95) = false := by rw [beq_eq_false_iff_ne]; omega
    have g97 : ¬ (97 : Int) ≤ n := by omega
    have g48 : (48 : Int) ≤ n := by omega
    have l122 : (n : Int) ≤ 122 := by omega
    have l57 : ¬ (n : Int) ≤ 57 := by omega
    have q97 : decide ((97 : Int) ≤ n) = false := by exact decide_eq_false g97
    have q48 : decide ((48 : Int) ≤ n) = true := by exact decide_eq_true g48
    have q122 : decide ((n : Int) ≤ 122) = true := by exact decide_eq_true l122
    have q57 : decide ((n : Int) ≤ 57) = false := by exact decide_eq_false l57
    go_enter Tryz.func226, Tryz.ntmps226
    go_wp2
    go_ret
    refine ⟨?_, rfl⟩
    first | (congr 2; done) | (congr 2; symm; first | (simp; omega) | (rw [Bool.eq_false_iff]; simp; omega))
  · have e45 : ((n : Int) == 45) = false := by rw [beq_eq_false_iff_ne]; omega
    have e95 : ((n : Int) == 95) = false := by rw [beq_eq_false_iff_ne]; omega
    have g97 : (97 : Int) ≤ n := by omega
    have g48 : (48 : Int) ≤ n := by omega
    have l122 : ¬ (n : Int) ≤ 122 := by omega
    have l57 : ¬ (n : Int) ≤ 57 := by omega
    have q97 : decide ((97 : Int) ≤ n) = true := by exact decide_eq_true g97
    have q48 : decide ((48 : Int) ≤ n) = true := by exact decide_eq_true g48
    have q122 : decide ((n : Int) ≤ 122) = false := by exact decide_eq_false l122
    have q57 : decide ((n : Int) ≤ 57) = false := by exact decide_eq_false l57
    go_enter Tryz.func226, Tryz.ntmps226
    go_wp2
    go_ret
    refine ⟨?_, rfl⟩
    first | (congr 2; done) | (congr 2; symm; first | (simp; omega) | (rw [Bool.eq_false_iff]; simp; omega))
  -- END sign
theorem first_str {P : Program} (w : World) (t : TypeId) (l : List UInt8) (ht : P.underlying t = some .string) (h : 0 < l.length) : (Instr.index t (.string (str l)) (.int .i64 0)).run P w = .ok (.int .u8 ((l.getD 0 0).toNat : Int)) w :=
  run_index_str w t l .i64 0 ht h
theorem u8_is (x : UInt8) (k : Nat) (hk : k < 256) : (x == UInt8.ofNat k) = ((x.toNat : Int) == (k : Int)) := by
  rw [Bool.eq_iff_iff]
  simp only [beq_iff_eq]
  constructor
  · rintro rfl
    rw [UInt8.toNat_ofNat', Nat.mod_eq_of_lt hk]
  · intro h
    refine UInt8.toNat_inj.1 ?_
    rw [UInt8.toNat_ofNat', Nat.mod_eq_of_lt hk]
    omega
set_option maxRecDepth 100000 in
theorem refLabelC (l : List UInt8) (n : Nat) (w : World) (hl : l.length = n) (hm : n ≤ maxLen) :
    Calls Tryz.prog 208 #[.string (str l)] w fun e w' => e = .returned (.bool (labelB l)) ∧ w = w' := by
  have hsz : (str l).size = n := by rw [str_size, hl]
  unfold maxLen at hm
  unfold labelB
  rw [hl]
  rcases Nat.eq_zero_or_pos n with hn | hn
  · have hn' : (n : Int) < 1 := by omega
    rw [decide_eq_false (show ¬ 1 ≤ n by omega)]
    clear hl
    go_enter Tryz.func208, Tryz.ntmps208
    go_wp2
    go_ret
    exact ⟨rfl, rfl⟩
  · have hn' : ¬ (n : Int) < 1 := by omega
    rw [decide_eq_true (show 1 ≤ n by omega), Bool.true_and]
    by_cases h : 63 < n
    · have h' : (63 : Int) < (n : Int) := by omega
      rw [decide_eq_false (show ¬ n ≤ 63 by omega)]
      clear hl
      go_enter Tryz.func208, Tryz.ntmps208
      go_wp2
      go_ret
      exact ⟨rfl, rfl⟩
    · have h' : ¬ (63 : Int) < (n : Int) := by omega
      rw [decide_eq_true (show n ≤ 63 by omega), Bool.true_and]
      have i0 := first_str (P := Tryz.prog) w 9 l Tryz.underlying9 (by rw [hl]; exact hn)
      have i1 := run_index_str (P := Tryz.prog) w 9 l .i64 (n - 1) Tryz.underlying9 (by rw [hl]; omega)
      have hm1 : (n : Int) - 1 = ((n - 1 : Nat) : Int) := by omega
      have hms : 0 ≤ ((n - 1 : Nat) : Int) := by omega
      have hms2 : ((n - 1 : Nat) : Int) < (n : Int) := by omega
      have HL := Lib.hid hl
      clear hl
      obtain ⟨b0, e0, f0⟩ : ∃ b0, (((l.getD 0 0).toNat : Int) == 45) = b0 ∧ (l.getD 0 0 == 45) = b0 := ⟨_, rfl, u8_is _ 45 (by omega)⟩
      obtain ⟨b1, e1, f1⟩ : ∃ b1, (((l.getD (n - 1) 0).toNat : Int) == 45) = b1 ∧ (l.getD (n - 1) 0 == 45) = b1 := ⟨_, rfl, u8_is _ 45 (by omega)⟩
      rw [f0, f1]
      clear f0 f1
      have HR : Hid (∀ k, k < n → signB (l.getD k 0) = false → l.all signB = false) := fun k hk h => all_no (by rw [HL.out]; exact hk) h
      have HY : Hid ((∀ j, j < n → signB (l.getD j 0) = true) → l.all signB = true) := fun h => all_yes (by rw [HL.out]; exact h)
      generalize (l.getD 0 0).toNat = c0 at *
      generalize (l.getD (n - 1) 0).toNat = c1 at *
      generalize l.all signB = R at *
      generalize n - 1 = m at *
      cases b0
      · cases b1
        · go_enter Tryz.func208, Tryz.ntmps208
          go_wp2
          clear i0 i1 e0 e1 hm1 hms hms2
          go_loopw [3] (fun i wr => ∃ k : Nat, k ≤ n ∧ i = .int .i64 (k : Int) ∧ Hid (∀ j, j < k → signB (l.getD j 0) = true) ∧ w = wr) (fun i _ => n - (intOf i).toNat)
          case atStart => exact ⟨0, Nat.zero_le _, rfl, fun j hj => absurd hj (by omega), rfl⟩
          case round =>
            obtain ⟨k, hk, rfl, H, rfl⟩ := hrel
            by_cases hlt : k < n
            · have hlt' : (k : Int) < (n : Int) := by omega
              have hi := run_index_str (P := Tryz.prog) w 9 l .i64 k Tryz.underlying9 (by rw [HL.out]; exact hlt)
              have HN := Lib.hid (fun (hp : signB (l.getD k 0) = true) => (fun j hj => by
                rcases Nat.lt_succ_iff_lt_or_eq.1 hj with h | rfl
                · exact H.out j h
                · exact hp : ∀ j, j < k + 1 → signB (l.getD j 0) = true))
              have HF := Lib.hid (HR.out k hlt)
              have HC := refSignC (l.getD k 0)
              generalize signB (l.getD k 0) = t at *
              generalize l.getD k 0 = x at HC hi
              cases t
              · have HF2 := Lib.hid (HF.out rfl)
                clear HN HF
                go_wp2_with (go_at_call 226; (with_reducible refine (HC _).mono ?_); rintro e w1 ⟨rfl, rfl⟩)
                go_ret
                exact ⟨by rw [HF2.out]; rfl, rfl⟩
              · have HN2 := Lib.hid (HN.out rfl)
                clear HN HF
                go_wp2_with (go_at_call 226; (with_reducible refine (HC _).mono ?_); rintro e w1 ⟨rfl, rfl⟩)
                go_roundw
                case rel => exact ⟨k + 1, by omega, by go_num, HN2.out, by first | rfl | trivial⟩
                case measure => simp [intOf]; omega
            · obtain rfl : k = n := by omega
              have HE := Lib.hid (HY.out H.out)
              go_wp2
              go_ret
              exact ⟨by rw [HE.out]; rfl, rfl⟩
        · clear HR HY
          go_enter Tryz.func208, Tryz.ntmps208
          go_wp2
          go_ret
          exact ⟨rfl, rfl⟩
      · clear HR HY
        go_enter Tryz.func208, Tryz.ntmps208
        go_wp2
        go_ret
        exact ⟨by simp, rfl⟩
theorem below_draws {B : Nat} {a w : World} (h : Below B a w) (k : Nat) : Below B a (w.drewN k) := ⟨h.os, h.tape, h.output, h.size, h.block⟩
theorem wp_any {P : Program} {c : Code} {Q : Exit → Act → World → Prop} {a : Act} {w : World} (S : World → Prop) (h : S w) (H : ∀ w', S w' → Code.wp P c Q a w') : Code.wp P c Q a w := H w h
theorem octet_cases (x : List UInt8) : (octetB x = false ∧ (x.length < 1 ∨ 3 < x.length)) ∨ (1 ≤ x.length ∧ x.length ≤ 3 ∧ octetB x = false ∧ lead x ≠ x.length) ∨ (1 ≤ x.length ∧ x.length ≤ 3 ∧ lead x = x.length ∧ numL x = ((numV x : Int), true) ∧ ((octetB x = false ∧ 255 < numV x) ∨ (numV x ≤ 255 ∧ Lib.itoa (numV x : Int) = Lib.decDigits (numV x) ∧ octetB x = (Lib.decDigits (numV x) == x)))) := by
  unfold octetB
  by_cases h1 : 1 ≤ x.length
  · by_cases h3 : x.length ≤ 3
    · rw [decide_eq_true h1, decide_eq_true h3]
      by_cases hd : lead x = x.length
      · refine .inr (.inr ⟨h1, h3, hd, ?_, ?_⟩)
        · have hs : signed x = false := by
            cases c : signed x with
            | false => rfl
            | true =>
              obtain ⟨c1, c2, -⟩ := signed_yes c
              have := lead_all hd 0 (by omega)
              omega
          obtain ⟨-, hb⟩ := signed_no hs
          unfold numL
          rw [hs, hb, if_neg (by omega)]
          rfl
        · rw [decide_eq_true hd]
          by_cases hv : numV x ≤ 255
          · refine .inr ⟨hv, ?_, ?_⟩
            · unfold Lib.itoa
              rw [if_neg (by omega)]
              rfl
            · rw [decide_eq_true hv]
              simp
          · exact .inl ⟨by rw [decide_eq_false hv]; simp, by omega⟩
      · exact .inr (.inl ⟨h1, h3, by rw [decide_eq_false hd]; simp, hd⟩)
    · exact .inl ⟨by rw [decide_eq_false h3]; simp, .inr (by omega)⟩
  · exact .inl ⟨by rw [decide_eq_false h1]; simp, .inl (by omega)⟩
set_option maxRecDepth 100000 in
theorem refFourC (l : List UInt8) (n : Nat) (w : World) (hl : l.length = n) (hm : n ≤ 1000000000000) :
    Calls Tryz.prog 206 #[.string (str l)] w fun e w' => e = .returned (.bool (quadB l)) ∧ Below w.heap.size w w' := by
  have HS := fun w => refSplitDotC l n w hl hm
  unfold GivesStrs at HS
  unfold quadB
  have hle := fun k hk => part_le l 46 k hk
  have hNn := splitL_le l 46
  rw [hl] at hle hNn
  generalize splitL l 46 = P at *
  obtain ⟨N, hN⟩ : ∃ N, P.length = N := ⟨_, rfl⟩
  rw [hN] at HS hle hNn ⊢
  clear hl
  by_cases hN4 : N = 4
  · subst hN4
    rw [decide_eq_true rfl, Bool.true_and]
    have HP := Lib.hid hN
    have HR : Hid (∀ k, k < 4 → octetB (P.getD k []) = false → P.all octetB = false) := fun k hk h => all_no' (by rw [HP.out]; exact hk) h
    have HY : Hid ((∀ j, j < 4 → octetB (P.getD j []) = true) → P.all octetB = true) := fun h => all_yes' (by rw [HP.out]; exact h)
    generalize P.all octetB = R at *
    clear hN
    go_enter Tryz.func206, Tryz.ntmps206
    go_wp2_with (go_at_call 207; (with_reducible refine (HS _).mono ?_); rintro e w1 ⟨a1, c1, rfl, ho1, hx1⟩)
    obtain ⟨g, rfl, hg0, hg1⟩ := ho1.head (by omega)
    have r1 := ho1.reads
    clear HS ho1
    go_loopw [4, 5, 6] (fun i _ _ wr => ∃ k : Nat, k ≤ 4 ∧ i = .int .i64 (k : Int) ∧ Hid (∀ j, j < k → octetB (P.getD j []) = true) ∧ Below w1.heap.size w1 wr) (fun i _ _ _ => 4 - (intOf i).toNat)
    case atStart => exact ⟨0, Nat.zero_le _, rfl, fun j hj => absurd hj (by omega), Below.refl _ _⟩
    case round =>
      obtain ⟨k, hk, rfl, H, hbr⟩ := hrel
      have hb := hx1.trans (hbr.mono hx1.size)
      by_cases hlt : k < 4
      · have hlt' : (k : Int) < 4 := by omega
        have hc0 := str_at (r1.below' hbr) k (by rw [HP.out]; exact hlt)
        obtain ⟨g', off, hgg, hc⟩ := hc0
        simp only [Option.some.injEq, Addr.mk.injEq] at hgg
        obtain ⟨rfl, rfl, -⟩ := hgg
        rw [Nat.zero_add] at hc
        have hlk := hle k hlt
        have HN := Lib.hid (fun (hp : octetB (P.getD k []) = true) => (fun j hj => by
          rcases Nat.lt_succ_iff_lt_or_eq.1 hj with h | rfl
          · exact H.out j h
          · exact hp : ∀ j, j < k + 1 → octetB (P.getD j []) = true))
        have HF := Lib.hid (HR.out k hlt)
        have hoc := octet_cases (P.getD k [])
        have hgw : g < wr.heap.size := Nat.lt_of_lt_of_le hg1 hbr.size
        clear hle
        generalize P.getD k [] = x at hc HN HF hoc hlk
        obtain ⟨X, hX⟩ : ∃ X, x.length = X := ⟨_, rfl⟩
        have hsz : (str x).size = X := by rw [str_size, hX]
        have HD := fun w => refDigitsC x X w hX (by unfold maxLen; omega)
        have HM := fun w => refNumberC x X w hX (by unfold maxLen; omega)
        rw [hX] at hoc
        clear hX hlk
        rcases hoc with ⟨o, h⟩ | ⟨h1, h3, o, h⟩ | ⟨h1, h3, hd, hn, ⟨o, h⟩ | ⟨hv, hi, o⟩⟩
        · have HF2 := Lib.hid (HF.out o)
          clear HN HF HD HM
          by_cases h1 : X < 1
          · have h1' : (X : Int) < 1 := by omega
            have h1d : decide ((X : Int) < 1) = true := decide_eq_true h1'
            go_wp2_with fail
            go_quiet (fail)
            go_wp2
            go_ret
            exact ⟨by rw [HF2.out]; rfl, below_draws hb _⟩
          · have h1' : ¬ (X : Int) < 1 := by omega
            have h3' : (3 : Int) < (X : Int) := by omega
            have h1d : decide ((X : Int) < 1) = false := decide_eq_false h1'
            have h3d : decide ((3 : Int) < (X : Int)) = true := decide_eq_true h3'
            go_wp2_with fail
            go_quiet (fail)
            go_wp2
            go_ret
            exact ⟨by rw [HF2.out]; rfl, below_draws hb _⟩
        · have HF2 := Lib.hid (HF.out o)
          clear HN HF HM
          have h1' : ¬ (X : Int) < 1 := by omega
          have h3' : ¬ (3 : Int) < (X : Int) := by omega
          have h1d : decide ((X : Int) < 1) = false := decide_eq_false h1'
          have h3d : decide ((3 : Int) < (X : Int)) = false := decide_eq_false h3'
          have hdd : (((lead x : Nat) : Int) != (X : Int)) = true := by simp; omega
          generalize lead x = d at *
          go_wp2_with fail
          go_quiet ((go_at_call 223; exact Calls.quiet_of_same ((HD _).mono fun e w' h => ⟨h.1, h.2.symm⟩)))
          go_wp2
          go_ret
          exact ⟨by rw [HF2.out]; rfl, below_draws hb _⟩
        · have HF2 := Lib.hid (HF.out o)
          clear HN HF
          have h1' : ¬ (X : Int) < 1 := by omega
          have h3' : ¬ (3 : Int) < (X : Int) := by omega
          have h1d : decide ((X : Int) < 1) = false := decide_eq_false h1'
          have h3d : decide ((3 : Int) < (X : Int)) = false := decide_eq_false h3'
          rw [hn] at HM
          rw [hd] at HD
          have hdd : ((X : Int) != (X : Int)) = false := by simp
          have hv' : (255 : Int) < (numV x : Int) := by omega
          have hvd : decide ((255 : Int) < (numV x : Int)) = true := decide_eq_true hv'
          generalize numV x = V at *
          clear hn hd
          go_wp2_with fail
          go_quiet ((go_at_call 223; exact Calls.quiet_of_same ((HD _).mono fun e w' h => ⟨h.1, h.2.symm⟩)))
          go_wp2_with (go_at_call 224; (with_reducible refine (HM _).mono ?_); rintro e w2 ⟨rfl, rfl⟩)
          go_quiet (fail)
          go_wp2
          go_ret
          exact ⟨by rw [HF2.out]; rfl, below_draws (below_draws hb _) _⟩
        · rw [o] at HF HN
          have HT := fun w => refTextC (numV x : Int) (by omega) (by omega) w
          rw [hi] at HT
          unfold GivesStr at HT
          have h1' : ¬ (X : Int) < 1 := by omega
          have h3' : ¬ (3 : Int) < (X : Int) := by omega
          have h1d : decide ((X : Int) < 1) = false := decide_eq_false h1'
          have h3d : decide ((3 : Int) < (X : Int)) = false := decide_eq_false h3'
          rw [hn] at HM
          rw [hd] at HD
          have hdd : ((X : Int) != (X : Int)) = false := by simp
          have hv' : ¬ (255 : Int) < (numV x : Int) := by omega
          have hvd : decide ((255 : Int) < (numV x : Int)) = false := decide_eq_false hv'
          generalize Lib.decDigits (numV x) = t at *
          generalize numV x = V at *
          have hk := str_toList
          clear hn hd hi o
          cases hq : (t == x) with
          | false =>
            have hq2 : (t != x) = true := by rw [bne, hq]; rfl
            have HF2 := Lib.hid (HF.out hq)
            clear HN HF
            go_wp2_with fail
            go_quiet ((go_at_call 223; exact Calls.quiet_of_same ((HD _).mono fun e w' h => ⟨h.1, h.2.symm⟩)))
            go_wp2_with (go_at_call 224; (with_reducible refine (HM _).mono ?_); rintro e w2 ⟨rfl, rfl⟩)
            refine wp_any (fun wd => Below w.heap.size w wd ∧ Below w1.heap.size w1 wd ∧ wd.cell? ⟨g, k, none⟩ = some (.string (str x)) ∧ g < wd.heap.size) ⟨below_draws hb _, below_draws hbr _, hc, hgw⟩ ?_
            clear hb hbr hc hgw
            rintro wd ⟨hb, hbr, hc, hgw⟩
            have hS0 : ∀ w', Below wd.heap.size wd w' → w'.cell? ⟨g, k, none⟩ = some (.string (str x)) := fun w' hx => (hx.cell hgw).trans hc
            have hdr : Below wd.heap.size wd wd.drew := (Below.refl _ wd).drew
            go_region_held3 (fun w' => w'.cell? ⟨g, k, none⟩ = some (.string (str x)))
              (first | exact hS0 _ hdr | exact hS0 _ (hdr.trans hx))
              (first | (go_at_call 225; (with_reducible refine (HT _).mono ?_); rintro e w3 ⟨rfl, hx⟩))
            all_goals
              go_wp2
              go_ret
              exact ⟨by rw [HF2.out]; rfl, hb.trans ((hdr.trans hx).mono hb.size)⟩
          | true =>
            have hq2 : (t != x) = false := by rw [bne, hq]; rfl
            have HN2 := Lib.hid (HN.out hq)
            clear HN HF
            go_wp2_with fail
            go_quiet ((go_at_call 223; exact Calls.quiet_of_same ((HD _).mono fun e w' h => ⟨h.1, h.2.symm⟩)))
            go_wp2_with (go_at_call 224; (with_reducible refine (HM _).mono ?_); rintro e w2 ⟨rfl, rfl⟩)
            refine wp_any (fun wd => Below w.heap.size w wd ∧ Below w1.heap.size w1 wd ∧ wd.cell? ⟨g, k, none⟩ = some (.string (str x)) ∧ g < wd.heap.size) ⟨below_draws hb _, below_draws hbr _, hc, hgw⟩ ?_
            clear hb hbr hc hgw
            rintro wd ⟨hb, hbr, hc, hgw⟩
            have hS0 : ∀ w', Below wd.heap.size wd w' → w'.cell? ⟨g, k, none⟩ = some (.string (str x)) := fun w' hx => (hx.cell hgw).trans hc
            have hdr : Below wd.heap.size wd wd.drew := (Below.refl _ wd).drew
            go_region_held3 (fun w' => w'.cell? ⟨g, k, none⟩ = some (.string (str x)))
              (first | exact hS0 _ hdr | exact hS0 _ (hdr.trans hx))
              (first | (go_at_call 225; (with_reducible refine (HT _).mono ?_); rintro e w3 ⟨rfl, hx⟩))
            all_goals
              go_wp2
              go_roundw
              case rel => exact ⟨k + 1, by omega, by go_num, HN2.out, hbr.trans ((hdr.trans hx).mono hbr.size)⟩
              case measure => simp [intOf]; omega
      · obtain rfl : k = 4 := by omega
        have HE := Lib.hid (HY.out H.out)
        clear hle
        go_wp2
        go_ret
        exact ⟨by rw [HE.out]; rfl, hb⟩
  · rw [decide_eq_false hN4]
    have hN4' : ((N : Int) != 4) = true := by simp; omega
    clear hN hle
    go_enter Tryz.func206, Tryz.ntmps206
    go_wp2_with (go_at_call 207; (with_reducible refine (HS _).mono ?_); rintro e w1 ⟨a1, c1, rfl, ho1, hx1⟩)
    go_ret
    exact ⟨rfl, hx1⟩
theorem mid_no {l : List UInt8} {p : UInt8 → Bool} {k : Nat} (h0 : 1 ≤ k) (hk : k < l.length - 1) (h : p (l.getD k 0) = false) : ((l.drop 1).take (l.length - 2)).all p = false := by
  refine all_no (k := k - 1) (by rw [List.length_take, List.length_drop]; omega) ?_
  have : ((l.drop 1).take (l.length - 2)).getD (k - 1) 0 = l.getD k 0 := by
    simp only [List.getD, List.getElem?_take, List.getElem?_drop]
    rw [if_pos (by omega)]
    congr 2
    omega
  rw [this]
  exact h
theorem mid_yes {l : List UInt8} {p : UInt8 → Bool} (h : ∀ j, 1 ≤ j → j < l.length - 1 → p (l.getD j 0) = true) : ((l.drop 1).take (l.length - 2)).all p = true := by
  refine all_yes fun j hj => ?_
  rw [List.length_take, List.length_drop] at hj
  have : ((l.drop 1).take (l.length - 2)).getD j 0 = l.getD (j + 1) 0 := by
    simp only [List.getD, List.getElem?_take, List.getElem?_drop]
    rw [if_pos (by omega)]
    congr 2
    omega
  rw [this]
  exact h (j + 1) (by omega) (by omega)
set_option maxRecDepth 100000 in
theorem refBracketC (l : List UInt8) (n : Nat) (w : World) (hl : l.length = n) (hm : n ≤ maxLen) :
    Calls Tryz.prog 209 #[.string (str l)] w fun e w' => e = .returned (.bool (bracketB l)) ∧ w = w' := by
  have hsz : (str l).size = n := by rw [str_size, hl]
  unfold maxLen at hm
  unfold bracketB
  have HR0 := fun k h0 h1 => mid_no (l := l) (p := hexB) (k := k) h0 h1
  have HY0 := @mid_yes l hexB
  rw [hl] at HR0 HY0 ⊢
  by_cases h1 : 4 ≤ n
  · have h1' : ¬ (n : Int) < 4 := by omega
    rw [decide_eq_true h1, Bool.true_and]
    by_cases h2 : n ≤ 47
    · have h2' : ¬ (47 : Int) < (n : Int) := by omega
      rw [decide_eq_true h2, Bool.true_and]
      have i0 := first_str (P := Tryz.prog) w 9 l Tryz.underlying9 (by rw [hl]; omega)
      have i1 := run_index_str (P := Tryz.prog) w 9 l .i64 (n - 1) Tryz.underlying9 (by rw [hl]; omega)
      have hm1 : (n : Int) - 1 = ((n - 1 : Nat) : Int) := by omega
      have hms : 0 ≤ ((n - 1 : Nat) : Int) := by omega
      have hms2 : ((n - 1 : Nat) : Int) < (n : Int) := by omega
      have HL := Lib.hid hl
      clear hl
      obtain ⟨b0, e0, f0⟩ : ∃ b0, (((l.getD 0 0).toNat : Int) == 91) = b0 ∧ (l.getD 0 0 == 91) = b0 := ⟨_, rfl, u8_is _ 91 (by omega)⟩
      obtain ⟨b1, e1, f1⟩ : ∃ b1, (((l.getD (n - 1) 0).toNat : Int) == 93) = b1 ∧ (l.getD (n - 1) 0 == 93) = b1 := ⟨_, rfl, u8_is _ 93 (by omega)⟩
      rw [f0, f1]
      clear f0 f1
      have HR := Lib.hid HR0
      have HY := Lib.hid HY0
      clear HR0 HY0
      generalize (l.getD 0 0).toNat = c0 at *
      generalize (l.getD (n - 1) 0).toNat = c1 at *
      generalize ((l.drop 1).take (n - 2)).all hexB = R at *
      have n0 : ((c0 : Int) != 91) = !b0 := by rw [bne, e0]
      have n1 : ((c1 : Int) != 93) = !b1 := by rw [bne, e1]
      cases b0
      · clear HR HY
        rw [Bool.not_false] at n0
        go_enter Tryz.func209, Tryz.ntmps209
        go_wp2
        go_ret
        exact ⟨rfl, rfl⟩
      · rw [Bool.not_true] at n0
        cases b1
        · clear HR HY
          rw [Bool.not_false] at n1
          generalize n - 1 = m at *
          go_enter Tryz.func209, Tryz.ntmps209
          go_wp2
          go_ret
          exact ⟨by simp, rfl⟩
        · rw [Bool.not_true] at n1
          obtain ⟨m, hm⟩ : ∃ m, n - 1 = m := ⟨_, rfl⟩
          rw [hm] at HR HY i1 hm1 hms hms2
          go_enter Tryz.func209, Tryz.ntmps209
          go_wp2
          clear i0 i1 e0 e1 n0 n1
          go_loopw [3, 4] (fun i _ wr => ∃ k : Nat, 1 ≤ k ∧ k ≤ m ∧ i = .int .i64 (k : Int) ∧ Hid (∀ j, 1 ≤ j → j < k → hexB (l.getD j 0) = true) ∧ w = wr) (fun i _ _ => m - (intOf i).toNat)
          case atStart => exact ⟨1, by omega, by omega, rfl, fun j hj hj2 => absurd hj (by omega), rfl⟩
          case round =>
            obtain ⟨k, hk0, hk, rfl, H, rfl⟩ := hrel
            by_cases hlt : k < m
            · have hlt' : (k : Int) < (m : Int) := by omega
              have hlt2 : (k : Int) < (n : Int) := by omega
              have hi := run_index_str (P := Tryz.prog) w 9 l .i64 k Tryz.underlying9 (by rw [HL.out]; omega)
              have HN := Lib.hid (fun (hp : hexB (l.getD k 0) = true) => (fun j hj0 hj => by
                rcases Nat.lt_succ_iff_lt_or_eq.1 hj with h | rfl
                · exact H.out j hj0 h
                · exact hp : ∀ j, 1 ≤ j → j < k + 1 → hexB (l.getD j 0) = true))
              have HF := Lib.hid (HR.out k hk0 hlt)
              have hxl := u8_lt (l.getD k 0)
              clear HR HY
              obtain ⟨t, ht, hT⟩ : ∃ t, hexB (l.getD k 0) = t ∧ Hid (t = ((decide (48 ≤ (l.getD k 0).toNat) && decide ((l.getD k 0).toNat ≤ 57)) || (decide (97 ≤ (l.getD k 0).toNat) && decide ((l.getD k 0).toNat ≤ 102)) || decide ((l.getD k 0).toNat = 58) || decide ((l.getD k 0).toNat = 46))) := ⟨_, rfl, rfl⟩
              rw [ht] at HF HN
              clear ht
              generalize (l.getD k 0).toNat = x at *
              -- BEGIN hex
              rcases (show (x = 58) ∨ (x = 46) ∨ (48 ≤ x ∧ x ≤ 57) ∨ (97 ≤ x ∧ x ≤ 102) ∨ (x < 48 ∧ x ≠ 46) ∨ (58 < x ∧ x < 97) ∨ (102 < x) by omega) with h | h | h | h | h | h | h
              · obtain rfl : t = true := by rw [hT.out]; simp; omega
                have e58 : ((x : Int) == 58) = true := by rw [beq_iff_eq]; omega
                have e46 : ((x : Int) == 46) = false := by rw [beq_eq_false_iff_ne]; omega
                have g48 : (48 : Int) ≤ x := by omega
                have p48 : decide ((48 : Int) ≤ x) = true := decide_eq_true g48
                have g97 : ¬ (97 : Int) ≤ x := by omega
                have p97 : decide ((97 : Int) ≤ x) = false := decide_eq_false g97
                have l57 : ¬ (x : Int) ≤ 57 := by omega
                have q57 : decide ((x : Int) ≤ 57) = false := decide_eq_false l57
                have l102 : (x : Int) ≤ 102 := by omega
                have q102 : decide ((x : Int) ≤ 102) = true := decide_eq_true l102
                have HN2 := Lib.hid (HN.out rfl)
                clear HN HF hT
                go_wp2
                go_roundw
                case rel => exact ⟨k + 1, by omega, by omega, by go_num, HN2.out, by first | rfl | trivial⟩
                case measure => simp [intOf]; omega
              · obtain rfl : t = true := by rw [hT.out]; simp; omega
                have e58 : ((x : Int) == 58) = false := by rw [beq_eq_false_iff_ne]; omega
                have e46 : ((x : Int) == 46) = true := by rw [beq_iff_eq]; omega
                have g48 : ¬ (48 : Int) ≤ x := by omega
                have p48 : decide ((48 : Int) ≤ x) = false := decide_eq_false g48
                have g97 : ¬ (97 : Int) ≤ x := by omega
                have p97 : decide ((97 : Int) ≤ x) = false := decide_eq_false g97
                have l57 : (x : Int) ≤ 57 := by omega
                have q57 : decide ((x : Int) ≤ 57) = true := decide_eq_true l57
                have l102 : (x : Int) ≤ 102 := by omega
                have q102 : decide ((x : Int) ≤ 102) = true := decide_eq_true l102
                have HN2 := Lib.hid (HN.out rfl)
                clear HN HF hT
                go_wp2
                go_roundw
                case rel => exact ⟨k + 1, by omega, by omega, by go_num, HN2.out, by first | rfl | trivial⟩
                case measure => simp [intOf]; omega
              · obtain rfl : t = true := by rw [hT.out]; simp; omega
                have e58 : ((x : Int) == 58) = false := by rw [beq_eq_false_iff_ne]; omega
                have e46 : ((x : Int) == 46) = false := by rw [beq_eq_false_iff_ne]; omega
                have g48 : (48 : Int) ≤ x := by omega
                have p48 : decide ((48 : Int) ≤ x) = true := decide_eq_true g48
                have g97 : ¬ (97 : Int) ≤ x := by omega
                have p97 : decide ((97 : Int) ≤ x) = false := decide_eq_false g97
                have l57 : (x : Int) ≤ 57 := by omega
                have q57 : decide ((x : Int) ≤ 57) = true := decide_eq_true l57
                have l102 : (x : Int) ≤ 102 := by omega
                have q102 : decide ((x : Int) ≤ 102) = true := decide_eq_true l102
                have HN2 := Lib.hid (HN.out rfl)
                clear HN HF hT
                go_wp2
                go_roundw
                case rel => exact ⟨k + 1, by omega, by omega, by go_num, HN2.out, by first | rfl | trivial⟩
                case measure => simp [intOf]; omega
              · obtain rfl : t = true := by rw [hT.out]; simp; omega
                have e58 : ((x : Int) == 58) = false := by rw [beq_eq_false_iff_ne]; omega
                have e46 : ((x : Int) == 46) = false := by rw [beq_eq_false_iff_ne]; omega
                have g48 : (48 : Int) ≤ x := by omega
                have p48 : decide ((48 : Int) ≤ x) = true := decide_eq_true g48
                have g97 : (97 : Int) ≤ x := by omega
                have p97 : decide ((97 : Int) ≤ x) = true := decide_eq_true g97
                have l57 : ¬ (x : Int) ≤ 57 := by omega
                have q57 : decide ((x : Int) ≤ 57) = false := decide_eq_false l57
                have l102 : (x : Int) ≤ 102 := by omega
                have q102 : decide ((x : Int) ≤ 102) = true := decide_eq_true l102
                have HN2 := Lib.hid (HN.out rfl)
                clear HN HF hT
                go_wp2
                go_roundw
                case rel => exact ⟨k + 1, by omega, by omega, by go_num, HN2.out, by first | rfl | trivial⟩
                case measure => simp [intOf]; omega
              · obtain rfl : t = false := by rw [hT.out]; simp; omega
                have e58 : ((x : Int) == 58) = false := by rw [beq_eq_false_iff_ne]; omega
                have e46 : ((x : Int) == 46) = false := by rw [beq_eq_false_iff_ne]; omega
                have g48 : ¬ (48 : Int) ≤ x := by omega
                have p48 : decide ((48 : Int) ≤ x) = false := decide_eq_false g48
                have g97 : ¬ (97 : Int) ≤ x := by omega
                have p97 : decide ((97 : Int) ≤ x) = false := decide_eq_false g97
                have l57 : (x : Int) ≤ 57 := by omega
                have q57 : decide ((x : Int) ≤ 57) = true := decide_eq_true l57
                have l102 : (x : Int) ≤ 102 := by omega
                have q102 : decide ((x : Int) ≤ 102) = true := decide_eq_true l102
                have HF2 := Lib.hid (HF.out rfl)
                clear HN HF hT
                go_wp2
                go_ret
                exact ⟨by rw [HF2.out]; rfl, rfl⟩
              · obtain rfl : t = false := by rw [hT.out]; simp; omega
                have e58 : ((x : Int) == 58) = false := by rw [beq_eq_false_iff_ne]; omega
                have e46 : ((x : Int) == 46) = false := by rw [beq_eq_false_iff_ne]; omega
                have g48 : (48 : Int) ≤ x := by omega
                have p48 : decide ((48 : Int) ≤ x) = true := decide_eq_true g48
                have g97 : ¬ (97 : Int) ≤ x := by omega
                have p97 : decide ((97 : Int) ≤ x) = false := decide_eq_false g97
                have l57 : ¬ (x : Int) ≤ 57 := by omega
                have q57 : decide ((x : Int) ≤ 57) = false := decide_eq_false l57
                have l102 : (x : Int) ≤ 102 := by omega
                have q102 : decide ((x : Int) ≤ 102) = true := decide_eq_true l102
                have HF2 := Lib.hid (HF.out rfl)
                clear HN HF hT
                go_wp2
                go_ret
                exact ⟨by rw [HF2.out]; rfl, rfl⟩
              · obtain rfl : t = false := by rw [hT.out]; simp; omega
                have e58 : ((x : Int) == 58) = false := by rw [beq_eq_false_iff_ne]; omega
                have e46 : ((x : Int) == 46) = false := by rw [beq_eq_false_iff_ne]; omega
                have g48 : (48 : Int) ≤ x := by omega
                have p48 : decide ((48 : Int) ≤ x) = true := decide_eq_true g48
                have g97 : (97 : Int) ≤ x := by omega
                have p97 : decide ((97 : Int) ≤ x) = true := decide_eq_true g97
                have l57 : ¬ (x : Int) ≤ 57 := by omega
                have q57 : decide ((x : Int) ≤ 57) = false := decide_eq_false l57
                have l102 : ¬ (x : Int) ≤ 102 := by omega
                have q102 : decide ((x : Int) ≤ 102) = false := decide_eq_false l102
                have HF2 := Lib.hid (HF.out rfl)
                clear HN HF hT
                go_wp2
                go_ret
                exact ⟨by rw [HF2.out]; rfl, rfl⟩
              -- END hex
            · obtain rfl : k = m := by omega
              have HE := Lib.hid (HY.out H.out)
              have hge : ¬ (k : Int) < (k : Int) := by omega
              go_wp2
              go_ret
              exact ⟨by rw [HE.out]; rfl, rfl⟩
    · have h2' : (47 : Int) < (n : Int) := by omega
      rw [decide_eq_false h2]
      clear hl HR0 HY0
      go_enter Tryz.func209, Tryz.ntmps209
      go_wp2
      go_ret
      exact ⟨by simp, rfl⟩
  · have h1' : (n : Int) < 4 := by omega
    rw [decide_eq_false h1]
    clear hl HR0 HY0
    go_enter Tryz.func209, Tryz.ntmps209
    go_wp2
    go_ret
    exact ⟨by simp, rfl⟩
set_option maxRecDepth 100000 in
theorem refAddressC (l : List UInt8) (n : Nat) (w : World) (hl : l.length = n) (hm : n ≤ 1000000000000) :
    Calls Tryz.prog 179 #[.string (str l)] w fun e w' => e = .returned (.bool (addrB l)) ∧ Below w.heap.size w w' := by
  have hb := Below.refl w.heap.size w
  have HF := fun w => refFourC l n w hl hm
  have HB := fun w => refBracketC l n w hl (by unfold maxLen; omega)
  unfold addrB
  generalize quadB l = a at *
  generalize bracketB l = b at *
  clear hl
  cases a <;> cases b
  all_goals (
    go_enter Tryz.func179, Tryz.ntmps179
    go_wp2_with (first
      | (go_at_call 206; (with_reducible refine (HF _).mono ?_); rintro e w1 ⟨rfl, hx⟩; have hb := hb.trans (hx.mono hb.size); clear hx)
      | (go_at_call 209; (with_reducible refine (HB _).mono ?_); rintro e w1 ⟨rfl, rfl⟩))
    go_ret
    exact ⟨rfl, hb⟩)
set_option maxRecDepth 100000 in
theorem refNameC (l : List UInt8) (n : Nat) (w : World) (hl : l.length = n) (hm : n ≤ maxLen) :
    Calls Tryz.prog 178 #[.string (str l)] w fun e w' => e = .returned (.bool (nameB l)) ∧ Below w.heap.size w w' := by
  have hb := Below.refl w.heap.size w
  have hsz : (str l).size = n := by rw [str_size, hl]
  unfold nameB
  rw [hl]
  by_cases h : 256 < n
  · have h' : (256 : Int) < (n : Int) := by omega
    rw [decide_eq_false (show ¬ n ≤ 256 by omega)]
    clear hl
    go_enter Tryz.func178, Tryz.ntmps178
    go_wp2
    go_ret
    exact ⟨rfl, hb⟩
  · have h' : ¬ (256 : Int) < (n : Int) := by omega
    rw [decide_eq_true (show n ≤ 256 by omega), Bool.true_and]
    have HF := fun w => refFourC l n w hl (by omega)
    have HS := fun w => refSplitDotC l n w hl (by omega)
    unfold GivesStrs at HS
    generalize quadB l = q at *
    cases q with
    | true =>
      clear HS hl
      go_enter Tryz.func178, Tryz.ntmps178
      go_wp2_with (go_at_call 206; (with_reducible refine (HF _).mono ?_); rintro e w1 ⟨rfl, hx⟩; have hb := hb.trans (hx.mono hb.size); clear hx)
      go_ret
      exact ⟨rfl, hb⟩
    | false =>
      rw [Bool.not_false, Bool.true_and]
      have hle := fun k hk => part_le l 46 k hk
      have hNn := splitL_le l 46
      rw [hl] at hle hNn
      generalize splitL l 46 = P at *
      obtain ⟨N, hN⟩ : ∃ N, P.length = N := ⟨_, rfl⟩
      rw [hN] at HS hle hNn
      have HP := Lib.hid hN
      have HR : Hid (∀ k, k < N → labelB (P.getD k []) = false → P.all labelB = false) := fun k hk h => all_no' (by rw [HP.out]; exact hk) h
      have HY : Hid ((∀ j, j < N → labelB (P.getD j []) = true) → P.all labelB = true) := fun h => all_yes' (by rw [HP.out]; exact h)
      generalize P.all labelB = R at *
      clear hN hl
      go_enter Tryz.func178, Tryz.ntmps178
      go_wp2_with (first
        | (go_at_call 206; (with_reducible refine (HF _).mono ?_); rintro e w1 ⟨rfl, hx⟩; have hb := hb.trans (hx.mono hb.size); clear hx)
        | (go_at_call 207; (with_reducible refine (HS _).mono ?_); rintro e w2 ⟨a1, c1, rfl, ho1, hx1⟩; have hb := hb.trans (hx1.mono hb.size)))
      have r1 := ho1.reads
      clear HS ho1 HF hx1
      go_loopw [4] (fun i wr => ∃ k : Nat, k ≤ N ∧ i = .int .i64 (k : Int) ∧ Hid (∀ j, j < k → labelB (P.getD j []) = true) ∧ Below w2.heap.size w2 wr) (fun i _ => N - (intOf i).toNat)
      case atStart => exact ⟨0, Nat.zero_le _, rfl, fun j hj => absurd hj (by omega), Below.refl _ _⟩
      case round =>
        obtain ⟨k, hk, rfl, H, hbr⟩ := hrel
        have hb2 := hb.trans (hbr.mono hb.size)
        by_cases hlt : k < N
        · have hlt' : (k : Int) < (N : Int) := by omega
          obtain ⟨g, off, rfl, hc⟩ := str_at (r1.below' hbr) k (by rw [HP.out]; exact hlt)
          have hlk := hle k hlt
          have HN := Lib.hid (fun (hp : labelB (P.getD k []) = true) => (fun j hj => by
            rcases Nat.lt_succ_iff_lt_or_eq.1 hj with h | rfl
            · exact H.out j h
            · exact hp : ∀ j, j < k + 1 → labelB (P.getD j []) = true))
          have HF := Lib.hid (HR.out k hlt)
          have HC := fun w => refLabelC (P.getD k []) _ w rfl (by unfold maxLen; omega)
          clear hle
          generalize labelB (P.getD k []) = t at *
          generalize P.getD k [] = x at hc HC
          cases t
          · have HF2 := Lib.hid (HF.out rfl)
            clear HN HF
            go_wp2_with (go_at_call 208; (with_reducible refine (HC _).mono ?_); rintro e w3 ⟨rfl, rfl⟩)
            go_ret
            exact ⟨by rw [HF2.out]; rfl, hb2⟩
          · have HN2 := Lib.hid (HN.out rfl)
            clear HN HF
            go_wp2_with (go_at_call 208; (with_reducible refine (HC _).mono ?_); rintro e w3 ⟨rfl, rfl⟩)
            go_roundw
            case rel => exact ⟨k + 1, by omega, by go_num, HN2.out, hbr⟩
            case measure => simp [intOf]; omega
        · obtain rfl : k = N := by omega
          have HE := Lib.hid (HY.out H.out)
          clear hle
          go_wp2
          go_ret
          exact ⟨by rw [HE.out]; rfl, hb2⟩
set_option maxRecDepth 100000 in
theorem refCanonC (l : List UInt8) (n : Nat) (w : World) (hl : l.length = n) (hm : n ≤ maxLen) :
    Calls Tryz.prog 146 #[.string (str l)] w fun e w' => e = .returned (.bool (canonB l)) ∧ Below w.heap.size w w' := by
  have hb := Below.refl w.heap.size w
  have hsz : (str l).size = n := by rw [str_size, hl]
  unfold canonB
  rw [hl]
  by_cases h : n ≤ 256
  · have h' : (n : Int) ≤ 256 := by omega
    rw [decide_eq_true h, Bool.true_and]
    have HN := fun w => refNameC l n w hl hm
    have HA := fun w => refAddressC l n w hl (by omega)
    generalize nameB l = a at *
    generalize addrB l = b at *
    clear hl
    cases a <;> cases b
    all_goals (
      go_enter Tryz.func146, Tryz.ntmps146
      go_wp2_with (first
        | (go_at_call 178; (with_reducible refine (HN _).mono ?_); rintro e w1 ⟨rfl, hx⟩; have hb := hb.trans (hx.mono hb.size); clear hx)
        | (go_at_call 179; (with_reducible refine (HA _).mono ?_); rintro e w1 ⟨rfl, hx⟩; have hb := hb.trans (hx.mono hb.size); clear hx))
      go_ret
      exact ⟨rfl, hb⟩)
  · have h' : ¬ (n : Int) ≤ 256 := by omega
    rw [decide_eq_false h]
    clear hl
    go_enter Tryz.func146, Tryz.ntmps146
    go_wp2
    go_ret
    exact ⟨rfl, hb⟩
end Go.Proofs.YtaodjnkjjmhecaaGreatDoor
