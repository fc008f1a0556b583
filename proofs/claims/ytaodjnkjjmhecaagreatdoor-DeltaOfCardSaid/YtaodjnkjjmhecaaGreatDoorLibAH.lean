/- Contracts and plain words that the laws' proofs stand on. -/
import Derived.Test.YtaodjnkjjmhecaaGreatDoorShort
import Derived.Test.YtaodjnkjjmhecaaGreatDoorLibAE
import Derived.Test.YtaodjnkjjmhecaaGreatDoorLibAJ
namespace Go.Proofs.YtaodjnkjjmhecaaGreatDoor
set_option linter.unusedVariables false
theorem sameE_iff {a b : EventN} : sameE a b = true ↔ a = b := by
  unfold sameE
  simp only [Bool.and_eq_true]
  constructor
  · rintro ⟨h1, h2, h3, h4, h5, h6⟩
    have e1 := sameD_iff.1 h1
    have e2 := sameT_iff.1 h2
    have e3 := sameKC_iff.1 (by rw [h4, h5]; rfl)
    have e4 := sameDs_iff.1 h6
    have e5 : a.kind = b.kind := by simpa using h3
    cases a; cases b
    simp only at e1 e2 e3 e4 e5
    subst e1 e2 e3 e4 e5
    rfl
  · rintro rfl
    have h := sameKC_iff.2 (rfl : a.item = a.item)
    rw [Bool.and_eq_true] at h
    exact ⟨sameD_iff.2 rfl, sameT_iff.2 rfl, by simp, h.1, h.2, sameDs_iff.2 rfl⟩
end Go.Proofs.YtaodjnkjjmhecaaGreatDoor
namespace Go.Proofs.YtaodjnkjjmhecaaGreatDoor
open Go.RowKit
set_option linter.unusedVariables false
def sameAllE : List EventN → List EventN → Bool
  | [], [] => true
  | x :: l, y :: m => sameE x y && sameAllE l m
  | _, _ => false
theorem sameAllE_iff : ∀ {l m : List EventN}, sameAllE l m = true ↔ l = m
  | [], [] => by simp [sameAllE]
  | [], y :: m => by simp [sameAllE]
  | x :: l, [] => by simp [sameAllE]
  | x :: l, y :: m => by
    unfold sameAllE
    rw [Bool.and_eq_true, sameE_iff, sameAllE_iff, List.cons.injEq]
theorem sameAll_step {l m : List EventN} {k : Nat} {x y : EventN} (hx : l[k]? = some x) (hy : m[k]? = some y) (ht : l.take k = m.take k) : (sameE x y = true → l.take (k + 1) = m.take (k + 1)) ∧ (sameE x y = false → ¬ l = m) := by
  obtain ⟨h1, rfl⟩ := List.getElem?_eq_some_iff.1 hx
  obtain ⟨h2, rfl⟩ := List.getElem?_eq_some_iff.1 hy
  constructor
  · intro h
    rw [List.take_succ_eq_append_getElem h1, List.take_succ_eq_append_getElem h2, ht, sameE_iff.1 h]
  · intro h c
    subst c
    rw [sameE_iff.2 rfl] at h
    cases h
end Go.Proofs.YtaodjnkjjmhecaaGreatDoor
namespace Go.Proofs.YtaodjnkjjmhecaaGreatDoor
open Go.RowKit
set_option linter.unusedVariables false
set_option linter.unusedSimpArgs false
set_option maxHeartbeats 2000000 in
set_option maxRecDepth 100000 in
theorem refSameAllC (a b : Option Addr) (n m c d : Nat) (L M : List EventN) (w : World) (hL : RowE w a n c L) (hM : RowE w b m d M) :
    Calls Tryz.prog 32 #[.slice a n c, .slice b m d] w fun en w' => en = .returned (.bool (sameAllE L M)) ∧ Below w.heap.size w w' := by
  obtain ⟨hcl, hcm⟩ := hL.caps
  obtain ⟨hcl2, hcm2⟩ := hM.caps
  unfold maxLen at hcm hcm2
  have hb0 := Below.refl w.heap.size w
  have hlq := hL.leq
  have hmq := hM.leq
  by_cases h : n = m
  · subst h
    have HL := Lib.hid hL
    have HM := Lib.hid hM
    have HQ := Lib.hid (And.intro hlq hmq)
    clear hL hM hlq hmq
    go_enter Tryz.func32, Tryz.ntmps32
    go_wp2
    go_loopw [5] (fun i wr => ∃ k : Nat, k ≤ n ∧ i = .int .i64 (k : Int) ∧ Hid (L.take k = M.take k) ∧ Below w.heap.size w wr) (fun i _ => n - (intOf i).toNat)
    case atStart => exact ⟨0, Nat.zero_le _, rfl, rfl, hb0⟩
    case round =>
      clear hb0
      obtain ⟨k, hk, rfl, ht, hb⟩ := hrel
      by_cases hlt : k < n
      · have hlt' : (k : Int) < (n : Int) := by omega
        have i1 : (0 : Int) ≤ (k : Int) := by omega
        obtain ⟨x, g1, f1, A, e1, rfl, hA, cA, rA, kA⟩ := ev_at (HL.out.below hb) k hlt
        obtain ⟨y, g2, f2, B, e2, rfl, hB, cB, rB, kB⟩ := ev_at (HM.out.below hb) k hlt
        have hst := sameAll_step e1 e2 ht.out
        have HSM := fun v (hv : Below wr.heap.size wr v) => refESameC x.e y.e x.a y.a x.e.over.length x.c y.e.over.length y.c v (rA.below hv) (rB.below hv)
        have zA : A.size = 19 := by rw [← hA]; rfl
        have zB : B.size = 19 := by rw [← hB]; rfl
        have eA : (#[.int .i64 x.e.dot.dev, .int .i64 x.e.dot.inc, .int .i64 x.e.dot.seq, .int .i64 x.e.stamp.wall, .int .i64 x.e.stamp.count, .int .i64 x.e.stamp.dev, .int .i64 x.e.kind, .string (str x.e.item.name), .string (str x.e.item.dom), .string (str x.e.item.path), .string (str x.e.item.val), .bool x.e.item.host, .bool x.e.item.sec, .bool x.e.item.http, .bool x.e.item.pers, .int .i64 x.e.item.exp, .int .i64 x.e.item.made, .int .i64 x.e.item.used, .slice x.a x.e.over.length x.c] : Array Value) = A := hA
        have eB : (#[.int .i64 y.e.dot.dev, .int .i64 y.e.dot.inc, .int .i64 y.e.dot.seq, .int .i64 y.e.stamp.wall, .int .i64 y.e.stamp.count, .int .i64 y.e.stamp.dev, .int .i64 y.e.kind, .string (str y.e.item.name), .string (str y.e.item.dom), .string (str y.e.item.path), .string (str y.e.item.val), .bool y.e.item.host, .bool y.e.item.sec, .bool y.e.item.http, .bool y.e.item.pers, .int .i64 y.e.item.exp, .int .i64 y.e.item.made, .int .i64 y.e.item.used, .slice y.a y.e.over.length y.c] : Array Value) = B := hB
        rw [eA, eB] at HSM
        have hB1 : Below wr.heap.size wr wr.drew := (Below.refl _ wr).drew
        have HST := Lib.hid hst
        generalize sameE x.e y.e = T at *
        clear eA eB hA hB cA cB rA rB e1 e2 hst
        go_wp2_with fail
        cases T with
        | true =>
          have HN := Lib.hid (HST.out.1 rfl)
          clear HST ht
          refine wp_region_held_drew (S := fun w' => CellsAt w' g1 (f1 + k * 19) A.toList ∧ CellsAt w' g2 (f2 + k * 19) B.toList) (by kernel_rfl) (⟨kA _ hB1, kB _ hB1⟩) (fun hHeld => ?_)
          first | (refine tR (i := 0) rfl rfl ?_) | (refine tL (i := 0) (v := ?vb1) rfl ?hyb1 ?rb1; case hyb1 => (rintro w' hS; go_simp; try with_reducible rfl))
          try simp only [gA, gB, Act.put, gD, gE, gF]
          first | (refine tR (i := 1) rfl rfl ?_) | (refine tL (i := 1) (v := ?vb2) rfl ?hyb2 ?rb2; case hyb2 => (rintro w' hS; go_simp; try with_reducible rfl))
          try simp only [gA, gB, gC, Act.put, gD, gE, gF]
          first | (refine tR (i := 2) rfl rfl ?_) | (refine tL (i := 2) (v := ?vb3) rfl ?hyb3 ?rb3; case hyb3 => (rintro w' hS; go_simp; try with_reducible rfl))
          try simp only [gA, gB, gC, Act.put, gD, gE, gF]
          refine wpAnyH_take (i := 3) rfl (by kernel_rfl) (by kernel_rfl) (by kernel_rfl) (fun _ _ _ h => h) (Or.inl ⟨by rfl, fun w' hS => execLoadRow 43 _ rfl g1 (f1 + k * 19) 19 A rfl hS.1 Tryz.isAgg43 Tryz.sizeOf43 zA⟩) (by assumption) ?_
          try simp only [gA, gB, gC, Act.put, gD, gE, gF]
          first | (refine tR (i := 4) rfl rfl ?_) | (refine tL (i := 4) (v := ?vb4) rfl ?hyb4 ?rb4; case hyb4 => (rintro w' hS; go_simp; try with_reducible rfl))
          try simp only [gA, gB, gC, Act.put, gD, gE, gF]
          first | (refine tR (i := 5) rfl rfl ?_) | (refine tL (i := 5) (v := ?vb5) rfl ?hyb5 ?rb5; case hyb5 => (rintro w' hS; go_simp; try with_reducible rfl))
          try simp only [gA, gB, gC, Act.put, gD, gE, gF]
          first | (refine tR (i := 6) rfl rfl ?_) | (refine tL (i := 6) (v := ?vb6) rfl ?hyb6 ?rb6; case hyb6 => (rintro w' hS; go_simp; try with_reducible rfl))
          try simp only [gA, gB, gC, Act.put, gD, gE, gF]
          refine wpAnyH_take (i := 7) rfl (by kernel_rfl) (by kernel_rfl) (by kernel_rfl) (fun _ _ _ h => h) (Or.inl ⟨by rfl, fun w' hS => execLoadRow 43 _ rfl g2 (f2 + k * 19) 19 B rfl hS.2 Tryz.isAgg43 Tryz.sizeOf43 zB⟩) (by assumption) ?_
          try simp only [gA, gB, gC, Act.put, gD, gE, gF]
          refine wpAnyH_ready (rs := [8]) (by kernel_rfl) (by simp) ?_
          refine AllReadyH.cons (o := _) rfl (fun K hK => ?_) AllReadyH.nil
          go_simp
          go_at_call 35; (with_reducible refine (HSM _ hB1).mono ?_); rintro ex wx ⟨rfl, hx⟩; have hB1 := hB1.trans (hx.mono hB1.size); clear hx
          dsimp only
          refine hK.out _ _ (⟨kA _ hB1, kB _ hB1⟩) (fun hHeld => ?_)
          clear hK K
          try simp only [gA, gB, gC, Act.put, gD, gE, gF]
          first | (refine tR (i := 9) rfl rfl ?_) | (refine tL (i := 9) (v := ?vb7) rfl ?hyb7 ?rb7; case hyb7 => (rintro w' hS; go_simp; try with_reducible rfl))
          try simp only [gA, gB, gC, Act.put, gD, gE, gF]
          refine wpAnyH_done (by kernel_rfl) ?_ _
          go_wp2
          go_roundw
          case rel => exact ⟨k + 1, by omega, by go_num, HN, hb.trans (hB1.mono hb.size)⟩
          case measure => simp [intOf]; omega
        | false =>
          have HN := Lib.hid (HST.out.2 rfl)
          have hfa : Hid (sameAllE L M = false) := by
            unfold Hid
            rw [Bool.eq_false_iff]
            intro c
            exact HN.out (sameAllE_iff.1 c)
          clear HST ht HN
          refine wp_region_held_drew (S := fun w' => CellsAt w' g1 (f1 + k * 19) A.toList ∧ CellsAt w' g2 (f2 + k * 19) B.toList) (by kernel_rfl) (⟨kA _ hB1, kB _ hB1⟩) (fun hHeld => ?_)
          first | (refine tR (i := 0) rfl rfl ?_) | (refine tL (i := 0) (v := ?vb8) rfl ?hyb8 ?rb8; case hyb8 => (rintro w' hS; go_simp; try with_reducible rfl))
          try simp only [gA, gB, Act.put, gD, gE, gF]
          first | (refine tR (i := 1) rfl rfl ?_) | (refine tL (i := 1) (v := ?vb9) rfl ?hyb9 ?rb9; case hyb9 => (rintro w' hS; go_simp; try with_reducible rfl))
          try simp only [gA, gB, gC, Act.put, gD, gE, gF]
          first | (refine tR (i := 2) rfl rfl ?_) | (refine tL (i := 2) (v := ?vb10) rfl ?hyb10 ?rb10; case hyb10 => (rintro w' hS; go_simp; try with_reducible rfl))
          try simp only [gA, gB, gC, Act.put, gD, gE, gF]
          refine wpAnyH_take (i := 3) rfl (by kernel_rfl) (by kernel_rfl) (by kernel_rfl) (fun _ _ _ h => h) (Or.inl ⟨by rfl, fun w' hS => execLoadRow 43 _ rfl g1 (f1 + k * 19) 19 A rfl hS.1 Tryz.isAgg43 Tryz.sizeOf43 zA⟩) (by assumption) ?_
          try simp only [gA, gB, gC, Act.put, gD, gE, gF]
          first | (refine tR (i := 4) rfl rfl ?_) | (refine tL (i := 4) (v := ?vb11) rfl ?hyb11 ?rb11; case hyb11 => (rintro w' hS; go_simp; try with_reducible rfl))
          try simp only [gA, gB, gC, Act.put, gD, gE, gF]
          first | (refine tR (i := 5) rfl rfl ?_) | (refine tL (i := 5) (v := ?vb12) rfl ?hyb12 ?rb12; case hyb12 => (rintro w' hS; go_simp; try with_reducible rfl))
          try simp only [gA, gB, gC, Act.put, gD, gE, gF]
          first | (refine tR (i := 6) rfl rfl ?_) | (refine tL (i := 6) (v := ?vb13) rfl ?hyb13 ?rb13; case hyb13 => (rintro w' hS; go_simp; try with_reducible rfl))
          try simp only [gA, gB, gC, Act.put, gD, gE, gF]
          refine wpAnyH_take (i := 7) rfl (by kernel_rfl) (by kernel_rfl) (by kernel_rfl) (fun _ _ _ h => h) (Or.inl ⟨by rfl, fun w' hS => execLoadRow 43 _ rfl g2 (f2 + k * 19) 19 B rfl hS.2 Tryz.isAgg43 Tryz.sizeOf43 zB⟩) (by assumption) ?_
          try simp only [gA, gB, gC, Act.put, gD, gE, gF]
          refine wpAnyH_ready (rs := [8]) (by kernel_rfl) (by simp) ?_
          refine AllReadyH.cons (o := _) rfl (fun K hK => ?_) AllReadyH.nil
          go_simp
          go_at_call 35; (with_reducible refine (HSM _ hB1).mono ?_); rintro ex wx ⟨rfl, hx⟩; have hB1 := hB1.trans (hx.mono hB1.size); clear hx
          dsimp only
          refine hK.out _ _ (⟨kA _ hB1, kB _ hB1⟩) (fun hHeld => ?_)
          clear hK K
          try simp only [gA, gB, gC, Act.put, gD, gE, gF]
          first | (refine tR (i := 9) rfl rfl ?_) | (refine tL (i := 9) (v := ?vb14) rfl ?hyb14 ?rb14; case hyb14 => (rintro w' hS; go_simp; try with_reducible rfl))
          try simp only [gA, gB, gC, Act.put, gD, gE, gF]
          refine wpAnyH_done (by kernel_rfl) ?_ _
          go_wp2
          go_ret
          exact ⟨by rw [hfa.out]; rfl, hb.trans (hB1.mono hb.size)⟩
      · obtain rfl : k = n := by omega
        have e : Hid (sameAllE L M = true) := by
          unfold Hid
          have := ht.out
          rw [List.take_of_length_le (by rw [HQ.out.1]; exact Nat.le_refl _), List.take_of_length_le (by rw [HQ.out.2]; exact Nat.le_refl _)] at this
          exact sameAllE_iff.2 this
        go_wp2
        go_ret
        exact ⟨by rw [e.out]; rfl, hb⟩
  · have e : sameAllE L M = false := by
      rw [Bool.eq_false_iff]
      intro c
      have := sameAllE_iff.1 c
      subst this
      exact h (hlq.symm.trans hmq)
    have e1 : ((n : Int) != (m : Int)) = true := by simp; omega
    have e2 : ((n : Int) == (m : Int)) = false := by simp; omega
    rw [e]
    clear hL hM
    go_enter Tryz.func32, Tryz.ntmps32
    go_wp2
    go_ret
    exact ⟨rfl, hb0⟩
end Go.Proofs.YtaodjnkjjmhecaaGreatDoor
namespace Go.Proofs.YtaodjnkjjmhecaaGreatDoor
open Go.RowKit
set_option linter.unusedVariables false
theorem sameAX (a b : Option Addr) (n m c1 c2 : Nat) (L : List EventN) (w : World) (hL : RowE w a n c1 L) (hM : RowE w b m c2 L) :
    Calls Tryz.prog 32 #[.slice a n c1, .slice b m c2] w fun e w' => e = .returned (.bool true) ∧ Below w.heap.size w w' :=
  (refSameAllC a b n m c1 c2 L L w hL hM).mono fun e w' h => ⟨by rw [h.1, sameAllE_iff.2 rfl], h.2⟩
end Go.Proofs.YtaodjnkjjmhecaaGreatDoor
