/- Contracts and plain words that the laws' proofs stand on. -/
import Derived.Test.YtaodjnkjjmhecaaGreatDoorLibBJ
namespace Go.Proofs.YtaodjnkjjmhecaaGreatDoor
open Go.RowKit
set_option linter.unusedVariables false
theorem nilMap (w : World) : ArgM w (.pointer none) MapN.none := .inl ⟨rfl, rfl⟩
end Go.Proofs.YtaodjnkjjmhecaaGreatDoor
namespace Go.Proofs.YtaodjnkjjmhecaaGreatDoor
open Go.RowKit Go.Lib
set_option linter.unusedVariables false
set_option linter.unusedSimpArgs false
set_option maxRecDepth 100000 in
theorem dBehindNil (a : Option Addr) (n c : Nat) (w : World) :
    Calls Tryz.prog 56 #[.pointer none, .slice a n c] w fun e w' => e = .returned (.bool false) ∧ Below w.heap.size w w' := by
  go_enter Tryz.func56, Tryz.ntmps56
  go_wp2
  go_ret
  exact ⟨rfl, Below.refl _ _⟩
set_option maxRecDepth 100000 in
theorem dOfNil (a : Option Addr) (n c : Nat) (most : Int) (w : World) :
    Calls Tryz.prog 53 #[.pointer none, .slice a n c, .int .i64 most] w fun e w' => e = .returned (.tuple #[.slice none 0 0, .int .i64 17]) ∧ Below w.heap.size w w' := by
  go_enter Tryz.func53, Tryz.ntmps53
  go_wp2
  go_ret2
  exact ⟨rfl, Below.refl _ _⟩
set_option maxRecDepth 100000 in
theorem dMergeNil (a : Option Addr) (n c : Nat) (w : World) :
    Calls Tryz.prog 59 #[.pointer none, .slice a n c] w fun e w' => e = .returned (.tuple #[.int .i64 0, .int .i64 17]) ∧ Below w.heap.size w w' := by
  go_enter Tryz.func59, Tryz.ntmps59
  go_wp2
  go_ret2
  exact ⟨rfl, below_alloc _ _⟩
set_option maxRecDepth 100000 in
theorem dNeedsNil (a : Option Addr) (n c : Nat) (L : List DotN) (w : World) (hL : RowOf encD 3 w a n c L) (hF : ∀ x ∈ L, FitD x) :
    Calls Tryz.prog 55 #[.pointer none, .slice a n c] w fun e w' => e = .returned (.bool false) ∧ Below w.heap.size w w' := by
  have := dNeedsC (nilMap w) a n c L hL hF
  rw [show needsM MapN.none L = false from by unfold needsM; rw [show MapN.none.ctx = [] from rfl]; simp] at this
  exact this
set_option maxHeartbeats 4000000 in
set_option maxRecDepth 100000 in
theorem deltaNilsW (a : Option Addr) (n c : Nat) (P : List EvR) (b : Option Addr) (n2 c2 : Nat) (L : List DotN) (w : World) (hP : RowOf encE 19 w a n c P) (hO : OversAt w P) (hT : ∀ r ∈ P, r.e.item.name.length ≤ maxLen ∧ r.e.item.dom.length ≤ maxLen ∧ r.e.item.path.length ≤ maxLen ∧ r.e.item.val.length ≤ maxLen) (hL : RowOf encD 3 w b n2 c2 L) (hF : ∀ x ∈ L, FitD x) (hTb : OTb w) :
    Calls Tryz.prog 14 #[.slice a n c, .slice b n2 c2] w fun en w' => en = .returned (.bool true) ∧ Below w.heap.size w w' := by
  have hlq := hP.leq
  have HLA := refLightAllC a n c 30 (P.map (·.e)) w ⟨P, rfl, hP, hO⟩ (fun e he => by obtain ⟨r, hr, rfl⟩ := List.mem_map.1 he; exact hT r hr)
  have HAW := fun v (hv : Below w.heap.size w v) => awake22C v (hTb.below hv)
  rw [List.length_map, hlq] at HLA
  cases hla : (decide ((n : Int) ≤ 30) && (P.map (·.e)).all lightE) with
  | false =>
    rw [hla] at HLA
    clear hla
    go_enter Tryz.func14, Tryz.ntmps14
    go_wp2_with (first
      | (go_at_call 28; (with_reducible refine HLA.mono ?_); rintro e w1 ⟨rfl, hx1⟩)
      | (go_at_call 51; (with_reducible refine (HAW _ hx1).mono ?_); rintro e w2 ⟨rfl, hx2⟩))
    go_ret
    exact ⟨rfl, belowOn hx1 hx2⟩
  | true =>
    rw [hla] at HLA
    clear hla
    by_cases h1 : (100 : Int) < (n2 : Int)
    · have h1d : decide ((100 : Int) < (n2 : Int)) = true := decide_eq_true h1
      go_enter Tryz.func14, Tryz.ntmps14
      go_wp2_with (first
        | (go_at_call 28; (with_reducible refine HLA.mono ?_); rintro e w1 ⟨rfl, hx1⟩)
        | (go_at_call 51; (with_reducible refine (HAW _ hx1).mono ?_); rintro e w2 ⟨rfl, hx2⟩))
      go_ret
      exact ⟨rfl, belowOn hx1 hx2⟩
    · have h1d : decide ((100 : Int) < (n2 : Int)) = false := decide_eq_false h1
      have H1 := fun v => dOfNil b n2 c2 1 v
      have H2 := fun v => dMergeNil a n c v
      have H3 := fun v (hv : Below w.heap.size w v) => dNeedsNil b n2 c2 L v (hL.below hv) hF
      have H4 := fun v => dBehindNil b n2 c2 v
      go_enter Tryz.func14, Tryz.ntmps14
      go_wp2_with (first
        | (go_at_call 28; (with_reducible refine HLA.mono ?_); rintro e w1 ⟨rfl, hx1⟩)
        | (go_at_call 53; (with_reducible refine (H1 _).mono ?_); rintro e w2 ⟨rfl, hx2⟩; have hb2 := belowOn hx1 hx2)
        | (go_at_call 59; (with_reducible refine (H2 _).mono ?_); rintro e w3 ⟨rfl, hx3⟩; have hb3 := belowOn hb2 hx3)
        | (go_at_call 55; (with_reducible refine (H3 _ hb3).mono ?_); rintro e w4 ⟨rfl, hx4⟩; have hb4 := belowOn hb3 hx4)
        | (go_at_call 56; (with_reducible refine (H4 _).mono ?_); rintro e w5 ⟨rfl, hx5⟩; have hb5 := belowOn hb4 hx5)
        | (go_at_call 51; (with_reducible refine (HAW _ hb5).mono ?_); rintro e w6 ⟨rfl, hx6⟩))
      go_ret
      exact ⟨rfl, belowOn hb5 hx6⟩
end Go.Proofs.YtaodjnkjjmhecaaGreatDoor
namespace Go.Proofs.YtaodjnkjjmhecaaGreatDoor
open Go.RowKit
set_option linter.unusedVariables false
theorem deltaNils_walk (a : Option Addr) (n c : Nat) (P : List EvR) (b : Option Addr) (n2 c2 : Nat) (L : List DotN) (w : World) (hpr : RowOf encE 19 w a n c P) (hpo : ∀ x ∈ P, OkR w x) (hL : RowOf encD 3 w b n2 c2 L) (hF : ∀ x ∈ L, FitD x) (hTb : OTb w) :
    Calls Tryz.prog 14 #[.slice a n c, .slice b n2 c2] w fun en w' => en = .returned (.bool true) ∧ Below w.heap.size w w' :=
  deltaNilsW a n c P b n2 c2 L w hpr (fun r h => (hpo r h).1) (fun r h => (hpo r h).2.1) hL hF hTb
end Go.Proofs.YtaodjnkjjmhecaaGreatDoor
