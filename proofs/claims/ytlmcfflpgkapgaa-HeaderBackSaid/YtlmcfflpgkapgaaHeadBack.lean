/- Contracts of layer 12: slices.Backward at pairs: its rounds. -/
import Derived.Test.YtlmcfflpgkapgaaHeaderRef3
import Derived.RangeFuncNested
import Derived.RangeFuncBound
import Derived.RangeFuncCalls
import Derived.RangeFuncLeaves
import Derived.Shelf.Abstract
import Derived.Shelf.RegionOpen
import Derived.WalkKit
import Derived.OwnWalkIn
import Derived.TacticsInMore
import Derived.LoopNIn
import Derived.LoopIn
namespace Go.Proofs.Ytlmcfflpgkapgaa
open Go.RowKit Go.Shelf
set_option linter.unusedVariables false
attribute [local go_sem] Oper.semAt_some

abbrev PX := { x : Nat × (List UInt8 × List UInt8) // x.2.1.length ≤ 100000 }
def pairX (x : PX) : List UInt8 × List UInt8 := x.1.2

set_option maxRecDepth 100000 in
set_option maxHeartbeats 4000000 in
theorem backward_in (F : Fence) (m : Nat) (hf : F.fn 38) (hro : F.round = none) (hm : 1 ≤ m) (l Bs n₀ : Nat) (a : Option Addr) (n c : Nat) (L : List (List UInt8 × List UInt8)) (J Jx : List PX → World → Prop)
    (W : World) (hY : ∀ pre x W1, J pre W1 → pre.length < n → YieldAt F (m - 1) Try.prog l #[.int .i64 (x.1.1 : Int), .agg #[.string (str x.1.2.1), .string (str x.1.2.2)]] W1 fun e W' =>
      (e = .returned (.bool true) ∧ J (pre ++ [x]) W' ∧ Below n₀ W1 W') ∨ (e = .returned (.bool false) ∧ Jx (pre ++ [x]) W'))
    (hBs : W.cell? ⟨Bs, 0, none⟩ = some (.slice a n c)) (hBl : Bs < n₀) (hL : ∀ W', Below n₀ W W' → RowOf encP 2 W' a n c L) (h0 : J [] W) (hS : ∀ x ∈ L, x.1.length ≤ 100000) :
    CallsIn F m Try.prog 38 #[.func (.yield l) #[] #[], .pointer (some ⟨Bs, 0, none⟩)] W fun e W' => (∃ v, e = .returned v) ∧
      ((∃ ys : List PX, ys.map pairX = L.reverse ∧ J ys W') ∨ (∃ pre : List PX, (∃ k, pre.map pairX = L.reverse.take k) ∧ Jx pre W')) := by
  have hl0 := hL W (Below.refl _ _)
  have hn := hl0.leq
  have hcm := hl0.capm
  have hcl := hl0.cle
  unfold maxLen at hcm
  have Hn := Lib.hid hn
  clear hl0 hn
  refine callsIn_of_wp Try.func38 rfl hf ?_ hro
  simp only [Try.ntmps38, List.size_toArray, List.length_cons, List.length_nil, Nat.reduceAdd, Nat.reduceSub, Array.replicate_succ, Array.replicate_zero, List.push_toArray, List.append_toArray, List.nil_append, List.cons_append]
  gi_wp2
  gi_loopw [3] (fun i wr => ∃ (r : Nat) (pre : List PX), r ≤ n ∧ i = .int .i64 ((r : Int) - 1) ∧ pre.length + r = n ∧ Hid (pre.map pairX = L.reverse.take (n - r)) ∧ J pre wr ∧ Below n₀ W wr)
    (fun i _ => (intOf i + 1).toNat)
  case atStart => exact ⟨n, [], Nat.le_refl _, by go_num, by simp, by unfold Hid; simp, h0, Below.refl _ _⟩
  case round =>
    obtain ⟨r, pre, hr, rfl, hpl, hps, hJs, hnx⟩ := hrel
    have hb := (hnx.cell (p := ⟨Bs, 0, none⟩) hBl).trans hBs
    cases r with
    | zero =>
      have e0 : ((0 : Nat) : Int) - 1 = -1 := rfl
      rw [e0]
      gi_wp2
      go_end0
      exact ⟨⟨_, rfl⟩, .inl ⟨pre, by rw [hps.out, Nat.sub_zero, List.take_of_length_le (by rw [List.length_reverse, Hn.out]; exact Nat.le_refl _)], hJs⟩⟩
    | succ j =>
      have e0 : ((j + 1 : Nat) : Int) - 1 = (j : Int) := by omega
      rw [e0]
      have hj : j < n := by omega
      have hj' : (j : Int) < (n : Int) := by omega
      obtain ⟨x1, x2, g, off, hx, rfl, c0, c1⟩ := pair_at (hL wr hnx) j hj
      have hx1 : x1.length ≤ 100000 := hS (x1, x2) (List.mem_of_getElem? hx)
      have hst : Hid ((pre ++ [(⟨(j, (x1, x2)), hx1⟩ : PX)]).map pairX = L.reverse.take (n - j)) := by
        unfold Hid
        have hjL : n - (j + 1) < L.reverse.length := by rw [List.length_reverse, Hn.out]; omega
        rw [List.map_append, hps.out, show n - j = n - (j + 1) + 1 by omega, List.take_succ_eq_append_getElem hjL, List.getElem_reverse]
        have h3 := (List.getElem?_eq_some_iff.1 hx).2
        have h4 : L.length - 1 - (n - (j + 1)) = j := by have := Hn.out; omega
        simp only [h4, h3]
        rfl
      obtain ⟨fn, tmps, assign, body, hy, hR⟩ := hY pre ⟨(j, (x1, x2)), hx1⟩ wr hJs (by omega)
      dsimp only at hy
      clear hx hps hL Hn hS
      gi_wp2
      refine hR.mono ?_
      rintro e W3 (⟨rfl, hJ3, hk3⟩ | ⟨rfl, hJx3⟩)
      · gi_wp2
        go_roundw
        case rel => exact ⟨j, pre ++ [⟨(j, (x1, x2)), hx1⟩], by omega, by first | rfl | go_num, by rw [List.length_append, List.length_singleton]; omega, hst, hJ3, hnx.trans hk3⟩
        case measure => simp [intOf] <;> omega
      · gi_wp2
        refine bodyPost_ret (results_none rfl _ _ _) rfl ?_
        exact ⟨⟨_, rfl⟩, .inr ⟨_, ⟨_, hst.out⟩, hJx3⟩⟩

set_option maxHeartbeats 1000000 in
theorem backward_make (F : Fence) (m : Nat) (hf : F.fn 27) (hro : F.round = none) (a : Option Addr) (n c : Nat) (w : World) :
    CallsIn F m Try.prog 27 #[.slice a n c] w fun e w' => e = .returned (.func (.func 38) #[] #[.pointer (some ⟨w.heap.size, 0, none⟩)]) ∧ w' = w.alloc (.cells #[.slice a n c] 25) := by
  refine callsIn_of_wp Try.func27 rfl hf ?_ hro
  simp only [Try.ntmps27, List.size_toArray, List.length_cons, List.length_nil, Nat.reduceAdd, Nat.reduceSub, Array.replicate_succ, Array.replicate_zero, List.push_toArray, List.append_toArray, List.nil_append, List.cons_append]
  gi_wp2
  go_ret
  exact ⟨rfl, rfl⟩

theorem backward_stops (F : Fence) (m : Nat) (hf : F.fn 38) (hro : F.round = none) (hm : 1 ≤ m) (Bs : Nat) (a : Option Addr) (n c : Nat) (L : List (List UInt8 × List UInt8)) (w : World) (hBs : Bs < w.heap.size)
    (hc : w.cell? ⟨Bs, 0, none⟩ = some (.slice a n c)) (hL : RowOf encP 2 w a n c L) (hS : ∀ x ∈ L, x.1.length ≤ 100000) :
    SeqStopsK F m Try.prog 38 #[.pointer (some ⟨Bs, 0, none⟩)] (fun x : PX => #[Value.int .i64 (x.1.1 : Int), .agg #[.string (str x.1.2.1), .string (str x.1.2.2)]]) (Below w.heap.size)
      (fun ys => ys.map pairX = L.reverse) (fun pre => ∃ k, pre.map pairX = L.reverse.take k) n w := fun l J Jx W hW _ _ hY h0 =>
  backward_in F m hf hro hm l Bs w.heap.size a n c L J Jx W hY ((hW.cell (p := ⟨Bs, 0, none⟩) hBs).trans hc) hBs (fun W' hb => hL.below (hW.trans hb)) h0 hS
end Go.Proofs.Ytlmcfflpgkapgaa
