/- Contracts and plain words that the laws' proofs stand on. -/
import Derived.Test.YtaodjnkjjmhecaaGreatDoorLibAJ
import Derived.Test.YtaodjnkjjmhecaaGreatDoorLibBK
namespace Go.Proofs.YtaodjnkjjmhecaaGreatDoor
open Go.RowKit
set_option linter.unusedVariables false
theorem GrownBut.cell {w w' : World} {a : Option Addr} (h : GrownBut w w' a) {x : Addr} {v : Value} (hc : w.cell? x = some v) (ha : Apart a x.block) : w'.cell? x = some v :=
  (World.cell?_of_block (h.2 x.block (cell_lt hc) ha)).trans hc
def Off (a b : Option Addr) : Prop := ∀ k, At a k → ¬ At b k
theorem Off.new {a : Option Addr} {n : Nat} (h : ∀ k, At a k → k < n) {g o : Nat} {t : Option Nat} (hg : n ≤ g) : Off a (some ⟨g, o, none⟩) := fun k h1 h2 => by
  have e : g = k := at_some.1 h2
  have := h k h1
  omega
theorem Off.moved {a a' b : Option Addr} {n : Nat} (h : Off a b) (hn : a' = a ∨ ∃ g, a' = some ⟨g, 0, none⟩ ∧ n ≤ g) (hb : ∀ k, At b k → k < n) : Off a' b := by
  rcases hn with rfl | ⟨g, rfl, hg⟩
  · exact h
  · intro k h1 h2
    have e : g = k := at_some.1 h1
    have := hb k h2
    omega
theorem row_front {α : Type} {enc : α → List Value} {z : Nat} {w : World} {a : Option Addr} {len cap : Nat} {P : List α} (h : RowOf enc z w a len cap P) (k : Nat) (hk : k ≤ len) : RowOf enc z w a k cap (P.take k) := by
  refine ⟨by rw [List.length_take, h.leq]; omega, Nat.le_trans hk h.cle, h.capm, h.nil0, fun i x hx => ?_⟩
  rw [List.getElem?_take] at hx
  split at hx
  · exact h.at_ i x hx
  · cases hx
theorem row_grown {α : Type} {enc : α → List Value} {z : Nat} {w w' : World} {a b : Option Addr} {len cap : Nat} {P : List α} (h : RowOf enc z w a len cap P) (hg : GrownBut w w' b) (ha : ∀ x, a = some x → Apart b x.block) : RowOf enc z w' a len cap P :=
  ⟨h.leq, h.cle, h.capm, h.nil0, fun i x hx => by
    obtain ⟨g, off, e, hc⟩ := h.at_ i x hx
    exact ⟨g, off, e, fun j v hv => hg.cell (hc j v hv) (ha ⟨g, off, none⟩ e)⟩⟩
theorem wp_some {P : Program} {c : Code} {Q : Exit → Act → World → Prop} {a : Act} {w : World} (S : World → Prop) (h : S w) (H : ∀ w', S w' → Code.wp P c Q a w') : Code.wp P c Q a w := H w h
structure MapR where
  ctx : List DotN
  kept : List EvR
  dead : List DotN
def MapR.plain (m : MapR) : MapN := ⟨m.ctx, m.kept.map (·.e), m.dead⟩
structure RowM (w : World) (ac : Option Addr) (nc cc : Nat) (ak : Option Addr) (nk ck : Nat) (ad : Option Addr) (nd cd : Nat) (m : MapR) : Prop where
  ctx : RowOf encD 3 w ac nc cc m.ctx
  kept : RowOf encE 19 w ak nk ck m.kept
  dead : RowOf encD 3 w ad nd cd m.dead
theorem RowM.below {w w' : World} {ac ak ad : Option Addr} {nc cc nk ck nd cd : Nat} {m : MapR} (h : RowM w ac nc cc ak nk ck ad nd cd m) (hb : Below w.heap.size w w') : RowM w' ac nc cc ak nk ck ad nd cd m :=
  ⟨h.ctx.below hb, h.kept.below hb, h.dead.below hb⟩
def GivesR (P : List EvR) (w : World) (en : Ending) (w' : World) : Prop :=
  ∃ (q : Option Addr) (K c : Nat), en = .returned (.slice q K c) ∧ OwnZ encE 19 w.heap.size 43 q K c P w' ∧ Below w.heap.size w w'
def backA (a : Option Addr) (k c z : Nat) : Option Addr := if c = k then a else a.map (·.add (k * z))
theorem row_backA {α : Type} {enc : α → List Value} {z : Nat} {w : World} {a : Option Addr} {n c : Nat} {P : List α} (h : RowOf enc z w a n c P) (k : Nat) (hk : k ≤ n) : RowOf enc z w (backA a k c z) (n - k) (c - k) (P.drop k) := by
  have h1 := h.cle
  have h2 := h.capm
  have h3 := h.leq
  refine ⟨by rw [List.length_drop, h3], by omega, by omega, fun e => ?_, fun i x hx => ?_⟩
  · unfold backA at e
    have e2 : a = none := by
      split at e
      · exact e
      · rcases a with _ | x
        · rfl
        · cases e
    have := h.nil0 e2
    omega
  · have hlt : k + i < P.length := by
      have := (List.getElem?_eq_some_iff.1 hx).1
      rw [List.length_drop] at this
      omega
    rw [List.getElem?_drop] at hx
    obtain ⟨g, off, rfl, hc⟩ := h.at_ (k + i) x hx
    have hb : backA (some ⟨g, off, none⟩) k c z = some ⟨g, off + k * z, none⟩ := by
      unfold backA
      rw [if_neg (by omega)]
      show some (Addr.add ⟨g, off, none⟩ (k * z)) = _
      unfold Addr.add
      split
      · rename_i h0
        rw [h0]
        rfl
      · rfl
    refine ⟨g, off + k * z, hb, fun j v hv => ?_⟩
    have := hc j v hv
    rw [Nat.add_mul] at this
    have e2 : off + k * z + i * z + j = off + (k * z + i * z) + j := by omega
    rw [e2]
    exact this
theorem execSliceFront {P : Program} {o : Oper} {a : Act} {w : World} (t e : TypeId) (x y : Operand) (ho : o.op = .slice t x none (some y) none) (s : Option Addr) (n c K z : Nat) (hx : a.eval x = .slice s n c) (hy : a.eval y = .int .i64 (K : Int)) (hK : K ≤ c)
    (ht : P.underlying t = some (.slice e)) (hs : ∀ w, (sizeOf e).run P w = .ok z w) : (execOp a.eval o).run P w = .ok (.value (.slice s K c)) w := by
  have he : P.elem t = e := by unfold Program.elem; rw [ht]
  have h1 := run_slice_h (P := P) w t s n c (by rw [he]; exact ht) .i64 (K : Int) (by omega) (by omega)
  have h2 := run_sliceAt_slice (P := P) w t (.slice s n c) none (some (.int .i64 (K : Int))) none (by rw [he]; exact ht)
  rw [he, hs] at h1
  simp only [Result.andThen, sliced, Int.toNat_natCast, Nat.zero_mul, Nat.sub_zero] at h1
  have h3 : (if c = 0 then s else s.map (·.add 0)) = s := by
    split
    · rfl
    · rcases s with _ | s
      · rfl
      · simp [Addr.add]
  rw [h3] at h1
  unfold execOp
  simp [ho, hx, hy, h2, h1, Result.andThen]
theorem execSliceBack {P : Program} {o : Oper} {a : Act} {w : World} (t e : TypeId) (x y : Operand) (ho : o.op = .slice t x (some y) none none) (s : Option Addr) (n c K z : Nat) (hx : a.eval x = .slice s n c) (hy : a.eval y = .int .i64 (K : Int)) (hK : K ≤ n)
    (ht : P.underlying t = some (.slice e)) (hs : ∀ w, (sizeOf e).run P w = .ok z w) : (execOp a.eval o).run P w = .ok (.value (.slice (backA s K c z) (n - K) (c - K))) w := by
  have he : P.elem t = e := by unfold Program.elem; rw [ht]
  have h1 := run_slice_l (P := P) w t s n c (by rw [he]; exact ht) .i64 (K : Int) (by omega) (by omega)
  have h2 := run_sliceAt_slice (P := P) w t (.slice s n c) (some (.int .i64 (K : Int))) none none (by rw [he]; exact ht)
  rw [he, hs] at h1
  simp only [Result.andThen, sliced, Int.toNat_natCast] at h1
  unfold execOp
  simp [ho, hx, hy, h2, h1, Result.andThen, backA]
end Go.Proofs.YtaodjnkjjmhecaaGreatDoor
namespace Go.Proofs.YtaodjnkjjmhecaaGreatDoor
open Go.RowKit
set_option linter.unusedVariables false
set_option linter.unusedSimpArgs false
theorem row_back0 {α : Type} {enc : α → List Value} {z : Nat} {w : World} {a : Option Addr} {n c : Nat} {P : List α} (h : RowOf enc z w a n c P) : RowOf enc z w (backA a n c z) 0 (c - n) (P.drop n) := by
  have h1 := row_backA h n (Nat.le_refl _)
  rw [Nat.sub_self] at h1
  exact h1
end Go.Proofs.YtaodjnkjjmhecaaGreatDoor
namespace Go.Proofs.YtaodjnkjjmhecaaGreatDoor
open Go.RowKit
set_option linter.unusedVariables false
theorem run_snoc {P : List EvR} {k : Nat} {r : EvR} (m : MapN) (h : P[k]? = some r) : runM m ((P.take (k + 1)).map (·.e)) = (applyM (runM m ((P.take k).map (·.e))) r.e).1 := by
  rw [take_snocI h, List.map_append]
  unfold runM
  rw [List.foldl_append]
  rfl
structure StOm (w : World) (p : Nat) (m : MapN) (v : World) : Prop where
  ex : ∃ F R, MapAt v p F R m ∧ ∀ k, F k → w.heap.size ≤ k
  hb : Below w.heap.size w v
theorem StOm.turn {w v v' : World} {p : Nat} {m' : MapN} {F F' R' : Nat → Prop} (hb : Below w.heap.size w v) (hf : ∀ k, F k → w.heap.size ≤ k) (hv : MapAt v' p F' R' m') (hk : Keeps F v v') (h1 : ∀ k, F' k → F k ∨ v.heap.size ≤ k) : StOm w p m' v' :=
  ⟨⟨F', R', hv, fun k h => (h1 k h).elim (hf k) (fun h => Nat.le_trans hb.size h)⟩, hb.trans (hk.below hb.size fun i _ h => hf i h)⟩
theorem stOApply {w v : World} {p : Nat} {m : MapN} (r : EvR) (A : Array Value) (hA : (encE r).toArray = A) (h : StOm w p m v) (hE : RowOf encD 3 w r.a r.e.over.length r.c r.e.over) (hl : lightE r.e = true) (hTb : OTb w) (hdn : m.dead.length ≤ 100000) :
    Calls Tryz.prog 19 #[.pointer (some ⟨p, 0, none⟩), .agg A] v fun en w' => en = .returned (.tuple #[.bool (applyM m r.e).2.1, .int .i64 (applyM m r.e).2.2]) ∧ StOm w p (applyM m r.e).1 w' := by
  obtain ⟨F, R, h1, h2⟩ := h.ex
  have ha := overA_lt hE
  refine (mApplyC p F R m r A hA v h1 (hE.below h.hb) (fun k hk hF => by have := ha k hk; have := h2 k hF; omega) hl (hTb.below h.hb) (by omega)).mono ?_
  rintro en w' ⟨rfl, F', R', hv, hk, h3, -⟩
  exact ⟨rfl, StOm.turn h.hb h2 hv hk h3⟩
theorem StOm.new {w w1 : World} {p : Nat} {F R : Nat → Prop} {m : MapN} (h : MapAt w1 p F R m) (hF : ∀ k, F k ∨ R k → w.heap.size ≤ k) (hb : Below w.heap.size w w1) : StOm w p m w1 :=
  ⟨⟨F, R, h, fun k hk => hF k (.inl hk)⟩, hb⟩
end Go.Proofs.YtaodjnkjjmhecaaGreatDoor
