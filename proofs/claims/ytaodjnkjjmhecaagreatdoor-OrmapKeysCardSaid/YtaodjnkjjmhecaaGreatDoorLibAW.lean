/- Contracts and plain words that the laws' proofs stand on. -/
import Derived.Test.YtaodjnkjjmhecaaGreatDoorLibAY
namespace Go.Proofs.YtaodjnkjjmhecaaGreatDoor
open Go.ChangeShapes Go.WideShapes Go.ChangeAt Go.RowKit
set_option linter.unusedVariables false
set_option maxRecDepth 100000 in
theorem open_dotX {H : Type} {enc : TypeId × Value → H} {w : World} {r : Reach} {b0 : Nat} {v : Value} {d : DataW H} {p : List MemPlace} (hv : Value.okWide Tryz.prog w r b0 35 v) (h : DataW.Trod enc Tryz.prog w 0 (fun _ => true) true 35 v d p) :
    ∃ x : DotN, v = .agg #[.int .i64 x.dev, .int .i64 x.inc, .int .i64 x.seq] ∧ FitD x := by
  obtain ⟨cs, rfl, hl⟩ := open_flat 4 [.num .i64, .num .i64, .num .i64] Tryz.underlying35 (by kernel_rfl) hv h
  obtain ⟨x, h1, h2⟩ := leaves_dot hl
  refine ⟨x, ?_, h2⟩
  have : cs = #[.int .i64 x.dev, .int .i64 x.inc, .int .i64 x.seq] := Array.toList_inj.mp h1
  rw [this]
end Go.Proofs.YtaodjnkjjmhecaaGreatDoor
namespace Go.Proofs.YtaodjnkjjmhecaaGreatDoor
open Go.RowKit
set_option linter.unusedVariables false
theorem mKeyC (p : Nat) (F R : Nat → Prop) (m : MapN) (x : ItemL) (w : World) (h : MapAt w p F R m) (hk : fitK (kOf x)) : Calls Tryz.prog 33 #[.pointer (some ⟨p, 0, none⟩), .agg #[.string (str x.name), .string (str x.dom), .string (str x.path)]] w (GivesEs (keyM m x) w) := (mKeyA h.arg x hk).mono fun _ _ h => (GivesN.er (R := R) h).es
theorem mWinnerC (p : Nat) (F R : Nat → Prop) (m : MapN) (x : ItemL) (w : World) (h : MapAt w p F R m) (hk : fitK (kOf x)) : Calls Tryz.prog 30 #[.pointer (some ⟨p, 0, none⟩), .agg #[.string (str x.name), .string (str x.dom), .string (str x.path)]] w (GivesW (winnerM m x) w) := (mWinnerA h.arg x hk).mono fun _ _ ⟨r, h1, h2, h3, _, h5⟩ => ⟨r, h1, h2, h3, h5⟩
theorem mHasC (p : Nat) (F R : Nat → Prop) (m : MapN) (d : DotN) (w : World) (h : MapAt w p F R m) (hx : FitD d) : Calls Tryz.prog 36 #[.pointer (some ⟨p, 0, none⟩), .agg #[.int .i64 d.dev, .int .i64 d.inc, .int .i64 d.seq]] w fun en w' => en = .returned (.bool (hasV m.ctx d)) ∧ Below w.heap.size w w' := mHasA h.arg d hx
end Go.Proofs.YtaodjnkjjmhecaaGreatDoor
namespace Go.Proofs.YtaodjnkjjmhecaaGreatDoor
open Go.ChangeShapes Go.WideShapes Go.ChangeAt Go.RowKit
set_option linter.unusedVariables false
set_option maxRecDepth 100000 in
theorem open_keyX {H : Type} {enc : TypeId × Value → H} {w : World} {r : Reach} {b0 : Nat} {v : Value} {d : DataW H} {p : List MemPlace} (hv : Value.okWide Tryz.prog w r b0 39 v) (h : DataW.Trod enc Tryz.prog w 0 (fun _ => true) true 39 v d p) :
    ∃ x : ItemL, v = .agg #[.string (str x.name), .string (str x.dom), .string (str x.path)] ∧ x.name.length ≤ maxLen ∧ x.dom.length ≤ maxLen ∧ x.path.length ≤ maxLen := by
  obtain ⟨cs, rfl, hl⟩ := open_flat 4 [.text, .text, .text] Tryz.underlying39 (by kernel_rfl) hv h
  obtain ⟨x, y, z, h1, h2⟩ := leaves_keyE hl
  refine ⟨{ ItemL.none with name := x, dom := y, path := z }, ?_, h2⟩
  have : cs = #[.string (str x), .string (str y), .string (str z)] := Array.toList_inj.mp h1
  rw [this]
end Go.Proofs.YtaodjnkjjmhecaaGreatDoor
