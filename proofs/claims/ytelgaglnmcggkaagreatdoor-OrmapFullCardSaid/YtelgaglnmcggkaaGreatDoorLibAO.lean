/- Contracts and plain words that the laws' proofs stand on, put together. -/
import Derived.Test.YtelgaglnmcggkaaGreatDoorLibAN
import Derived.Test.YtelgaglnmcggkaaGreatDoorLibAA
import Derived.BigQuiet
/- The order of items in plain words. No program in it. -/
namespace Go.Proofs.YtelgaglnmcggkaaGreatDoor
set_option linter.unusedVariables false

/-- Is a key ahead of another one? -/
def keyLess (a b : ItemL) : Bool :=
  if a.name ≠ b.name then Op.bytesLess a.name b.name else if a.dom ≠ b.dom then Op.bytesLess a.dom b.dom else Op.bytesLess a.path b.path
def sameKey (a b : ItemL) : Bool := a.name == b.name && (a.dom == b.dom && a.path == b.path)
/-- Is an item ahead of another one? -/
def ahead (a b : ItemL) : Bool :=
  if a.path.length ≠ b.path.length then decide (b.path.length < a.path.length) else if a.made ≠ b.made then decide (a.made < b.made) else keyLess a b

end Go.Proofs.YtelgaglnmcggkaaGreatDoor

/- Contracts of the reference of layer 15: which items are ahead, and the same. -/
namespace Go.Proofs.YtelgaglnmcggkaaGreatDoor
open Go.RowKit
set_option linter.unusedVariables false

def sameI (x y : ItemL) : Bool := x.name == y.name && (x.dom == y.dom && (x.path == y.path && (x.val == y.val && (x.host == y.host && (x.sec == y.sec && (x.http == y.http && (x.pers == y.pers && (x.exp == y.exp && (x.made == y.made && (x.used == y.used))))))))))
theorem sameI_iff {x y : ItemL} : sameI x y = true ↔ x = y := by
  unfold sameI
  simp only [Bool.and_eq_true, beq_iff_eq]
  constructor
  · rintro ⟨h1, h2, h3, h4, h5, h6, h7, h8, h9, h10, h11⟩
    cases x; cases y
    simp only at h1 h2 h3 h4 h5 h6 h7 h8 h9 h10 h11
    subst h1 h2 h3 h4 h5 h6 h7 h8 h9 h10 h11
    rfl
  · rintro rfl
    exact ⟨rfl, rfl, rfl, rfl, rfl, rfl, rfl, rfl, rfl, rfl, rfl⟩
def sameL : List ItemL → List ItemL → Bool
  | [], [] => true
  | x :: l, y :: m => sameI x y && sameL l m
  | _, _ => false
theorem sameL_iff : ∀ {l m : List ItemL}, sameL l m = true ↔ l = m
  | [], [] => by simp [sameL]
  | [], _ :: _ => by simp [sameL]
  | _ :: _, [] => by simp [sameL]
  | x :: l, y :: m => by rw [sameL, Bool.and_eq_true, sameI_iff, sameL_iff, List.cons.injEq]

set_option maxHeartbeats 4000000 in
theorem eqItem2 (x y : ItemL) (w : World) :
    Sem.run Tryz.prog (Op.equalIn 10000 137 (.agg #[.string (str x.name), .string (str x.dom), .string (str x.path), .string (str x.val), .bool x.host, .bool x.sec, .bool x.http, .bool x.pers, .int .i64 x.exp, .int .i64 x.made, .int .i64 x.used]) (.agg #[.string (str y.name), .string (str y.dom), .string (str y.path), .string (str y.val), .bool y.host, .bool y.sec, .bool y.http, .bool y.pers, .int .i64 y.exp, .int .i64 y.made, .int .i64 y.used])) w = Result.ok (sameI x y) w := by
  have hk := str_toList
  unfold sameI
  cases h0 : (x.name == y.name) with
  | false => simp [go_sem, hk, h0]
  | true =>
  cases h1 : (x.dom == y.dom) with
  | false => simp [go_sem, hk, h0, h1]
  | true =>
  cases h2 : (x.path == y.path) with
  | false => simp [go_sem, hk, h0, h1, h2]
  | true =>
  cases h3 : (x.val == y.val) with
  | false => simp [go_sem, hk, h0, h1, h2, h3]
  | true =>
  cases h4 : (x.host == y.host) with
  | false => simp [go_sem, hk, h0, h1, h2, h3, h4]
  | true =>
  cases h5 : (x.sec == y.sec) with
  | false => simp [go_sem, hk, h0, h1, h2, h3, h4, h5]
  | true =>
  cases h6 : (x.http == y.http) with
  | false => simp [go_sem, hk, h0, h1, h2, h3, h4, h5, h6]
  | true =>
  cases h7 : (x.pers == y.pers) with
  | false => simp [go_sem, hk, h0, h1, h2, h3, h4, h5, h6, h7]
  | true =>
  cases h8 : (x.exp == y.exp) with
  | false => simp [go_sem, hk, h0, h1, h2, h3, h4, h5, h6, h7, h8]
  | true =>
  cases h9 : (x.made == y.made) with
  | false => simp [go_sem, hk, h0, h1, h2, h3, h4, h5, h6, h7, h8, h9]
  | true =>
  cases h10 : (x.used == y.used) with
  | false => simp [go_sem, hk, h0, h1, h2, h3, h4, h5, h6, h7, h8, h9, h10]
  | true =>
  simp [go_sem, hk, h0, h1, h2, h3, h4, h5, h6, h7, h8, h9, h10]

end Go.Proofs.YtelgaglnmcggkaaGreatDoor
