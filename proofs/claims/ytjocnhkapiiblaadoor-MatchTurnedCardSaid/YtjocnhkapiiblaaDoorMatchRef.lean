/- Contracts of the reference of layer 15: which items are ahead, and the same. -/
import Derived.Test.YtjocnhkapiiblaaDoorLibAI
import Derived.Test.YtjocnhkapiiblaaDoorLibAH
import Derived.Test.YtjocnhkapiiblaaDoorLibAA
import Derived.BigQuiet
namespace Go.Proofs.YtjocnhkapiiblaaDoor
open Go.RowKit
set_option linter.unusedVariables false

/-- The cells of an item. -/
def encI (x : ItemL) : List Value := [.string (str x.name), .string (str x.dom), .string (str x.path), .string (str x.val), .bool x.host, .bool x.sec, .bool x.http, .bool x.pers, .int .i64 x.exp, .int .i64 x.made, .int .i64 x.used]
theorem encI_len (x : ItemL) : (encI x).length = 11 := rfl
theorem encI_one (x : ItemL) : ∀ u ∈ encI x, u.oneCell' = true := by
  intro u hu
  simp only [encI, List.mem_cons, List.not_mem_nil, or_false] at hu
  rcases hu with rfl | rfl | rfl | rfl | rfl | rfl | rfl | rfl | rfl | rfl | rfl <;> rfl

def sameI (x y : ItemL) : Bool := x.name == y.name && (x.dom == y.dom && (x.path == y.path && (x.val == y.val && (x.host == y.host && (x.sec == y.sec && (x.http == y.http && (x.pers == y.pers && (x.exp == y.exp && (x.made == y.made && (x.used == y.used))))))))))
theorem sameI_iff {x y : ItemL} : sameI x y = true ↔ x = y := by
  unfold sameI
  simp only [Bool.and_eq_true, beq_iff_eq]
  constructor
  · rintro ⟨h1, h2, h3, h4, h5, h6, h7, h8, h9, h10, h11⟩
    cases x; cases y
    simp only at h1 h2 h3 h4 h5 h6 h7 h8 h9 h10 h11
    subst h1 h2 h3 h4 h5 h6 h7 h8 h9 h10 h11
    rfl
  · rintro rfl
    exact ⟨rfl, rfl, rfl, rfl, rfl, rfl, rfl, rfl, rfl, rfl, rfl⟩
def sameL : List ItemL → List ItemL → Bool
  | [], [] => true
  | x :: l, y :: m => sameI x y && sameL l m
  | _, _ => false
theorem sameL_iff : ∀ {l m : List ItemL}, sameL l m = true ↔ l = m
  | [], [] => by simp [sameL]
  | [], _ :: _ => by simp [sameL]
  | _ :: _, [] => by simp [sameL]
  | x :: l, y :: m => by rw [sameL, Bool.and_eq_true, sameI_iff, sameL_iff, List.cons.injEq]

set_option maxHeartbeats 4000000 in
theorem eqItem2 (x y : ItemL) (w : World) :
    Sem.run Tryd.prog (Op.equalIn 10000 27 (.agg #[.string (str x.name), .string (str x.dom), .string (str x.path), .string (str x.val), .bool x.host, .bool x.sec, .bool x.http, .bool x.pers, .int .i64 x.exp, .int .i64 x.made, .int .i64 x.used]) (.agg #[.string (str y.name), .string (str y.dom), .string (str y.path), .string (str y.val), .bool y.host, .bool y.sec, .bool y.http, .bool y.pers, .int .i64 y.exp, .int .i64 y.made, .int .i64 y.used])) w = Result.ok (sameI x y) w := by
  have hk := str_toList
  unfold sameI
  cases h0 : (x.name == y.name) with
  | false => simp [go_sem, hk, h0]
  | true =>
  cases h1 : (x.dom == y.dom) with
  | false => simp [go_sem, hk, h0, h1]
  | true =>
  cases h2 : (x.path == y.path) with
  | false => simp [go_sem, hk, h0, h1, h2]
  | true =>
  cases h3 : (x.val == y.val) with
  | false => simp [go_sem, hk, h0, h1, h2, h3]
  | true =>
  cases h4 : (x.host == y.host) with
  | false => simp [go_sem, hk, h0, h1, h2, h3, h4]
  | true =>
  cases h5 : (x.sec == y.sec) with
  | false => simp [go_sem, hk, h0, h1, h2, h3, h4, h5]
  | true =>
  cases h6 : (x.http == y.http) with
  | false => simp [go_sem, hk, h0, h1, h2, h3, h4, h5, h6]
  | true =>
  cases h7 : (x.pers == y.pers) with
  | false => simp [go_sem, hk, h0, h1, h2, h3, h4, h5, h6, h7]
  | true =>
  cases h8 : (x.exp == y.exp) with
  | false => simp [go_sem, hk, h0, h1, h2, h3, h4, h5, h6, h7, h8]
  | true =>
  cases h9 : (x.made == y.made) with
  | false => simp [go_sem, hk, h0, h1, h2, h3, h4, h5, h6, h7, h8, h9]
  | true =>
  cases h10 : (x.used == y.used) with
  | false => simp [go_sem, hk, h0, h1, h2, h3, h4, h5, h6, h7, h8, h9, h10]
  | true =>
  simp [go_sem, hk, h0, h1, h2, h3, h4, h5, h6, h7, h8, h9, h10]

theorem eqKey2 (x y : ItemL) (w : World) :
    Sem.run Tryd.prog (Op.equalIn 10000 23 (.agg #[.string (str x.name), .string (str x.dom), .string (str x.path)]) (.agg #[.string (str y.name), .string (str y.dom), .string (str y.path)])) w = Result.ok (sameKey x y) w := by
  have hk := str_toList
  unfold sameKey
  cases h1 : x.name == y.name <;> cases h2 : x.dom == y.dom <;> cases h3 : x.path == y.path <;> simp [go_sem, hk, h1, h2, h3]

theorem item_at {w : World} {a : Option Addr} {n c : Nat} {L : List ItemL} (h : RowOf encI 11 w a n c L) (k : Nat) (hk : k < n) :
    ∃ x g off, L[k]? = some x ∧ a = some ⟨g, off, none⟩ ∧ w.cell? ⟨g, off + k * 11, none⟩ = some (.string (str x.name)) ∧ w.cell? ⟨g, off + k * 11 + 1, none⟩ = some (.string (str x.dom)) ∧ w.cell? ⟨g, off + k * 11 + 2, none⟩ = some (.string (str x.path)) ∧ w.cell? ⟨g, off + k * 11 + 3, none⟩ = some (.string (str x.val)) ∧ w.cell? ⟨g, off + k * 11 + 4, none⟩ = some (.bool x.host) ∧ w.cell? ⟨g, off + k * 11 + 5, none⟩ = some (.bool x.sec) ∧ w.cell? ⟨g, off + k * 11 + 6, none⟩ = some (.bool x.http) ∧ w.cell? ⟨g, off + k * 11 + 7, none⟩ = some (.bool x.pers) ∧ w.cell? ⟨g, off + k * 11 + 8, none⟩ = some (.int .i64 x.exp) ∧ w.cell? ⟨g, off + k * 11 + 9, none⟩ = some (.int .i64 x.made) ∧ w.cell? ⟨g, off + k * 11 + 10, none⟩ = some (.int .i64 x.used) := by
  obtain ⟨x, g, off, h1, h2, h3⟩ := h.at k hk
  exact ⟨x, g, off, h1, h2, h3 0 _ rfl, h3 1 _ rfl, h3 2 _ rfl, h3 3 _ rfl, h3 4 _ rfl, h3 5 _ rfl, h3 6 _ rfl, h3 7 _ rfl, h3 8 _ rfl, h3 9 _ rfl, h3 10 _ rfl⟩

theorem two_obj (w : World) (A B : Array Value) (a b : TypeId) :
    ObjAt ((w.alloc (.cells A a)).alloc (.cells B b)) w.heap.size A.toList ∧ ObjAt ((w.alloc (.cells A a)).alloc (.cells B b)) (w.heap.size + 1) B.toList ∧ Below w.heap.size w ((w.alloc (.cells A a)).alloc (.cells B b)) := by
  have s1 : (w.alloc (.cells A a)).heap.size = w.heap.size + 1 := by simp
  have o1 := ObjAt.new w A a
  have o2 := ObjAt.new (w.alloc (.cells A a)) B b
  have b1 := below_alloc w (.cells A a)
  have b2 := below_alloc (w.alloc (.cells A a)) (.cells B b)
  have o1' := o1.below b2 o1.lt
  rw [s1] at o2
  exact ⟨o1', o2, b1.trans (b2.mono b1.size)⟩

set_option maxRecDepth 100000 in
theorem refKeyLessC (x y : ItemL) (w : World) :
    Calls Tryd.prog 11 #[.agg #[.string (str x.name), .string (str x.dom), .string (str x.path)], .agg #[.string (str y.name), .string (str y.dom), .string (str y.path)]] w fun e w' => e = .returned (.bool (keyLess x y)) ∧ Below w.heap.size w w' := by
  obtain ⟨o1, o2, hb⟩ := two_obj w #[.string (str x.name), .string (str x.dom), .string (str x.path)] #[.string (str y.name), .string (str y.dom), .string (str y.path)] 23 23
  have u0 := o1.cell 0 rfl; have u1 := o1.cell 1 rfl; have u2 := o1.cell 2 rfl
  have v0 := o2.cell 0 rfl; have v1 := o2.cell 1 rfl; have v2 := o2.cell 2 rfl
  have hk := str_toList
  unfold keyLess
  clear o1 o2
  by_cases h1 : x.name = y.name
  · have e1 : (x.name == y.name) = true := beq_iff_eq.2 h1
    rw [if_neg (by simp [h1])]
    by_cases h2 : x.dom = y.dom
    · have e2 : (x.dom == y.dom) = true := beq_iff_eq.2 h2
      rw [if_neg (by simp [h2])]
      clear h1 h2
      go_enter Tryd.func11, Tryd.ntmps11
      go_wp2
      go_ret
      exact ⟨rfl, hb⟩
    · have e2 : (x.dom == y.dom) = false := beq_eq_false_iff_ne.2 h2
      rw [if_pos h2]
      clear h1 h2
      go_enter Tryd.func11, Tryd.ntmps11
      go_wp2
      go_ret
      exact ⟨rfl, hb⟩
  · have e1 : (x.name == y.name) = false := beq_eq_false_iff_ne.2 h1
    rw [if_pos h1]
    clear h1
    go_enter Tryd.func11, Tryd.ntmps11
    go_wp2
    go_ret
    exact ⟨rfl, hb⟩

set_option maxRecDepth 100000 in
theorem refAheadC (x y : ItemL) (w : World) (hx : x.path.length ≤ maxLen) (hy : y.path.length ≤ maxLen) :
    Calls Tryd.prog 9 #[.agg #[.string (str x.name), .string (str x.dom), .string (str x.path), .string (str x.val), .bool x.host, .bool x.sec, .bool x.http, .bool x.pers, .int .i64 x.exp, .int .i64 x.made, .int .i64 x.used], .agg #[.string (str y.name), .string (str y.dom), .string (str y.path), .string (str y.val), .bool y.host, .bool y.sec, .bool y.http, .bool y.pers, .int .i64 y.exp, .int .i64 y.made, .int .i64 y.used]] w fun e w' => e = .returned (.bool (ahead x y)) ∧ Below w.heap.size w w' := by
  obtain ⟨o1, o2, hb⟩ := two_obj w #[.string (str x.name), .string (str x.dom), .string (str x.path), .string (str x.val), .bool x.host, .bool x.sec, .bool x.http, .bool x.pers, .int .i64 x.exp, .int .i64 x.made, .int .i64 x.used] #[.string (str y.name), .string (str y.dom), .string (str y.path), .string (str y.val), .bool y.host, .bool y.sec, .bool y.http, .bool y.pers, .int .i64 y.exp, .int .i64 y.made, .int .i64 y.used] 27 27
  have hk := str_toList
  have HL := fun w => refKeyLessC x y w
  obtain ⟨m1, hm1⟩ : ∃ m, x.path.length = m := ⟨_, rfl⟩
  obtain ⟨m2, hm2⟩ : ∃ m, y.path.length = m := ⟨_, rfl⟩
  have z1 : (str x.path).size = m1 := by rw [str_size, hm1]
  have z2 : (str y.path).size = m2 := by rw [str_size, hm2]
  unfold ahead
  rw [hm1, hm2]
  have u0 := o1.cell 0 rfl; have u1 := o1.cell 1 rfl; have u2 := o1.cell 2 rfl; have u9 := o1.cell 9 rfl
  have v0 := o2.cell 0 rfl; have v1 := o2.cell 1 rfl; have v2 := o2.cell 2 rfl; have v9 := o2.cell 9 rfl
  clear o1 o2 hm1 hm2 hx hy
  by_cases h1 : m1 = m2
  · have e1 : ((m1 : Int) != (m2 : Int)) = false := by rw [h1]; simp
    rw [if_neg (by simp [h1])]
    by_cases h2 : x.made = y.made
    · have e2 : (x.made != y.made) = false := by rw [h2]; simp
      have e3 : (x.made == y.made) = true := beq_iff_eq.2 h2
      rw [if_neg (by simp [h2])]
      clear h1 h2
      go_enter Tryd.func9, Tryd.ntmps9
      go_wp2_with (go_at_call 11; (with_reducible refine (HL _).mono ?_); rintro e w1 ⟨rfl, hx⟩; have hb := hb.trans (hx.mono hb.size))
      go_ret
      exact ⟨rfl, hb⟩
    · have e2 : (x.made != y.made) = true := by simp [h2]
      have e3 : (x.made == y.made) = false := beq_eq_false_iff_ne.2 h2
      rw [if_pos h2]
      clear h1 h2
      go_enter Tryd.func9, Tryd.ntmps9
      go_wp2
      go_ret
      exact ⟨rfl, hb⟩
  · have e1 : ((m1 : Int) != (m2 : Int)) = true := by rw [bne_iff_ne]; omega
    rw [if_pos h1]
    have hd : decide ((m2 : Int) < (m1 : Int)) = decide (m2 < m1) := decide_eq_decide.2 (by omega)
    clear h1
    go_enter Tryd.func9, Tryd.ntmps9
    go_wp2
    go_ret
    exact ⟨by first | rfl | rw [← hd]; rfl, hb⟩
end Go.Proofs.YtjocnhkapiiblaaDoor
