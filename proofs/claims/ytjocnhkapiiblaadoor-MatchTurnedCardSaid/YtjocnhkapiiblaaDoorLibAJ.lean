/- Contracts and plain words that the laws' proofs stand on, put together. -/
import Derived.Test.YtjocnhkapiiblaaDoorMatchRef
import Derived.Test.YtjocnhkapiiblaaDoorLibAF
import Derived.Test.YtjocnhkapiiblaaDoorLibAA
import Derived.Shelf.SlSortCmp.InsertionK
import Derived.Test.YtjocnhkapiiblaaDoorLibAI
import Derived.Test.YtjocnhkapiiblaaDoorLibAC
import Derived.Lib.LazyBuf
import Derived.Test.YtjocnhkapiiblaaDoorCookieGo
/- Contracts of the reference of layer 15: the same items; few and short ones. -/
namespace Go.Proofs.YtjocnhkapiiblaaDoor
open Go.RowKit
set_option linter.unusedVariables false

theorem same_take {L M : List ItemL} {k : Nat} {x y : ItemL} (hx : L[k]? = some x) (hy : M[k]? = some y) (h : L.take k = M.take k) (e : x = y) : L.take (k + 1) = M.take (k + 1) := by
  obtain ⟨h1, e1⟩ := List.getElem?_eq_some_iff.1 hx
  obtain ⟨h2, e2⟩ := List.getElem?_eq_some_iff.1 hy
  rw [List.take_succ_eq_append_getElem h1, List.take_succ_eq_append_getElem h2, h, e1, e2, e]

set_option maxHeartbeats 2000000 in
set_option maxRecDepth 100000 in
theorem refSameIC (a b : Option Addr) (n m c1 c2 : Nat) (L M : List ItemL) (w : World) (hL : RowOf encI 11 w a n c1 L) (hM : RowOf encI 11 w b m c2 M) :
    Calls Tryd.prog 13 #[.slice a n c1, .slice b m c2] w fun e w' => e = .returned (.bool (sameL L M)) ∧ ∃ k, w' = w.drewN k := by
  have hn := hL.leq
  have hm := hM.leq
  by_cases hnm : n = m
  · subst hnm
    have hcm := hL.capm
    have hcl := hL.cle
    unfold maxLen at hcm
    have HL := Lib.hid hL
    have HM := Lib.hid hM
    have Hn := Lib.hid hn
    have Hm := Lib.hid hm
    have hdr : ∀ k, Below w.heap.size w (w.drewN k) := fun k => below_drawn (Below.refl _ w) k
    clear hL hM hn hm
    go_enter Tryd.func13, Tryd.ntmps13
    go_wp2
    go_loopw [5] (fun i wr => ∃ k q : Nat, k ≤ n ∧ i = .int .i64 (k : Int) ∧ Hid (L.take k = M.take k) ∧ wr = w.drewN q) (fun i _ => n - (intOf i).toNat)
    case atStart => exact ⟨0, 0, Nat.zero_le _, rfl, rfl, rfl⟩
    case round =>
      obtain ⟨k, q, hk, rfl, hs, rfl⟩ := hrel
      by_cases hlt : k < n
      · have hlt' : (k : Int) < (n : Int) := by omega
        obtain ⟨x, g1, o1, hx, rfl, c0, c1, c2, c3, c4, c5, c6, c7, c8, c9, c10⟩ := item_at HL.out k hlt
        obtain ⟨y, g2, o2, hy, rfl, d0, d1, d2, d3, d4, d5, d6, d7, d8, d9, d10⟩ := item_at HM.out k hlt
        have hT : Hid (x = y → L.take (k + 1) = M.take (k + 1)) := fun e => same_take hx hy hs.out e
        have hN : Hid (x ≠ y → sameL L M = false) := fun e => by
          rw [Bool.eq_false_iff]
          intro c
          rw [sameL_iff] at c
          subst c
          rw [hx] at hy
          exact e (by cases hy; rfl)
        have hE := eqItem2 x y
        clear hx hy
        by_cases hxy : x = y
        · have h2 := hT.out hxy
          have h3 := Lib.hid h2
          clear h2 hT hN hs
          rw [sameI_iff.2 hxy] at hE
          clear hxy
          go_wp2_with fail
          go_quiet (fail)
          go_wp2
          go_roundw
          case rel => exact ⟨k + 1, _, by omega, by go_num, h3, by first | rfl | simp⟩
          case measure => simp [intOf]; omega
        · have h2 := Lib.hid (hN.out hxy)
          rw [Bool.eq_false_iff.2 (fun c => hxy (sameI_iff.1 c))] at hE
          clear hT hN hs hxy
          go_wp2_with fail
          go_quiet (fail)
          go_wp2
          go_ret
          exact ⟨by rw [h2.out]; rfl, _, World.drewN_drewN _ _ _⟩
      · obtain rfl : k = n := by omega
        have e : Hid (sameL L M = true) := by
          have h1 := hs.out
          rw [List.take_of_length_le (by rw [Hn.out]; exact Nat.le_refl _), List.take_of_length_le (by rw [Hm.out]; exact Nat.le_refl _)] at h1
          unfold Hid
          rw [sameL_iff]
          exact h1
        go_wp2
        go_ret
        exact ⟨by rw [e.out]; rfl, q, rfl⟩
  · have h1 : sameL L M = false := by
      rw [Bool.eq_false_iff]
      intro c
      rw [sameL_iff] at c
      subst c
      exact hnm (hn.symm.trans hm)
    have h2 : ¬ (n : Int) = (m : Int) := by omega
    have h3 : ((n : Int) == (m : Int)) = false := beq_eq_false_iff_ne.2 h2
    rw [h1]
    clear hL hM hn hm
    go_enter Tryd.func13, Tryd.ntmps13
    go_wp2
    go_ret
    exact ⟨rfl, 0, rfl⟩

/-- Is an item short? -/
def shortI (x : ItemL) : Bool := decide (x.name.length ≤ 300) && (decide (x.dom.length ≤ 300) && (decide (x.path.length ≤ 300) && decide (x.val.length ≤ 300)))
def lightI (L : List ItemL) : Bool := decide (L.length ≤ 60) && L.all shortI
/-- The texts of an item that came in. -/
def fitI (x : ItemL) : Prop := x.name.length ≤ maxLen ∧ x.dom.length ≤ maxLen ∧ x.path.length ≤ maxLen ∧ x.val.length ≤ maxLen

set_option maxHeartbeats 2000000 in
set_option maxRecDepth 100000 in
theorem light15C (a : Option Addr) (n c : Nat) (L : List ItemL) (w : World) (hL : RowOf encI 11 w a n c L) (hS : ∀ x ∈ L, fitI x) :
    Calls Tryd.prog 6 #[.slice a n c] w fun e w' => e = .returned (.bool (lightI L)) ∧ w = w' := by
  have HL := Lib.hid hL
  have Hn : Hid (L.length = n) := hL.leq
  have hcm := hL.capm
  have hcl := hL.cle
  unfold maxLen at hcm
  have h60 := hL.leq
  unfold lightI
  rw [h60]
  clear hL h60
  by_cases h1 : n ≤ 60
  · have h1' : ¬ (60 : Int) < (n : Int) := by omega
    rw [decide_eq_true h1, Bool.true_and]
    go_enter Tryd.func6, Tryd.ntmps6
    go_wp2
    go_loopw [3] (fun i wr => ∃ k : Nat, k ≤ n ∧ i = .int .i64 (k : Int) ∧ Hid (∀ j x, j < k → L[j]? = some x → shortI x = true) ∧ w = wr) (fun i _ => n - (intOf i).toNat)
    case atStart => exact ⟨0, Nat.zero_le _, rfl, fun j x hj => absurd hj (Nat.not_lt_zero _), rfl⟩
    case round =>
      obtain ⟨k, hk, rfl, hall, rfl⟩ := hrel
      by_cases hlt : k < n
      · have hlt' : (k : Int) < (n : Int) := by omega
        obtain ⟨x, g, off, hx, rfl, c0, c1, c2, c3, c4, c5, c6, c7, c8, c9, c10⟩ := item_at HL.out k hlt
        have hmem : x ∈ L := by
          obtain ⟨h, e⟩ := List.getElem?_eq_some_iff.1 hx
          exact e ▸ List.getElem_mem h
        have hsx := hS _ hmem
        unfold fitI at hsx
        have hno : Hid (shortI x = false → L.all shortI = false) := fun h => by
          rw [List.all_eq_false]
          exact ⟨_, hmem, by rw [h]; exact Bool.false_ne_true⟩
        have hyes : Hid (shortI x = true → ∀ j y, j < k + 1 → L[j]? = some y → shortI y = true) := fun h j y hj e => by
          by_cases hjk : j = k
          · subst hjk
            rw [hx] at e
            cases e
            exact h
          · exact hall.out j y (by omega) e
        obtain ⟨m1, hm1⟩ : ∃ m, x.name.length = m := ⟨_, rfl⟩
        obtain ⟨m2, hm2⟩ : ∃ m, x.dom.length = m := ⟨_, rfl⟩
        obtain ⟨m3, hm3⟩ : ∃ m, x.path.length = m := ⟨_, rfl⟩
        obtain ⟨m4, hm4⟩ : ∃ m, x.val.length = m := ⟨_, rfl⟩
        have z1 : (str x.name).size = m1 := by rw [str_size, hm1]
        have z2 : (str x.dom).size = m2 := by rw [str_size, hm2]
        have z3 : (str x.path).size = m3 := by rw [str_size, hm3]
        have z4 : (str x.val).size = m4 := by rw [str_size, hm4]
        have hsh : Hid (shortI x = (decide (m1 ≤ 300) && (decide (m2 ≤ 300) && (decide (m3 ≤ 300) && decide (m4 ≤ 300))))) := by unfold Hid shortI; rw [hm1, hm2, hm3, hm4]
        rw [hm1, hm2, hm3, hm4] at hsx
        unfold maxLen at hsx
        clear hx hmem hm1 hm2 hm3 hm4
        by_cases q1 : m1 ≤ 300
        · have q1' : ¬ (300 : Int) < (m1 : Int) := by omega
          by_cases q2 : m2 ≤ 300
          · have q2' : ¬ (300 : Int) < (m2 : Int) := by omega
            by_cases q3 : m3 ≤ 300
            · have q3' : ¬ (300 : Int) < (m3 : Int) := by omega
              by_cases q4 : m4 ≤ 300
              · have q4' : ¬ (300 : Int) < (m4 : Int) := by omega
                have h3 := Lib.hid (hyes.out (by rw [hsh.out, decide_eq_true q1, decide_eq_true q2, decide_eq_true q3, decide_eq_true q4]; rfl))
                clear hno hyes hsh
                go_wp2
                go_roundw
                case rel => exact ⟨k + 1, by omega, by go_num, h3, by first | rfl | trivial⟩
                case measure => simp [intOf]; omega
              · have q4' : (300 : Int) < (m4 : Int) := by omega
                have h3 := Lib.hid (hno.out (by rw [hsh.out, decide_eq_false q4]; simp))
                clear hno hyes hsh
                go_wp2
                go_ret
                exact ⟨by rw [h3.out]; rfl, rfl⟩
            · have q3' : (300 : Int) < (m3 : Int) := by omega
              have h3 := Lib.hid (hno.out (by rw [hsh.out, decide_eq_false q3]; simp))
              clear hno hyes hsh
              go_wp2
              go_ret
              exact ⟨by rw [h3.out]; rfl, rfl⟩
          · have q2' : (300 : Int) < (m2 : Int) := by omega
            have h3 := Lib.hid (hno.out (by rw [hsh.out, decide_eq_false q2]; simp))
            clear hno hyes hsh
            go_wp2
            go_ret
            exact ⟨by rw [h3.out]; rfl, rfl⟩
        · have q1' : (300 : Int) < (m1 : Int) := by omega
          have h3 := Lib.hid (hno.out (by rw [hsh.out, decide_eq_false q1]; simp))
          clear hno hyes hsh
          go_wp2
          go_ret
          exact ⟨by rw [h3.out]; rfl, rfl⟩
      · obtain rfl : k = n := by omega
        have e : Hid (L.all shortI = true) := by
          unfold Hid
          rw [List.all_eq_true]
          intro x hx
          obtain ⟨j, hj, rfl⟩ := List.mem_iff_getElem.1 hx
          exact hall.out j _ (by rw [Hn.out] at hj; exact hj) (List.getElem?_eq_getElem hj)
        go_wp2
        go_ret
        exact ⟨by rw [e.out]; rfl, rfl⟩
  · have h1' : (60 : Int) < (n : Int) := by omega
    rw [decide_eq_false h1, Bool.false_and]
    go_enter Tryd.func6, Tryd.ntmps6
    go_wp2
    go_ret
    exact ⟨rfl, rfl⟩
end Go.Proofs.YtjocnhkapiiblaaDoor

/- Contracts of layer 15: which keys are less, which items are ahead; the comparison that the library's sort is handed: it leaves draws and new blocks alone. -/
namespace Go.Proofs.YtjocnhkapiiblaaDoor
open Go.RowKit Go.Sort
set_option linter.unusedVariables false

set_option maxRecDepth 100000 in
theorem matchLessG (x y : ItemL) (w : World) :
    Calls Tryd.prog 10 #[.agg #[.string (str x.name), .string (str x.dom), .string (str x.path)], .agg #[.string (str y.name), .string (str y.dom), .string (str y.path)]] w fun e w' => e = .returned (.bool (keyLess x y)) ∧ Grows w w' := by
  obtain ⟨o1, o2, _⟩ := two_obj w #[.string (str x.name), .string (str x.dom), .string (str x.path)] #[.string (str y.name), .string (str y.dom), .string (str y.path)] 23 23
  have hg : Grows w ((w.alloc (.cells #[.string (str x.name), .string (str x.dom), .string (str x.path)] 23)).alloc (.cells #[.string (str y.name), .string (str y.dom), .string (str y.path)] 23)) := (Grows.alloc w _).trans (Grows.alloc _ _)
  have u0 := o1.cell 0 rfl; have u1 := o1.cell 1 rfl; have u2 := o1.cell 2 rfl
  have v0 := o2.cell 0 rfl; have v1 := o2.cell 1 rfl; have v2 := o2.cell 2 rfl
  have hk := str_toList
  unfold keyLess
  clear o1 o2
  by_cases h1 : x.name = y.name
  · have e1 : (x.name == y.name) = true := beq_iff_eq.2 h1
    rw [if_neg (by simp [h1])]
    by_cases h2 : x.dom = y.dom
    · have e2 : (x.dom == y.dom) = true := beq_iff_eq.2 h2
      rw [if_neg (by simp [h2])]
      clear h1 h2
      go_enter Tryd.func10, Tryd.ntmps10
      go_wp2
      go_ret
      exact ⟨rfl, hg⟩
    · have e2 : (x.dom == y.dom) = false := beq_eq_false_iff_ne.2 h2
      rw [if_pos h2]
      clear h1 h2
      go_enter Tryd.func10, Tryd.ntmps10
      go_wp2
      go_ret
      exact ⟨rfl, hg⟩
  · have e1 : (x.name == y.name) = false := beq_eq_false_iff_ne.2 h1
    rw [if_pos h1]
    clear h1
    go_enter Tryd.func10, Tryd.ntmps10
    go_wp2
    go_ret
    exact ⟨rfl, hg⟩

set_option maxHeartbeats 4000000 in
set_option maxRecDepth 100000 in
theorem matchBeforeG (x y : ItemL) (w : World) :
    Calls Tryd.prog 8 #[.agg #[.string (str x.name), .string (str x.dom), .string (str x.path), .string (str x.val), .bool x.host, .bool x.sec, .bool x.http, .bool x.pers, .int .i64 x.exp, .int .i64 x.made, .int .i64 x.used], .agg #[.string (str y.name), .string (str y.dom), .string (str y.path), .string (str y.val), .bool y.host, .bool y.sec, .bool y.http, .bool y.pers, .int .i64 y.exp, .int .i64 y.made, .int .i64 y.used]] w fun e w' => e = .returned (.bool (ahead x y)) ∧ Grows w w' := by
  obtain ⟨o1, o2, _⟩ := two_obj w #[.string (str x.name), .string (str x.dom), .string (str x.path), .string (str x.val), .bool x.host, .bool x.sec, .bool x.http, .bool x.pers, .int .i64 x.exp, .int .i64 x.made, .int .i64 x.used] #[.string (str y.name), .string (str y.dom), .string (str y.path), .string (str y.val), .bool y.host, .bool y.sec, .bool y.http, .bool y.pers, .int .i64 y.exp, .int .i64 y.made, .int .i64 y.used] 27 27
  have hg : Grows w ((w.alloc (.cells #[.string (str x.name), .string (str x.dom), .string (str x.path), .string (str x.val), .bool x.host, .bool x.sec, .bool x.http, .bool x.pers, .int .i64 x.exp, .int .i64 x.made, .int .i64 x.used] 27)).alloc (.cells #[.string (str y.name), .string (str y.dom), .string (str y.path), .string (str y.val), .bool y.host, .bool y.sec, .bool y.http, .bool y.pers, .int .i64 y.exp, .int .i64 y.made, .int .i64 y.used] 27)) := (Grows.alloc w _).trans (Grows.alloc _ _)
  have hk := str_toList
  have HL := fun w => matchLessG x y w
  obtain ⟨m1, hm1⟩ : ∃ m, x.path.length = m := ⟨_, rfl⟩
  obtain ⟨m2, hm2⟩ : ∃ m, y.path.length = m := ⟨_, rfl⟩
  have z1 : (str x.path).size = m1 := by rw [str_size, hm1]
  have z2 : (str y.path).size = m2 := by rw [str_size, hm2]
  unfold ahead
  rw [hm1, hm2]
  have u0 := o1.cell 0 rfl; have u1 := o1.cell 1 rfl; have u2 := o1.cell 2 rfl; have u9 := o1.cell 9 rfl
  have v0 := o2.cell 0 rfl; have v1 := o2.cell 1 rfl; have v2 := o2.cell 2 rfl; have v9 := o2.cell 9 rfl
  clear o1 o2 hm1 hm2
  by_cases h1 : m1 = m2
  · have e1 : ((m1 : Int) != (m2 : Int)) = false := by rw [h1]; simp
    rw [if_neg (by simp [h1])]
    by_cases h2 : x.made = y.made
    · have e2 : (x.made != y.made) = false := by rw [h2]; simp
      have e3 : (x.made == y.made) = true := beq_iff_eq.2 h2
      rw [if_neg (by simp [h2])]
      clear h1 h2
      go_enter Tryd.func8, Tryd.ntmps8
      go_wp2_with (go_at_call 10; (with_reducible refine (HL _).mono ?_); rintro e w1 ⟨rfl, hx⟩; have hg := hg.trans hx)
      go_ret
      exact ⟨rfl, hg⟩
    · have e2 : (x.made != y.made) = true := by simp [h2]
      have e3 : (x.made == y.made) = false := beq_eq_false_iff_ne.2 h2
      rw [if_pos h2]
      clear h1 h2
      go_enter Tryd.func8, Tryd.ntmps8
      go_wp2
      go_ret
      exact ⟨rfl, hg⟩
  · have e1 : ((m1 : Int) != (m2 : Int)) = true := by rw [bne_iff_ne]; omega
    rw [if_pos h1]
    have hd : decide ((m2 : Int) < (m1 : Int)) = decide (m2 < m1) := decide_eq_decide.2 (by omega)
    clear h1
    go_enter Tryd.func8, Tryd.ntmps8
    go_wp2
    go_ret
    exact ⟨by first | rfl | rw [← hd]; rfl, hg⟩

/-- The comparison of two items, as a number. -/
def cmpI (x y : ItemL) : Int := if ahead x y = true then -1 else if ahead y x = true then 1 else 0

set_option maxHeartbeats 4000000 in
set_option maxRecDepth 100000 in
theorem matchOrderG (x y : ItemL) (w : World) :
    Calls Tryd.prog 19 #[.agg #[.string (str x.name), .string (str x.dom), .string (str x.path), .string (str x.val), .bool x.host, .bool x.sec, .bool x.http, .bool x.pers, .int .i64 x.exp, .int .i64 x.made, .int .i64 x.used], .agg #[.string (str y.name), .string (str y.dom), .string (str y.path), .string (str y.val), .bool y.host, .bool y.sec, .bool y.http, .bool y.pers, .int .i64 y.exp, .int .i64 y.made, .int .i64 y.used]] w fun e w' => e = .returned (.int .i64 (cmpI x y)) ∧ Grows w w' := by
  obtain ⟨o1, o2, _⟩ := two_obj w #[.string (str x.name), .string (str x.dom), .string (str x.path), .string (str x.val), .bool x.host, .bool x.sec, .bool x.http, .bool x.pers, .int .i64 x.exp, .int .i64 x.made, .int .i64 x.used] #[.string (str y.name), .string (str y.dom), .string (str y.path), .string (str y.val), .bool y.host, .bool y.sec, .bool y.http, .bool y.pers, .int .i64 y.exp, .int .i64 y.made, .int .i64 y.used] 27 27
  have hg : Grows w ((w.alloc (.cells #[.string (str x.name), .string (str x.dom), .string (str x.path), .string (str x.val), .bool x.host, .bool x.sec, .bool x.http, .bool x.pers, .int .i64 x.exp, .int .i64 x.made, .int .i64 x.used] 27)).alloc (.cells #[.string (str y.name), .string (str y.dom), .string (str y.path), .string (str y.val), .bool y.host, .bool y.sec, .bool y.http, .bool y.pers, .int .i64 y.exp, .int .i64 y.made, .int .i64 y.used] 27)) := (Grows.alloc w _).trans (Grows.alloc _ _)
  have H1 := fun w => matchBeforeG x y w
  have H2 := fun w => matchBeforeG y x w
  have u0 := o1.cell 0 rfl; have u1 := o1.cell 1 rfl; have u2 := o1.cell 2 rfl; have u3 := o1.cell 3 rfl; have u4 := o1.cell 4 rfl; have u5 := o1.cell 5 rfl; have u6 := o1.cell 6 rfl; have u7 := o1.cell 7 rfl; have u8 := o1.cell 8 rfl; have u9 := o1.cell 9 rfl; have u10 := o1.cell 10 rfl
  have v0 := o2.cell 0 rfl; have v1 := o2.cell 1 rfl; have v2 := o2.cell 2 rfl; have v3 := o2.cell 3 rfl; have v4 := o2.cell 4 rfl; have v5 := o2.cell 5 rfl; have v6 := o2.cell 6 rfl; have v7 := o2.cell 7 rfl; have v8 := o2.cell 8 rfl; have v9 := o2.cell 9 rfl; have v10 := o2.cell 10 rfl
  unfold cmpI
  generalize ahead x y = A1 at *
  generalize ahead y x = A2 at *
  cases A1 with
  | true =>
    rw [if_pos rfl]
    go_enter Tryd.func19, Tryd.ntmps19
    go_wp2_with (first
    | (go_at_call 8; (with_reducible refine (H1 _).mono ?_); rintro e w1 ⟨rfl, hx⟩; have hg := hg.trans hx; have o1 := o1.below hx.below o1.lt; have o2 := o2.below hx.below o2.lt; have u0 := o1.cell 0 rfl; have u1 := o1.cell 1 rfl; have u2 := o1.cell 2 rfl; have u3 := o1.cell 3 rfl; have u4 := o1.cell 4 rfl; have u5 := o1.cell 5 rfl; have u6 := o1.cell 6 rfl; have u7 := o1.cell 7 rfl; have u8 := o1.cell 8 rfl; have u9 := o1.cell 9 rfl; have u10 := o1.cell 10 rfl; have v0 := o2.cell 0 rfl; have v1 := o2.cell 1 rfl; have v2 := o2.cell 2 rfl; have v3 := o2.cell 3 rfl; have v4 := o2.cell 4 rfl; have v5 := o2.cell 5 rfl; have v6 := o2.cell 6 rfl; have v7 := o2.cell 7 rfl; have v8 := o2.cell 8 rfl; have v9 := o2.cell 9 rfl; have v10 := o2.cell 10 rfl)
    | (go_at_call 8; (with_reducible refine (H2 _).mono ?_); rintro e w1 ⟨rfl, hx⟩; have hg := hg.trans hx))
    go_ret
    exact ⟨rfl, hg⟩
  | false =>
    rw [if_neg Bool.false_ne_true]
    cases A2 with
    | true =>
      rw [if_pos rfl]
      go_enter Tryd.func19, Tryd.ntmps19
      go_wp2_with (first
    | (go_at_call 8; (with_reducible refine (H1 _).mono ?_); rintro e w1 ⟨rfl, hx⟩; have hg := hg.trans hx; have o1 := o1.below hx.below o1.lt; have o2 := o2.below hx.below o2.lt; have u0 := o1.cell 0 rfl; have u1 := o1.cell 1 rfl; have u2 := o1.cell 2 rfl; have u3 := o1.cell 3 rfl; have u4 := o1.cell 4 rfl; have u5 := o1.cell 5 rfl; have u6 := o1.cell 6 rfl; have u7 := o1.cell 7 rfl; have u8 := o1.cell 8 rfl; have u9 := o1.cell 9 rfl; have u10 := o1.cell 10 rfl; have v0 := o2.cell 0 rfl; have v1 := o2.cell 1 rfl; have v2 := o2.cell 2 rfl; have v3 := o2.cell 3 rfl; have v4 := o2.cell 4 rfl; have v5 := o2.cell 5 rfl; have v6 := o2.cell 6 rfl; have v7 := o2.cell 7 rfl; have v8 := o2.cell 8 rfl; have v9 := o2.cell 9 rfl; have v10 := o2.cell 10 rfl)
    | (go_at_call 8; (with_reducible refine (H2 _).mono ?_); rintro e w1 ⟨rfl, hx⟩; have hg := hg.trans hx))
      go_ret
      exact ⟨rfl, hg⟩
    | false =>
      rw [if_neg Bool.false_ne_true]
      go_enter Tryd.func19, Tryd.ntmps19
      go_wp2_with (first
    | (go_at_call 8; (with_reducible refine (H1 _).mono ?_); rintro e w1 ⟨rfl, hx⟩; have hg := hg.trans hx; have o1 := o1.below hx.below o1.lt; have o2 := o2.below hx.below o2.lt; have u0 := o1.cell 0 rfl; have u1 := o1.cell 1 rfl; have u2 := o1.cell 2 rfl; have u3 := o1.cell 3 rfl; have u4 := o1.cell 4 rfl; have u5 := o1.cell 5 rfl; have u6 := o1.cell 6 rfl; have u7 := o1.cell 7 rfl; have u8 := o1.cell 8 rfl; have u9 := o1.cell 9 rfl; have u10 := o1.cell 10 rfl; have v0 := o2.cell 0 rfl; have v1 := o2.cell 1 rfl; have v2 := o2.cell 2 rfl; have v3 := o2.cell 3 rfl; have v4 := o2.cell 4 rfl; have v5 := o2.cell 5 rfl; have v6 := o2.cell 6 rfl; have v7 := o2.cell 7 rfl; have v8 := o2.cell 8 rfl; have v9 := o2.cell 9 rfl; have v10 := o2.cell 10 rfl)
    | (go_at_call 8; (with_reducible refine (H2 _).mono ?_); rintro e w1 ⟨rfl, hx⟩; have hg := hg.trans hx))
      go_ret
      exact ⟨rfl, hg⟩

theorem cmp_ahead (x y : ItemL) : Go.Proofs.ltOf cmpI x y = ahead x y := by
  unfold Go.Proofs.ltOf cmpI
  cases h1 : ahead x y with
  | true => rfl
  | false =>
    rw [if_neg Bool.false_ne_true]
    cases h2 : ahead y x with
    | true => rfl
    | false => rfl

end Go.Proofs.YtjocnhkapiiblaaDoor

/- Contracts of layer 15: slices.Clone and slices.SortStableFunc at items; match.Sort. -/
namespace Go.Proofs.YtjocnhkapiiblaaDoor
open Go.RowKit Go.Sort
set_option linter.unusedVariables false

theorem plOf : PL Tryd.prog where
  mixed := by kernel_rfl
  fStable := Tryd.func23
  fSym := Tryd.func29
  fRot := Tryd.func35
  fSwap := Tryd.func40
  fIns := Tryd.func28
  t0 := Tryd.underlying0
  a0 := Tryd.isAgg0
  z0 := Tryd.sizeOf0
  v0 := Tryd.zeroValue0
  t3 := Tryd.underlying3
  a3 := Tryd.isAgg3
  z3 := Tryd.sizeOf3
  v3 := Tryd.zeroValue3
  t4 := Tryd.underlying4
  a4 := Tryd.isAgg4
  z4 := Tryd.sizeOf4
  v4 := Tryd.zeroValue4
  tS := Tryd.underlying29
  aS := Tryd.isAgg29
  zS := Tryd.sizeOf29
  vS := Tryd.zeroValue29
  tF := Tryd.underlying41
  aF := Tryd.isAgg41
  zF := Tryd.sizeOf41
  vF := Tryd.zeroValue41
  tU := Tryd.underlying63
  aU := Tryd.isAgg63
  zU := Tryd.sizeOf63
  vU := Tryd.zeroValue63

theorem infoItemS : (Tryd.prog.info? 27).map (fun i => (i.zero, i.size, i.bytes)) = some (some (.agg #[.string ⟨#[]⟩, .string ⟨#[]⟩, .string ⟨#[]⟩, .string ⟨#[]⟩, .bool false, .bool false, .bool false, .bool false, .int .i64 0, .int .i64 0, .int .i64 0]), 11, 96) := by kernel_rfl

set_option maxRecDepth 100000 in
theorem cloneIC (a : Option Addr) (n c : Nat) (L : List ItemL) (w : World) (hL : RowOf encI 11 w a n c L) (hn : n ≤ 100000) :
    Calls Tryd.prog 17 #[.slice a n c] w (GivesZ encI 11 27 L n w) := by
  obtain ⟨i0, hi, hz0, hz1, hz2⟩ := info_parts infoItemS
  have kn := fun (w : World) (a : Option Addr) (n c : Nat) => Go.run_eql_slice_nil (P := Tryd.prog) w 29 27 a n c Tryd.underlying29
  have hleq := hL.leq
  unfold GivesZ
  cases a with
  | none =>
    have hc0 : c = 0 := hL.nil0 rfl
    have hcl := hL.cle
    obtain rfl : c = 0 := hc0
    obtain rfl : n = 0 := by omega
    obtain rfl : L = [] := List.eq_nil_of_length_eq_zero hleq
    go_enter Tryd.func17, Tryd.ntmps17
    go_wp2
    go_ret
    exact ⟨none, 0, rfl, OwnZ.none _ _ _ _ _, Below.refl _ _⟩
  | some x =>
    have hown0 := OwnZ.lit encI 11 27 w
    have hbel0 := below_alloc w (.cells #[] 27)
    have hL0 := hL.below hbel0
    have hcm := hL.capm
    have hcl := hL.cle
    have HQ := Lib.hid hleq
    clear hL hleq
    go_enter Tryd.func17, Tryd.ntmps17
    go_wp2_with (at_builtin; refine wpList_append_rows encI_len (by decide) encI_one (by rfl) (.tmp 5) (.tmp 6) 29 (by rfl) 27 i0 (.agg #[.string ⟨#[]⟩, .string ⟨#[]⟩, .string ⟨#[]⟩, .string ⟨#[]⟩, .bool false, .bool false, .bool false, .bool false, .int .i64 0, .int .i64 0, .int .i64 0]) 96 Tryd.underlying29 hi hz0 hz1 hz2 rfl hown0 rfl hL0 rfl n (by omega) (by unfold maxLen; omega) (by omega) hbel0.size ?_; intro a2 c2 w2 hO2 hb2 hg2 ha2; have hB2 := hbel0.trans hb2)
    go_ret
    exact ⟨a2, c2, rfl, hO2, hB2⟩

def encT (x : TagI) : List Value := encI x.1
theorem encT_len (x : TagI) : (encT x).length = 11 := rfl
theorem encT_one (x : TagI) : ∀ u ∈ encT x, u.oneCell' = true := encI_one x.1
def cmpT (x y : TagI) : Int := cmpI x.1 y.1
theorem cmpT_lt : Go.Proofs.ltOf cmpT = aheadT := by
  funext x y
  exact cmp_ahead x.1 y.1

theorem own_tags {base : Nat} {e : TypeId} {a : Option Addr} {n c : Nat} {T : List TagI} {w : World} (h : OwnZ encI 11 base e a n c (T.map Prod.fst) w) : OwnZ encT 11 base e a n c T w := by
  obtain ⟨h1, h2, h3, h4⟩ := h
  have e1 : flatC encT T = flatC encI (T.map Prod.fst) := by unfold flatC encT; rw [List.flatMap_map]
  exact ⟨by rw [e1]; exact h1, by rw [← h2, List.length_map], h3, h4⟩
theorem own_untag {base : Nat} {e : TypeId} {a : Option Addr} {n c : Nat} {T : List TagI} {w : World} (h : OwnZ encT 11 base e a n c T w) : OwnZ encI 11 base e a n c (T.map Prod.fst) w := by
  obtain ⟨h1, h2, h3, h4⟩ := h
  have e1 : flatC encT T = flatC encI (T.map Prod.fst) := by unfold flatC encT; rw [List.flatMap_map]
  exact ⟨by rw [← e1]; exact h1, by rw [List.length_map]; exact h2, h3, h4⟩

theorem asc_list {α : Type} [Inhabited α] {lt : α → α → Bool} {tag : α → Nat} {d : Array α} (h : Asc lt tag d 0 d.size) : d.toList.Pairwise (Sb lt tag) := by
  rw [List.pairwise_iff_getElem]
  intro i j hi hj hij
  have hi' : i < d.size := by simpa using hi
  have hj' : j < d.size := by simpa using hj
  have := h i j (Nat.zero_le _) hij hj'
  rw [getElem!_pos d i hi', getElem!_pos d j hj'] at this
  simpa using this

set_option maxRecDepth 100000 in
theorem insNoneC (w : World) : Calls Tryd.prog 28 #[.slice none 0 0, .int .i64 0, .int .i64 0, .func (.func 19) #[] #[]] w fun e w' => e = .returned (.tuple #[]) ∧ w = w' := by
  go_enter Tryd.func28, Tryd.ntmps28
  go_wp2
  refine wp_loop_rounds 1 ?_
  rw [rounds_succ]
  go_wp2
  go_end0
  exact ⟨rfl, rfl⟩

set_option maxRecDepth 100000 in
theorem stableNoneC (w : World) : Calls Tryd.prog 23 #[.slice none 0 0, .int .i64 0, .func (.func 19) #[] #[]] w fun e w' => e = .returned (.tuple #[]) ∧ w = w' := by
  have H := fun v => insNoneC v
  go_enter Tryd.func23, Tryd.ntmps23
  go_wp2
  refine wp_loop_rounds 1 ?_
  rw [rounds_succ]
  go_wp2_with (go_at_call 28; (with_reducible refine (H _).mono ?_); rintro e w1 ⟨rfl, rfl⟩)
  refine wp_loop_rounds 1 ?_
  rw [rounds_succ]
  go_wp2
  go_end0
  exact ⟨rfl, rfl⟩

theorem stableOwnC (base : Nat) (g n c : Nat) (L : List ItemL) (w : World) (hO : OwnZ encI 11 base 27 (some ⟨g, 0, none⟩) n c L w) (hg : g < w.heap.size) (hn : n ≤ 100000) :
    Calls Tryd.prog 23 #[.slice (some ⟨g, 0, none⟩) n c, .int .i64 n, .func (.func 19) #[] #[]] w fun e w' => e = .returned (.tuple #[]) ∧ OwnZ encI 11 base 27 (some ⟨g, 0, none⟩) n c (sortI L) w' ∧ Keeps (fun k => k = g) w w' := by
  have hOT : OwnZ encT 11 base 27 (some ⟨g, 0, none⟩) n c (tagged L) w := own_tags (by rw [tagged_fst]; exact hO)
  have hlen : (tagged L).toArray.size = n := by simp [tagged_len, hO.2.1]
  have eg : ∀ args w, (callFunc 19 args).run Tryd.prog w = .ok (.enter 19 args) w := enters_of Tryd.func19 (by kernel_rfl) rfl
  have hcmp : Go.Proofs.CmpLays Tryd.prog 19 #[] encT 11 cmpT g 0 (tagged L).toArray.size w := fun _ _ _ _ x y => matchOrderG x.1 y.1 _
  have hR : Go.Proofs.RowK encT 11 w g 0 (tagged L).toArray := ⟨encT_len, encT_one, own_holds encT_len hOT, hg⟩
  have ht : ∀ p q, p < q → q < n → ((tagged L).toArray[p]!).2 < ((tagged L).toArray[q]!).2 := fun p q h1 h2 => by
    have hp : p < (tagged L).toArray.size := by omega
    have hq : q < (tagged L).toArray.size := by omega
    rw [getElem!_pos _ p hp, getElem!_pos _ q hq, List.getElem_toArray, List.getElem_toArray, tagged_at, tagged_at]
    exact h1
  have h := stableS plOf Tryd.insItems 11 Tryd.isAgg27 Tryd.sizeOf27 encT cmpT Prod.snd (by rw [cmpT_lt]; exact swoT) 19 #[] g 0 c n (tagged L).toArray w eg hcmp hR hlen (by omega) ht
  refine h.mono ?_
  rintro e w' ⟨rfl, d', ⟨m, os, rfl⟩, hM⟩
  have hs : d'.size = n := hM.perm.1.trans hlen
  have hp : d'.toList.Perm (tagged L) := by
    have hperm := hM.perm
    rw [← hlen] at hperm
    have := (permIn_all hperm).2
    simpa using this
  have hasc := hM.asc
  rw [cmpT_lt, ← hs] at hasc
  have hl : d'.toList.map Prod.fst = sortI L := sort_tagged hp (asc_list hasc)
  have hown := own_sorted encT_len hOT d'.toList (by simpa using hs) m os
  rw [Array.toArray_toList] at hown
  refine ⟨rfl, ?_, keeps_sortedK d'⟩
  rw [← hl]
  exact own_untag hown

set_option maxRecDepth 100000 in
theorem sortStableC (base : Nat) (q : Option Addr) (n c : Nat) (L : List ItemL) (w : World) (hO : OwnZ encI 11 base 27 q n c L w) (hb : base ≤ w.heap.size) (hn : n ≤ 100000) :
    Calls Tryd.prog 18 #[.slice q n c, .func (.func 19) #[] #[]] w fun e w' => e = .returned (.tuple #[]) ∧ OwnZ encI 11 base 27 q n c (sortI L) w' ∧ Below base w w' := by
  rcases hO.head with ⟨rfl, rfl, rfl⟩ | ⟨g, rfl, hg1, hg2⟩
  · obtain rfl : L = [] := List.eq_nil_of_length_eq_zero hO.2.1
    have H := fun v => stableNoneC v
    go_enter Tryd.func18, Tryd.ntmps18
    go_wp2_with (go_at_call 23; (with_reducible refine (H _).mono ?_); rintro e w1 ⟨rfl, rfl⟩)
    go_end0
    exact ⟨rfl, hO, Below.refl _ _⟩
  · have H := stableOwnC base g n c L w hO hg2 hn
    have HB : Hid (∀ w', Keeps (fun k => k = g) w w' → Below base w w') := fun w' hk => hk.below hb (fun i _ h => by omega)
    clear hO
    go_enter Tryd.func18, Tryd.ntmps18
    go_wp2_with (go_at_call 23; (with_reducible refine H.mono ?_); rintro e w1 ⟨rfl, h1, h2⟩)
    go_end0
    exact ⟨rfl, h1, HB.out _ h2⟩

set_option maxRecDepth 100000 in
theorem sortItemsC (a : Option Addr) (n c : Nat) (L : List ItemL) (w : World) (hL : RowOf encI 11 w a n c L) (hn : n ≤ 100000) :
    Calls Tryd.prog 12 #[.slice a n c] w (GivesZ encI 11 27 (sortI L) n w) := by
  have H1 := cloneIC a n c L w hL hn
  have H2 := fun (q : Option Addr) (c' : Nat) (v : World) (hO : OwnZ encI 11 w.heap.size 27 q n c' L v) (hb : w.heap.size ≤ v.heap.size) => sortStableC w.heap.size q n c' L v hO hb hn
  unfold GivesZ at H1 ⊢
  clear hL
  go_enter Tryd.func12, Tryd.ntmps12
  go_wp2_with (first
    | (go_at_call 17; (with_reducible refine H1.mono ?_); rintro e w1 ⟨q, c1, rfl, hO, hb⟩)
    | (go_at_call 18; (with_reducible refine (H2 _ _ _ hO hb.size).mono ?_); rintro e w2 ⟨rfl, hO2, hb2⟩; have hb3 := hb.trans hb2))
  go_ret
  exact ⟨q, c1, rfl, hO2, hb3⟩
end Go.Proofs.YtjocnhkapiiblaaDoor

/- Contracts of layer 15: which items go with a request, in order. -/
namespace Go.Proofs.YtjocnhkapiiblaaDoor
open Go.RowKit
set_option linter.unusedVariables false

theorem short_mem {L : List ItemL} (h : lightI L = true) : L.length ≤ 60 ∧ ∀ x ∈ L, x.name.length ≤ 300 ∧ x.dom.length ≤ 300 ∧ x.path.length ≤ 300 ∧ x.val.length ≤ 300 := by
  unfold lightI at h
  rw [Bool.and_eq_true, decide_eq_true_iff, List.all_eq_true] at h
  refine ⟨h.1, fun x hx => ?_⟩
  have := h.2 x hx
  unfold shortI at this
  simpa [Bool.and_eq_true] using this

set_option maxHeartbeats 4000000 in
set_option maxRecDepth 100000 in
theorem pickItemsC (a : Option Addr) (n c : Nat) (L : List ItemL) (h p : List UInt8) (sec scr : Bool) (now : Int) (w : World) (hL : RowOf encI 11 w a n c L) (hl : lightI L = true) (lh : h.length ≤ 300) (lp : p.length ≤ 300) (hT : PTab Tryd.prog w) :
    Calls Tryd.prog 15 #[.slice a n c, .agg #[.string (str h), .string (str p), .bool sec, .bool scr], .int .i64 now] w (GivesZ encI 11 27 (pickI L h p sec scr now) (pickI L h p sec scr now).length w) := by
  obtain ⟨hn60, hsh⟩ := short_mem hl
  have hcm := hL.capm
  have hcl := hL.cle
  have hleq := hL.leq
  unfold maxLen at hcm
  obtain ⟨i0, hi, hz0, hz1, hz2⟩ := info_parts infoItemS
  have o0 := ObjAt.new w #[.string (str h), .string (str p), .bool sec, .bool scr] 36
  have hb0 := below_alloc w (.cells #[.string (str h), .string (str p), .bool sec, .bool scr] 36)
  have hs0 : w.heap.size + 1 = (w.alloc (.cells #[.string (str h), .string (str p), .bool sec, .bool scr] 36)).heap.size := by simp
  generalize hw0 : w.alloc (.cells #[.string (str h), .string (str p), .bool sec, .bool scr] 36) = w0 at *
  have hL0 := hL.below hb0
  have hT0 := hT.below hb0
  have HFT : Hid (∀ (x : ItemL) (v : World), x ∈ L → PTab Tryd.prog v → Calls Tryd.prog 20 #[.agg #[.string (str x.name), .string (str x.dom), .string (str x.path), .string (str x.val), .bool x.host, .bool x.sec, .bool x.http, .bool x.pers, .int .i64 x.exp, .int .i64 x.made, .int .i64 x.used], .agg #[.string (str h), .string (str p), .bool sec, .bool scr], .int .i64 now] v fun e v' => e = .returned (.bool (fitsX x h p sec scr now)) ∧ Below v.heap.size v v') := fun x v hx hv => by
    obtain ⟨_, k2, k3, _⟩ := hsh x hx
    exact fitsC14 x.name x.dom x.path x.val x.host x.sec x.http x.pers x.exp x.made x.used h p sec scr now v (by omega) (by omega) (by omega) (by omega) hv
  have HSO : Hid (∀ (q : Option Addr) (m c' : Nat) (P : List ItemL) (v : World), OwnZ encI 11 w0.heap.size 27 q m c' P v → m ≤ 60 → Calls Tryd.prog 12 #[.slice q m c'] v fun e v' => ∃ b d, e = .returned (.slice b m d) ∧ OwnZ encI 11 v.heap.size 27 b m d (sortI P) v' ∧ Below v.heap.size v v') := fun q m c' P v hq hm =>
    sortItemsC q m c' P v (hq.row encI_len) (by omega)
  have hpick : Hid (pickI L h p sec scr now = sortI (L.filter fun x => fitsX x h p sec scr now)) := rfl
  have hplen : Hid ((pickI L h p sec scr now).length = (L.filter fun x => fitsX x h p sec scr now).length) := (sort_perm _).length_eq
  have HF0 : Hid (∀ x, x ∈ L → x ∈ L) := fun _ h => h
  unfold GivesZ
  obtain ⟨PK, hPK⟩ : ∃ q, q = pickI L h p sec scr now := ⟨_, rfl⟩
  rw [← hPK]
  have HPK := Lib.hid hPK
  obtain ⟨F, hF⟩ : ∃ F : ItemL → Bool, F = fun x => fitsX x h p sec scr now := ⟨_, rfl⟩
  have HFE : Hid (∀ x, fitsX x h p sec scr now = F x) := fun x => by rw [hF]
  have HFF : Hid (F = fun x => fitsX x h p sec scr now) := hF
  clear hPK hF hL hT hl hsh hcm
  go_enter Tryd.func15, Tryd.ntmps15
  go_wp2
  go_loopw [7, 12] (fun v i wr => ∃ (k m c2 : Nat) (q : Option Addr), k ≤ n ∧ m ≤ k ∧ i = .int .i64 (k : Int) ∧ v = .slice q m c2 ∧ OwnZ encI 11 w0.heap.size 27 q m c2 ((L.take k).filter F) wr ∧ Below w0.heap.size w0 wr) (fun _ i _ => n - (intOf i).toNat)
  case atStart => exact ⟨0, 0, 0, none, Nat.zero_le _, Nat.le_refl _, rfl, rfl, OwnZ.none _ _ _ _ _, Below.refl _ _⟩
  case round =>
    obtain ⟨k, m, c2, q, hk, hm, rfl, rfl, hz, hb⟩ := hrel
    have hwr : w0.heap.size ≤ wr.heap.size := hb.size
    have or0 := o0.below hb (by omega)
    by_cases hlt : k < n
    · have hlt' : (k : Int) < (n : Int) := by omega
      obtain ⟨x, g, off, hxk, rfl, u0, u1, u2, u3, u4, u5, u6, u7, u8, u9, u10⟩ := item_at (hL0.below hb) k hlt
      have hmem := List.mem_of_getElem? hxk
      have HSTEP : Hid ((L.take (k + 1)).filter F = (L.take k).filter F ++ (if F x = true then [x] else [])) := by
        show _ = _
        rw [take_snocI hxk, List.filter_append]
        congr 1
        cases hfx : F x <;> simp [hfx]
      have o1 := ObjAt.new wr #[.string (str x.name), .string (str x.dom), .string (str x.path), .string (str x.val), .bool x.host, .bool x.sec, .bool x.http, .bool x.pers, .int .i64 x.exp, .int .i64 x.made, .int .i64 x.used] 27
      have b1 := below_alloc wr (.cells #[.string (str x.name), .string (str x.dom), .string (str x.path), .string (str x.val), .bool x.host, .bool x.sec, .bool x.http, .bool x.pers, .int .i64 x.exp, .int .i64 x.made, .int .i64 x.used] 27)
      have hzA := hz.below b1 (Nat.le_refl _)
      have hb1 := hb.trans (b1.mono hb.size)
      have or1 := or0.below b1 or0.lt
      have HC := HFT.out x _ hmem (hT0.below hb1)
      rw [HFE.out x] at HC
      have lo1 := o1.lt
      have hx1 : wr.heap.size < (wr.alloc (.cells #[.string (str x.name), .string (str x.dom), .string (str x.path), .string (str x.val), .bool x.host, .bool x.sec, .bool x.http, .bool x.pers, .int .i64 x.exp, .int .i64 x.made, .int .i64 x.used] 27)).heap.size := by simp
      have v0 := o1.cell 0 rfl; have v1 := o1.cell 1 rfl; have v2 := o1.cell 2 rfl; have v3 := o1.cell 3 rfl; have v4 := o1.cell 4 rfl; have v5 := o1.cell 5 rfl; have v6 := o1.cell 6 rfl; have v7 := o1.cell 7 rfl; have v8 := o1.cell 8 rfl; have v9 := o1.cell 9 rfl; have v10 := o1.cell 10 rfl
      have r0 := or1.cell 0 rfl; have r1 := or1.cell 1 rfl; have r2 := or1.cell 2 rfl; have r3 := or1.cell 3 rfl
      generalize (L.take k).filter F = R at *
      clear hxk hz b1 hmem or0 or1
      cases hfx : F x with
      | true =>
        rw [hfx, if_pos rfl] at HSTEP
        rw [hfx] at HC
        go_wp2_with (first
          | (go_at_call 20; (with_reducible refine HC.mono ?_); rintro e w1 ⟨rfl, hx⟩; have o2 := o1.below hx lo1; have hz2' := hzA.below hx (Nat.le_refl _); have hb2 := hb1.trans (hx.mono hb1.size); have x0 := o2.cell 0 rfl; have x1 := o2.cell 1 rfl; have x2 := o2.cell 2 rfl; have x3 := o2.cell 3 rfl; have x4 := o2.cell 4 rfl; have x5 := o2.cell 5 rfl; have x6 := o2.cell 6 rfl; have x7 := o2.cell 7 rfl; have x8 := o2.cell 8 rfl; have x9 := o2.cell 9 rfl; have x10 := o2.cell 10 rfl; have hsz1 := hx.size)
          | (at_builtin; refine wpList_append_row1 encI_len (by decide) encI_one rfl (.tmp 20) (.tmp 22) 29 rfl 27 i0 (.agg #[.string ⟨#[]⟩, .string ⟨#[]⟩, .string ⟨#[]⟩, .string ⟨#[]⟩, .bool false, .bool false, .bool false, .bool false, .int .i64 0, .int .i64 0, .int .i64 0]) 96 Tryd.underlying29 hi hz0 hz1 hz2 rfl hz2' rfl x rfl rfl (m + 1) rfl (by unfold maxLen; omega) (by omega) (by omega) ?_; intro q3 c3 w3 hz3 hx3 hg3 hn3; have hb3 := hb2.trans hx3))
        go_roundw
        case rel => exact ⟨k + 1, m + 1, c3, q3, by omega, by omega, by go_num, rfl, by rw [HSTEP.out]; exact hz3, hb3⟩
        case measure => simp [intOf]; omega
      | false =>
        rw [hfx, if_neg Bool.false_ne_true, List.append_nil] at HSTEP
        rw [hfx] at HC
        go_wp2_with (go_at_call 20; (with_reducible refine HC.mono ?_); rintro e w1 ⟨rfl, hx⟩; have hz2' := hzA.below hx (Nat.le_refl _); have hb2 := hb1.trans (hx.mono hb1.size))
        go_roundw
        case rel => exact ⟨k + 1, m, c2, q, by omega, by omega, by go_num, rfl, by rw [HSTEP.out]; exact hz2', hb2⟩
        case measure => simp [intOf]; omega
    · obtain rfl : k = n := by omega
      have e0 : L.take k = L := List.take_of_length_le (by rw [hleq]; exact Nat.le_refl _)
      rw [e0] at hz
      have HS := HSO.out q m c2 _ wr hz (by omega)
      have HPL : Hid (PK.length = m) := by show _ = _; rw [HPK.out, hplen.out, ← HFF.out]; exact hz.2.1
      have hb0w := hb0.trans (hb.mono (by omega))
      have HPI : Hid (PK = sortI (L.filter F)) := by show _ = _; rw [HPK.out, hpick.out, ← HFF.out]
      have hle : w.heap.size ≤ wr.heap.size := by omega
      clear hz e0
      generalize sortI (L.filter F) = SI at *
      go_wp2_with (go_at_call 12; (with_reducible refine HS.mono ?_); rintro e w2 ⟨b, d, rfl, hO, hx⟩)
      go_ret
      exact ⟨b, d, by rw [HPL.out]; rfl, by rw [HPL.out, HPI.out]; exact hO.base hle, hb0w.trans (hx.mono hle)⟩
end Go.Proofs.YtjocnhkapiiblaaDoor

/- Contracts of layer 15: the text of items that go with a request. -/
namespace Go.Proofs.YtjocnhkapiiblaaDoor
open Go.RowKit
set_option linter.unusedVariables false

/-- The text of items that go with a request. -/
def textI (l : List ItemL) : List UInt8 := (l.foldl (fun (s : List UInt8 × Bool) x => ((if s.2 = true then s.1 ++ [59, 32] else s.1) ++ (x.name ++ 61 :: x.val), true)) ([], false)).1

theorem text_flag (l : List ItemL) (s : List UInt8 × Bool) (h : s.2 = true ∨ l ≠ []) : (l.foldl (fun (s : List UInt8 × Bool) x => ((if s.2 = true then s.1 ++ [59, 32] else s.1) ++ (x.name ++ 61 :: x.val), true)) s).2 = true := by
  induction l generalizing s with
  | nil => exact h.elim id (fun c => absurd rfl c)
  | cons y l ih => exact ih _ (.inl rfl)
theorem text_snoc (l : List ItemL) (x : ItemL) : textI (l ++ [x]) = (if l = [] then textI l else textI l ++ [59, 32]) ++ (x.name ++ 61 :: x.val) := by
  unfold textI
  rw [List.foldl_append, List.foldl_cons, List.foldl_nil]
  cases l with
  | nil => rfl
  | cons y l => simp only [text_flag (y :: l) _ (.inr (by simp)), if_true, reduceCtorEq, if_false]

theorem cell_same {w w' : World} {k : Nat} {cur : Array Value} {e : TypeId} {fr : Nat × Nat} (h : w.heap[k]? = some (.cells cur e fr)) (h' : w'.heap[k]? = some (.cells cur e fr)) (j : Nat) : w'.cell? ⟨k, j, none⟩ = w.cell? ⟨k, j, none⟩ := by
  simp [World.cell?, h, h']
theorem heap_new (w : World) (A : Array Value) (e : TypeId) : (w.alloc (.cells A e)).heap[w.heap.size]? = some (.cells A e (0, 0)) := by
  unfold World.alloc
  simp

set_option maxHeartbeats 4000000 in
set_option maxRecDepth 100000 in
theorem textItemsC (a : Option Addr) (n c : Nat) (L : List ItemL) (w : World) (hL : RowOf encI 11 w a n c L) (hn : n ≤ 60) (hS : ∀ x ∈ L, x.name.length ≤ 300 ∧ x.val.length ≤ 300) :
    Calls Tryd.prog 16 #[.slice a n c] w fun e w' => e = .returned (.string (str (textI L))) ∧ Below w.heap.size w w' := by
  have hcl := hL.cle
  have hleq := hL.leq
  have hB0 := bld_new w
  have hb0 := below_alloc w (.cells #[.pointer none, .slice none 0 0] 46)
  obtain ⟨BB, hBB⟩ : ∃ q, q = w.heap.size := ⟨_, rfl⟩
  have hs0 : BB < (w.alloc (.cells #[.pointer none, .slice none 0 0] 46)).heap.size := by rw [hBB]; simp
  rw [← hBB] at hB0 hb0
  have HBB := Lib.hid hBB
  clear hBB
  have e0 : w.heap.size = BB := HBB.out.symm
  have HLW : Hid (∀ v, Below BB w v → RowOf encI 11 v a n c L) := fun v hv => hL.below (by rw [← HBB.out]; exact hv)
  have HSL := Lib.hid hS
  have HLE := Lib.hid hleq
  have h0b : Hid (Bld BB BB (textI (L.take 0)) (w.alloc (.cells #[.pointer none, .slice none 0 0] 46))) := hB0
  clear hL hS hleq hB0
  generalize hw0 : w.alloc (.cells #[.pointer none, .slice none 0 0] 46) = w0 at *
  go_enter Tryd.func16, Tryd.ntmps16
  go_wp2
  go_loopw [8] (fun i wr => ∃ k : Nat, k ≤ n ∧ i = .int .i64 (k : Int) ∧ BB < wr.heap.size ∧ Below BB w wr ∧ Hid ((textI (L.take k)).length ≤ k * 603 ∧ Bld BB BB (textI (L.take k)) wr)) (fun i _ => n - (intOf i).toNat)
  case atStart => exact ⟨0, Nat.zero_le _, rfl, hs0, hb0, (show Hid _ from ⟨Nat.zero_le _, h0b.out⟩)⟩
  case round =>
    obtain ⟨k, hk, rfl, hBw, hb, HB⟩ := hrel
    by_cases hlt : k < n
    · have hlt' : (k : Int) < (n : Int) := by omega
      obtain ⟨x, g, off, hxk, rfl, u0, u1, u2, u3, u4, u5, u6, u7, u8, u9, u10⟩ := item_at (HLW.out wr hb) k hlt
      obtain ⟨sn, sv⟩ := HSL.out x (List.mem_of_getElem? hxk)
      have HST : Hid (textI (L.take (k + 1)) = (if k = 0 then textI (L.take k) else textI (L.take k) ++ [59, 32]) ++ (x.name ++ 61 :: x.val)) := by
        show _ = _
        rw [take_snocI hxk, text_snoc]
        by_cases c : k = 0
        · subst c; rfl
        · rw [if_neg c, if_neg]
          intro h
          have := congrArg List.length h
          rw [List.length_take, HLE.out, List.length_nil] at this
          omega
      have ox := heap_new wr #[.string (str x.name), .string (str x.dom), .string (str x.path), .string (str x.val), .bool x.host, .bool x.sec, .bool x.http, .bool x.pers, .int .i64 x.exp, .int .i64 x.made, .int .i64 x.used] 27
      have bx := HB.out.2.alloc (.cells #[.string (str x.name), .string (str x.dom), .string (str x.path), .string (str x.val), .bool x.host, .bool x.sec, .bool x.http, .bool x.pers, .int .i64 x.exp, .int .i64 x.made, .int .i64 x.used] 27)
      change Bld BB BB (textI (L.take k)) _ at bx
      have lx := HB.out.1
      generalize textI (L.take k) = O at *
      have b1 := hb.trans ((below_alloc wr (.cells #[.string (str x.name), .string (str x.dom), .string (str x.path), .string (str x.val), .bool x.host, .bool x.sec, .bool x.http, .bool x.pers, .int .i64 x.exp, .int .i64 x.made, .int .i64 x.used] 27)).mono (Nat.le_of_lt hBw))
      have z1 : wr.heap.size < (wr.alloc (.cells #[.string (str x.name), .string (str x.dom), .string (str x.path), .string (str x.val), .bool x.host, .bool x.sec, .bool x.http, .bool x.pers, .int .i64 x.exp, .int .i64 x.made, .int .i64 x.used] 27)).heap.size := by simp
      have zne : ¬ wr.heap.size = BB := by omega
      obtain ⟨W, hW⟩ : ∃ q, q = wr.heap.size := ⟨_, rfl⟩
      have oc := ObjAt.new wr #[.string (str x.name), .string (str x.dom), .string (str x.path), .string (str x.val), .bool x.host, .bool x.sec, .bool x.http, .bool x.pers, .int .i64 x.exp, .int .i64 x.made, .int .i64 x.used] 27
      have c0 := oc.cell 0 rfl; have c3 := oc.cell 3 rfl
      have HOX := Lib.hid ox
      have HBX := Lib.hid bx
      have HLX := Lib.hid lx
      clear ox bx lx hxk HB oc
      by_cases k0 : k = 0
      · have kpos : ¬ (0 : Int) < (k : Int) := by omega
        rw [if_pos k0] at HST
        have hox0 := HOX.out; have d00 := c0; have d30 := c3; have hl0 := HLX.out
        have hl2 : O.length ≤ 0 := by rw [k0] at hl0; simpa using hl0
        have K0 := Lib.hid k0
        clear k0
        skip
        have G1 := writeC BB BB O x.name _ HBX.out (by omega) (by omega)
        clear HOX HBX HLX c0 c3
        go_wp2_with (first
          | (go_at_call 21; (with_reducible refine G1.mono ?_); rintro e v1 ⟨rfl, hbl1, hbb1, hkk1⟩; clear G1; have hox1 := hkk1 _ _ _ _ hox0 zne (by decide); have z2 := Nat.lt_of_lt_of_le z1 hbb1.size; have b2 := b1.trans (hbb1.mono (by omega)); have d01 := (cell_same hox0 hox1 0).trans d00; have d31 := (cell_same hox0 hox1 3).trans d30; have G2 : Calls Tryd.prog 21 #[.pointer (some ⟨BB, 0, none⟩), .string ⟨#[61]⟩] _ _ := writeC BB BB (O ++ x.name) [61] v1 hbl1 (by simp; omega) (by omega))
          | (go_at_call 21; (with_reducible refine G2.mono ?_); rintro e v2 ⟨rfl, hbl2, hbb2, hkk2⟩; clear G2; have hox2 := hkk2 _ _ _ _ hox1 zne (by decide); have z3 := Nat.lt_of_lt_of_le z2 hbb2.size; have b3 := b2.trans (hbb2.mono (by omega)); have d02 := (cell_same hox1 hox2 0).trans d01; have d32 := (cell_same hox1 hox2 3).trans d31; have G3 := writeC BB BB (O ++ x.name ++ [61]) x.val v2 hbl2 (by simp; omega) (by omega))
          | (go_at_call 21; (with_reducible refine G3.mono ?_); rintro e v3 ⟨rfl, hbl3, hbb3, hkk3⟩; clear G3; have hox3 := hkk3 _ _ _ _ hox2 zne (by decide); have z4 := Nat.lt_of_lt_of_le z3 hbb3.size; have b4 := b3.trans (hbb3.mono (by omega)); have d03 := (cell_same hox2 hox3 0).trans d02; have d33 := (cell_same hox2 hox3 3).trans d32))
        go_roundw
        case rel =>
          refine ⟨k + 1, by omega, by go_num, by omega, b4, (show Hid _ from ⟨?_, ?_⟩)⟩
          · rw [HST.out]; simp; omega
          · rw [HST.out]
            have e9 : O ++ (x.name ++ 61 :: x.val) = O ++ x.name ++ [61] ++ x.val := by simp
            rw [e9]; exact hbl3
        case measure => simp [intOf]; omega
      · have kpos : (0 : Int) < (k : Int) := by omega
        rw [if_neg k0] at HST
        have hox0 := HOX.out; have d00 := c0; have d30 := c3; have hl0 := HLX.out
        have hk603 : k * 603 ≤ 36180 := by omega
        have G0 : Calls Tryd.prog 21 #[.pointer (some ⟨BB, 0, none⟩), .string ⟨#[59, 32]⟩] _ _ := writeC BB BB O [59, 32] _ HBX.out (by simp; omega) (by omega)
        clear HOX HBX HLX c0 c3
        go_wp2_with (first
          | (go_at_call 21; (with_reducible refine G0.mono ?_); rintro e v1 ⟨rfl, hbl1, hbb1, hkk1⟩; clear G0; have hox1 := hkk1 _ _ _ _ hox0 zne (by decide); have z2 := Nat.lt_of_lt_of_le z1 hbb1.size; have b2 := b1.trans (hbb1.mono (by omega)); have d01 := (cell_same hox0 hox1 0).trans d00; have d31 := (cell_same hox0 hox1 3).trans d30; have G1 := writeC BB BB (O ++ [59, 32]) x.name v1 hbl1 (by simp; omega) (by omega))
          | (go_at_call 21; (with_reducible refine G1.mono ?_); rintro e v2 ⟨rfl, hbl2, hbb2, hkk2⟩; clear G1; have hox2 := hkk2 _ _ _ _ hox1 zne (by decide); have z3 := Nat.lt_of_lt_of_le z2 hbb2.size; have b3 := b2.trans (hbb2.mono (by omega)); have d02 := (cell_same hox1 hox2 0).trans d01; have d32 := (cell_same hox1 hox2 3).trans d31; have G2 : Calls Tryd.prog 21 #[.pointer (some ⟨BB, 0, none⟩), .string ⟨#[61]⟩] _ _ := writeC BB BB ((O ++ [59, 32]) ++ x.name) [61] v2 hbl2 (by simp; omega) (by omega))
          | (go_at_call 21; (with_reducible refine G2.mono ?_); rintro e v3 ⟨rfl, hbl3, hbb3, hkk3⟩; clear G2; have hox3 := hkk3 _ _ _ _ hox2 zne (by decide); have z4 := Nat.lt_of_lt_of_le z3 hbb3.size; have b4 := b3.trans (hbb3.mono (by omega)); have d03 := (cell_same hox2 hox3 0).trans d02; have d33 := (cell_same hox2 hox3 3).trans d32; have G3 := writeC BB BB ((O ++ [59, 32]) ++ x.name ++ [61]) x.val v3 hbl3 (by simp; omega) (by omega))
          | (go_at_call 21; (with_reducible refine G3.mono ?_); rintro e v4 ⟨rfl, hbl4, hbb4, hkk4⟩; clear G3; have hox4 := hkk4 _ _ _ _ hox3 zne (by decide); have z5 := Nat.lt_of_lt_of_le z4 hbb4.size; have b5 := b4.trans (hbb4.mono (by omega)); have d04 := (cell_same hox3 hox4 0).trans d03; have d34 := (cell_same hox3 hox4 3).trans d33))
        go_roundw
        case rel =>
          refine ⟨k + 1, by omega, by go_num, by omega, b5, (show Hid _ from ⟨?_, ?_⟩)⟩
          · rw [HST.out]; simp; omega
          · rw [HST.out]
            have e9 : (O ++ [59, 32]) ++ (x.name ++ 61 :: x.val) = (O ++ [59, 32]) ++ x.name ++ [61] ++ x.val := by simp
            rw [e9]; exact hbl4
        case measure => simp [intOf]; omega
    · obtain rfl : k = n := by omega
      have e0 : L.take k = L := List.take_of_length_le (by rw [HLE.out]; exact Nat.le_refl _)
      have HZ := HB.out.2
      rw [e0] at HZ
      have HT := buildC BB BB _ wr HZ (Nat.le_of_lt hBw)
      have HBB2 := Lib.hid HBB.out
      clear HZ e0 HB
      obtain ⟨TL, hTL⟩ : ∃ q, q = textI L := ⟨_, rfl⟩
      rw [← hTL] at HT
      have HTL := Lib.hid hTL
      clear hTL
      go_wp2_with (go_at_call 22; (with_reducible refine HT.mono ?_); rintro e w2 ⟨rfl, hx⟩)
      go_ret
      exact ⟨by rw [← HTL.out]; rfl, by first | exact hb.trans hx | (rw [← HBB.out]; exact hb.trans hx)⟩
end Go.Proofs.YtjocnhkapiiblaaDoor

/- How items as arguments are opened. -/
namespace Go.Proofs.YtjocnhkapiiblaaDoor
open Go.ChangeShapes Go.WideShapes Go.ChangeAt Go.RowKit
set_option linter.unusedVariables false


theorem leaves_item {l : List Value} (q0 : leavesOk [.text, .text, .text, .text, .flag, .flag, .flag, .flag, .num .i64, .num .i64, .num .i64] l) : ∃ x : ItemL, l = encI x ∧ fitI x := by
  obtain ⟨v0, l0, e0, ⟨nm, rfl, z0⟩, q1⟩ := leaves_cons q0
  obtain ⟨v1, l1, e1, ⟨dm, rfl, z1⟩, q2⟩ := leaves_cons q1
  obtain ⟨v2, l2, e2, ⟨pa, rfl, z2⟩, q3⟩ := leaves_cons q2
  obtain ⟨v3, l3, e3, ⟨va, rfl, z3⟩, q4⟩ := leaves_cons q3
  obtain ⟨v4, l4, e4, ⟨ho, rfl⟩, q5⟩ := leaves_cons q4
  obtain ⟨v5, l5, e5, ⟨se, rfl⟩, q6⟩ := leaves_cons q5
  obtain ⟨v6, l6, e6, ⟨ht, rfl⟩, q7⟩ := leaves_cons q6
  obtain ⟨v7, l7, e7, ⟨pe, rfl⟩, q8⟩ := leaves_cons q7
  obtain ⟨v8, l8, e8, ⟨ex, rfl, -⟩, q9⟩ := leaves_cons q8
  obtain ⟨v9, l9, e9, ⟨cr, rfl, -⟩, q10⟩ := leaves_cons q9
  obtain ⟨v10, l10, e10, ⟨ac, rfl, -⟩, q11⟩ := leaves_cons q10
  have e11 := leaves_nil q11
  subst e11 e10 e9 e8 e7 e6 e5 e4 e3 e2 e1 e0
  exact ⟨⟨nm, dm, pa, va, ho, se, ht, pe, ex, cr, ac⟩, rfl, z0, z1, z2, z3⟩

theorem open_items {H : Type} {enc : TypeId × Value → H} {w : World} {r : Reach} {b0 : Nat} {v : Value} {d : DataW H} {p : List MemPlace} (hv : Value.okWide Tryd.prog w r b0 29 v) (h : DataW.Trod enc Tryd.prog w 0 (fun _ => true) true 29 v d p) :
    ∃ a len cap, ∃ Q : List ItemL, v = .slice a len cap ∧ RowOf encI 11 w a len cap Q ∧ ∀ x ∈ Q, fitI x :=
  open_rows_of encI fitI 11 4 [.text, .text, .text, .text, .flag, .flag, .flag, .flag, .num .i64, .num .i64, .num .i64] Tryd.underlying29 (by kernel_rfl) (by decide) (by kernel_rfl) (fun cs h => leaves_item h) hv h

theorem open_itemX {H : Type} {enc : TypeId × Value → H} {w : World} {r : Reach} {b0 : Nat} {v : Value} {d : DataW H} {p : List MemPlace} (hv : Value.okWide Tryd.prog w r b0 27 v) (h : DataW.Trod enc Tryd.prog w 0 (fun _ => true) true 27 v d p) :
    ∃ x : ItemL, v = .agg #[.string (str x.name), .string (str x.dom), .string (str x.path), .string (str x.val), .bool x.host, .bool x.sec, .bool x.http, .bool x.pers, .int .i64 x.exp, .int .i64 x.made, .int .i64 x.used] ∧ fitI x := by
  obtain ⟨cs, rfl, hl⟩ := open_flat 4 [.text, .text, .text, .text, .flag, .flag, .flag, .flag, .num .i64, .num .i64, .num .i64] Tryd.underlying27 (by kernel_rfl) hv h
  obtain ⟨x, h1, h2⟩ := leaves_item hl
  refine ⟨x, ?_, h2⟩
  have : cs = #[.string (str x.name), .string (str x.dom), .string (str x.path), .string (str x.val), .bool x.host, .bool x.sec, .bool x.http, .bool x.pers, .int .i64 x.exp, .int .i64 x.made, .int .i64 x.used] := Array.toList_inj.mp h1
  rw [this]
end Go.Proofs.YtjocnhkapiiblaaDoor
