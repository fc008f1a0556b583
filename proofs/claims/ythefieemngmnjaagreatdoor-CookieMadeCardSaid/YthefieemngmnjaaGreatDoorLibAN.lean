/- Contracts and plain words that the laws' proofs stand on, put together. -/
import Derived.Test.YthefieemngmnjaaGreatDoorCookieDo
import Derived.Test.YthefieemngmnjaaGreatDoorLibAM
import Derived.Test.YthefieemngmnjaaGreatDoorCookieRef2
import Derived.Deep.RegionLaw
/- Contracts of layer 14: Make, Fits, Right. -/
namespace Go.Proofs.YthefieemngmnjaaGreatDoor
open Go.RowKit
set_option linter.unusedVariables false

/-- The tables that the program reads. -/
structure CTb (w : World) : Prop where
  pow : PTab Tryz.prog w
  days : DTab w

theorem CTb.below {w w' : World} (h : CTb w) (hb : Below w.heap.size w w') : CTb w' := ⟨h.pow.below hb, h.days.below hb⟩

theorem cookieMakeC (a : Option Addr) (len cap : Nat) (R : List (List UInt8)) (h p : List UInt8) (sec script : Bool) (head : List UInt8) (now : Int) (w : World) (hR : IsStrs w a len cap R) (hS : ∀ x ∈ R, x.length ≤ 1000) (hl : len ≤ 300) (l1 : h.length ≤ 2000) (l2 : p.length ≤ 2000) (l3 : head.length ≤ 5000) (hT : CTb w) :
    Calls Tryz.prog 9 #[.slice a len cap, .agg #[.string (str h), .string (str p), .bool sec, .bool script], .string (str head), .int .i64 now] w fun e w' => e = .returned (.tuple #[.agg #[.string (str (makeX R h p sec script head now).1.name), .string (str (makeX R h p sec script head now).1.dom), .string (str (makeX R h p sec script head now).1.path), .string (str (makeX R h p sec script head now).1.val), .bool (makeX R h p sec script head now).1.host, .bool (makeX R h p sec script head now).1.sec, .bool (makeX R h p sec script head now).1.http, .bool (makeX R h p sec script head now).1.pers, .int .i64 (makeX R h p sec script head now).1.exp, .int .i64 (makeX R h p sec script head now).1.made, .int .i64 (makeX R h p sec script head now).1.used], .int .i64 (makeX R h p sec script head now).2]) ∧ Below w.heap.size w w' := by
  exact makeC14 a len cap R h p sec script head now w hR hS l1 l2 l3 hT.pow hT.days

theorem cookieFitsC (nm dm pa va : List UInt8) (ho se ht pe : Bool) (ex cr ac : Int) (h p : List UInt8) (sec script : Bool) (now : Int) (w : World) (l1 : dm.length ≤ 2000) (l2 : pa.length ≤ 2000) (l3 : h.length ≤ 2000) (l4 : p.length ≤ 2000) (hT : CTb w) :
    Calls Tryz.prog 16 #[.agg #[.string (str nm), .string (str dm), .string (str pa), .string (str va), .bool ho, .bool se, .bool ht, .bool pe, .int .i64 ex, .int .i64 cr, .int .i64 ac], .agg #[.string (str h), .string (str p), .bool sec, .bool script], .int .i64 now] w fun e w' => e = .returned (.bool (fitsX ⟨nm, dm, pa, va, ho, se, ht, pe, ex, cr, ac⟩ h p sec script now)) ∧ Below w.heap.size w w' := by
  exact fitsC14 nm dm pa va ho se ht pe ex cr ac h p sec script now w (by omega) (by omega) (by omega) (by omega) hT.pow

theorem cookieRightC (nm dm pa va : List UInt8) (ho se ht pe : Bool) (ex cr ac : Int) (w : World) (l1 : nm.length ≤ 2000) (l2 : dm.length ≤ 2000) (l3 : pa.length ≤ 2000) (l4 : va.length ≤ 2000) (hT : CTb w) :
    Calls Tryz.prog 11 #[.agg #[.string (str nm), .string (str dm), .string (str pa), .string (str va), .bool ho, .bool se, .bool ht, .bool pe, .int .i64 ex, .int .i64 cr, .int .i64 ac]] w fun e w' => e = .returned (.bool (rightX ⟨nm, dm, pa, va, ho, se, ht, pe, ex, cr, ac⟩)) ∧ Below w.heap.size w w' := by
  exact rightC14 nm dm pa va ho se ht pe ex cr ac w (by omega) (by omega) (by omega) (by omega) hT.pow
end Go.Proofs.YthefieemngmnjaaGreatDoor

/- Layer 14's laws: light rules, requests and headers. -/
namespace Go.Proofs.YthefieemngmnjaaGreatDoor
open Go.RowKit
set_option linter.unusedVariables false

/-- Rules and texts are short. -/
def light14B (R : List (List UInt8)) (h p head : List UInt8) : Bool :=
  !((decide (60 < R.length) && decide (R.length ≤ 256)) || (decide (300 < R.length) || (decide (2000 < h.length) || (decide (2000 < p.length) || decide (5000 < head.length))))) && R.all fun x => decide (x.length ≤ 300)

set_option maxHeartbeats 4000000 in
set_option maxRecDepth 100000 in
theorem light14C (a : Option Addr) (n cap : Nat) (R : List (List UInt8)) (h p : List UInt8) (sec scr : Bool) (head : List UInt8) (w : World) (hR : IsStrs w a n cap R) (l1 : h.length ≤ maxLen) (l2 : p.length ≤ maxLen) (l3 : head.length ≤ maxLen) :
    Calls Tryz.prog 7 #[.slice a n cap, .agg #[.string (str h), .string (str p), .bool sec, .bool scr], .string (str head)] w fun e w' => e = .returned (.bool (light14B R h p head)) ∧ Below w.heap.size w w' := by
  have hb := below_alloc w (.cells #[.string (str h), .string (str p), .bool sec, .bool scr] 24)
  have HR := Lib.hid hR
  have Hn : Hid (R.length = n) := hR.1
  have hcl := hR.2.1
  have hcm := hR.2.2.1
  unfold maxLen at l1 l2 l3 hcm
  obtain ⟨m1, hm1⟩ : ∃ m, h.length = m := ⟨_, rfl⟩
  obtain ⟨m2, hm2⟩ : ∃ m, p.length = m := ⟨_, rfl⟩
  obtain ⟨m3, hm3⟩ : ∃ m, head.length = m := ⟨_, rfl⟩
  have z1 : (str h).size = m1 := by rw [str_size, hm1]
  have z2 : (str p).size = m2 := by rw [str_size, hm2]
  have z3 : (str head).size = m3 := by rw [str_size, hm3]
  unfold light14B
  rw [hm1, hm2, hm3, hR.1]
  rw [hm1] at l1
  rw [hm2] at l2
  rw [hm3] at l3
  obtain ⟨c1, hc1⟩ : ∃ b, decide (60 < n) = b := ⟨_, rfl⟩
  obtain ⟨c2, hc2⟩ : ∃ b, decide (n ≤ 256) = b := ⟨_, rfl⟩
  obtain ⟨c3, hc3⟩ : ∃ b, decide (300 < n) = b := ⟨_, rfl⟩
  obtain ⟨c4, hc4⟩ : ∃ b, decide (2000 < m1) = b := ⟨_, rfl⟩
  obtain ⟨c5, hc5⟩ : ∃ b, decide (2000 < m2) = b := ⟨_, rfl⟩
  obtain ⟨c6, hc6⟩ : ∃ b, decide (5000 < m3) = b := ⟨_, rfl⟩
  rw [hc1, hc2, hc3, hc4, hc5, hc6]
  clear hR hm1 hm2 hm3
  cases c1 with
  | true =>
    have uc1 : (60 : Int) < (n : Int) := by have := of_decide_eq_true hc1; omega
    cases c2 with
    | true =>
      have uc2 : (n : Int) ≤ 256 := by have := of_decide_eq_true hc2; omega
      go_enter Tryz.func7, Tryz.ntmps7
      go_wp2
      go_ret
      exact ⟨rfl, hb⟩
    | false =>
      have uc2 : ¬ (n : Int) ≤ 256 := by have := of_decide_eq_false hc2; omega
      cases c3 with
      | true =>
        have uc3 : (300 : Int) < (n : Int) := by have := of_decide_eq_true hc3; omega
        go_enter Tryz.func7, Tryz.ntmps7
        go_wp2
        go_ret
        exact ⟨rfl, hb⟩
      | false =>
        have uc3 : ¬ (300 : Int) < (n : Int) := by have := of_decide_eq_false hc3; omega
        cases c4 with
        | true =>
          have uc4 : (2000 : Int) < (m1 : Int) := by have := of_decide_eq_true hc4; omega
          go_enter Tryz.func7, Tryz.ntmps7
          go_wp2
          go_ret
          exact ⟨rfl, hb⟩
        | false =>
          have uc4 : ¬ (2000 : Int) < (m1 : Int) := by have := of_decide_eq_false hc4; omega
          cases c5 with
          | true =>
            have uc5 : (2000 : Int) < (m2 : Int) := by have := of_decide_eq_true hc5; omega
            go_enter Tryz.func7, Tryz.ntmps7
            go_wp2
            go_ret
            exact ⟨rfl, hb⟩
          | false =>
            have uc5 : ¬ (2000 : Int) < (m2 : Int) := by have := of_decide_eq_false hc5; omega
            cases c6 with
            | true =>
              have uc6 : (5000 : Int) < (m3 : Int) := by have := of_decide_eq_true hc6; omega
              go_enter Tryz.func7, Tryz.ntmps7
              go_wp2
              go_ret
              exact ⟨rfl, hb⟩
            | false =>
              have uc6 : ¬ (5000 : Int) < (m3 : Int) := by have := of_decide_eq_false hc6; omega
              go_enter Tryz.func7, Tryz.ntmps7
              go_wp2
              go_loopw [7] (fun i wr => ∃ k : Nat, k ≤ n ∧ i = .int .i64 (k : Int) ∧ Hid (∀ j, j < k → (R.getD j []).length ≤ 300) ∧ w.alloc (.cells #[.string (str h), .string (str p), .bool sec, .bool scr] 24) = wr) (fun i _ => n - (intOf i).toNat)
              case atStart => exact ⟨0, Nat.zero_le _, rfl, fun j hj => absurd hj (Nat.not_lt_zero _), rfl⟩
              case round =>
                obtain ⟨k, hk, rfl, hall, rfl⟩ := hrel
                by_cases hlt : k < n
                · have hlt' : (k : Int) < (n : Int) := by omega
                  have hkR : k < R.length := by rw [Hn.out]; exact hlt
                  obtain ⟨B, off, rfl, c0⟩ := str_at ((HR.out.below hb).reads) k hkR
                  have hyes : Hid ((R.getD k []).length ≤ 300 → ∀ j, j < k + 1 → (R.getD j []).length ≤ 300) := fun h j hj => by
                    by_cases e : j = k
                    · rw [e]; exact h
                    · exact hall.out j (by omega)
                  have hno : Hid (¬ (R.getD k []).length ≤ 300 → (R.all fun x => decide (x.length ≤ 300)) = false) := fun h => all_no' (p := fun x => decide (x.length ≤ 300)) hkR (decide_eq_false h)
                  have hxm : (R.getD k []).length ≤ maxLen := HR.out.2.2.2.2.2 _ (by simp only [List.getD, List.getElem?_eq_getElem hkR, Option.getD_some]; exact List.getElem_mem _)
                  unfold maxLen at hxm
                  obtain ⟨q, hq⟩ : ∃ q, (R.getD k []).length = q := ⟨_, rfl⟩
                  have zq : (str (R.getD k [])).size = q := by rw [str_size, hq]
                  rw [hq] at hyes hno hxm
                  clear hq
                  generalize R.getD k [] = x at *
                  by_cases h9 : q ≤ 300
                  · have h9' : ¬ (300 : Int) < (q : Int) := by omega
                    have H3 := Lib.hid (hyes.out h9)
                    clear hyes hno
                    go_wp2
                    go_roundw
                    case rel => exact ⟨k + 1, by omega, by go_num, H3, by first | rfl | trivial⟩
                    case measure => simp [intOf]; omega
                  · have h9' : (300 : Int) < (q : Int) := by omega
                    have H3 := Lib.hid (hno.out h9)
                    clear hyes hno
                    go_wp2
                    go_ret
                    exact ⟨by rw [H3.out]; rfl, hb⟩
                · obtain rfl : k = n := by omega
                  have H3 : Hid ((R.all fun x => decide (x.length ≤ 300)) = true) := all_yes' (p := fun x => decide (x.length ≤ 300)) (fun j hj => decide_eq_true (hall.out j (by rw [← Hn.out]; exact hj)))
                  go_wp2
                  go_ret
                  exact ⟨by rw [H3.out]; rfl, hb⟩
  | false =>
    have uc1 : ¬ (60 : Int) < (n : Int) := by have := of_decide_eq_false hc1; omega
    cases c3 with
    | true =>
      have uc3 : (300 : Int) < (n : Int) := by have := of_decide_eq_true hc3; omega
      go_enter Tryz.func7, Tryz.ntmps7
      go_wp2
      go_ret
      exact ⟨rfl, hb⟩
    | false =>
      have uc3 : ¬ (300 : Int) < (n : Int) := by have := of_decide_eq_false hc3; omega
      cases c4 with
      | true =>
        have uc4 : (2000 : Int) < (m1 : Int) := by have := of_decide_eq_true hc4; omega
        go_enter Tryz.func7, Tryz.ntmps7
        go_wp2
        go_ret
        exact ⟨rfl, hb⟩
      | false =>
        have uc4 : ¬ (2000 : Int) < (m1 : Int) := by have := of_decide_eq_false hc4; omega
        cases c5 with
        | true =>
          have uc5 : (2000 : Int) < (m2 : Int) := by have := of_decide_eq_true hc5; omega
          go_enter Tryz.func7, Tryz.ntmps7
          go_wp2
          go_ret
          exact ⟨rfl, hb⟩
        | false =>
          have uc5 : ¬ (2000 : Int) < (m2 : Int) := by have := of_decide_eq_false hc5; omega
          cases c6 with
          | true =>
            have uc6 : (5000 : Int) < (m3 : Int) := by have := of_decide_eq_true hc6; omega
            go_enter Tryz.func7, Tryz.ntmps7
            go_wp2
            go_ret
            exact ⟨rfl, hb⟩
          | false =>
            have uc6 : ¬ (5000 : Int) < (m3 : Int) := by have := of_decide_eq_false hc6; omega
            go_enter Tryz.func7, Tryz.ntmps7
            go_wp2
            go_loopw [7] (fun i wr => ∃ k : Nat, k ≤ n ∧ i = .int .i64 (k : Int) ∧ Hid (∀ j, j < k → (R.getD j []).length ≤ 300) ∧ w.alloc (.cells #[.string (str h), .string (str p), .bool sec, .bool scr] 24) = wr) (fun i _ => n - (intOf i).toNat)
            case atStart => exact ⟨0, Nat.zero_le _, rfl, fun j hj => absurd hj (Nat.not_lt_zero _), rfl⟩
            case round =>
              obtain ⟨k, hk, rfl, hall, rfl⟩ := hrel
              by_cases hlt : k < n
              · have hlt' : (k : Int) < (n : Int) := by omega
                have hkR : k < R.length := by rw [Hn.out]; exact hlt
                obtain ⟨B, off, rfl, c0⟩ := str_at ((HR.out.below hb).reads) k hkR
                have hyes : Hid ((R.getD k []).length ≤ 300 → ∀ j, j < k + 1 → (R.getD j []).length ≤ 300) := fun h j hj => by
                  by_cases e : j = k
                  · rw [e]; exact h
                  · exact hall.out j (by omega)
                have hno : Hid (¬ (R.getD k []).length ≤ 300 → (R.all fun x => decide (x.length ≤ 300)) = false) := fun h => all_no' (p := fun x => decide (x.length ≤ 300)) hkR (decide_eq_false h)
                have hxm : (R.getD k []).length ≤ maxLen := HR.out.2.2.2.2.2 _ (by simp only [List.getD, List.getElem?_eq_getElem hkR, Option.getD_some]; exact List.getElem_mem _)
                unfold maxLen at hxm
                obtain ⟨q, hq⟩ : ∃ q, (R.getD k []).length = q := ⟨_, rfl⟩
                have zq : (str (R.getD k [])).size = q := by rw [str_size, hq]
                rw [hq] at hyes hno hxm
                clear hq
                generalize R.getD k [] = x at *
                by_cases h9 : q ≤ 300
                · have h9' : ¬ (300 : Int) < (q : Int) := by omega
                  have H3 := Lib.hid (hyes.out h9)
                  clear hyes hno
                  go_wp2
                  go_roundw
                  case rel => exact ⟨k + 1, by omega, by go_num, H3, by first | rfl | trivial⟩
                  case measure => simp [intOf]; omega
                · have h9' : (300 : Int) < (q : Int) := by omega
                  have H3 := Lib.hid (hno.out h9)
                  clear hyes hno
                  go_wp2
                  go_ret
                  exact ⟨by rw [H3.out]; rfl, hb⟩
              · obtain rfl : k = n := by omega
                have H3 : Hid ((R.all fun x => decide (x.length ≤ 300)) = true) := all_yes' (p := fun x => decide (x.length ≤ 300)) (fun j hj => decide_eq_true (hall.out j (by rw [← Hn.out]; exact hj)))
                go_wp2
                go_ret
                exact ⟨by rw [H3.out]; rfl, hb⟩
end Go.Proofs.YthefieemngmnjaaGreatDoor

/- Layer 14's laws: the example; which cookies are right. -/
namespace Go.Proofs.YthefieemngmnjaaGreatDoor
open Go.RowKit
set_option linter.unusedVariables false

def itemVal (x : ItemL) : Value := .agg #[.string (str x.name), .string (str x.dom), .string (str x.path), .string (str x.val), .bool x.host, .bool x.sec, .bool x.http, .bool x.pers, .int .i64 x.exp, .int .i64 x.made, .int .i64 x.used]

def rules14 : List (List UInt8) := [[116, 101, 115, 116]]
def host14 : List UInt8 := [97, 46, 116, 101, 115, 116]
def path14 : List UInt8 := [47, 120, 47, 121]
def head14 : List UInt8 := [115, 105, 100, 61, 49]
def head14' : List UInt8 := [115, 105, 100, 61, 49, 59, 32, 68, 111, 109, 97, 105, 110, 61, 116, 101, 115, 116]

theorem made14 : Value.tuple #[itemVal (makeX rules14 host14 path14 false false head14 7).1, .int .i64 (makeX rules14 host14 path14 false false head14 7).2] =
    .tuple #[.agg #[.string ⟨#[115, 105, 100]⟩, .string ⟨#[97, 46, 116, 101, 115, 116]⟩, .string ⟨#[47, 120]⟩, .string ⟨#[49]⟩, .bool true, .bool false, .bool false, .bool false, .int .i64 1099511627776, .int .i64 7, .int .i64 7], .int .i64 0] := by kernel_rfl

theorem made14' : Value.tuple #[itemVal (makeX rules14 host14 path14 false false head14' 7).1, .int .i64 (makeX rules14 host14 path14 false false head14' 7).2] =
    .tuple #[.agg #[.string ⟨#[]⟩, .string ⟨#[]⟩, .string ⟨#[]⟩, .string ⟨#[]⟩, .bool false, .bool false, .bool false, .bool false, .int .i64 0, .int .i64 0, .int .i64 0], .int .i64 14] := by kernel_rfl

theorem eqKey (a b c d e f : List UInt8) (w : World) : Sem.run Tryz.prog (Op.equalIn 10000 30 (.agg #[.string (str a), .string (str b), .string (str c)]) (.agg #[.string (str d), .string (str e), .string (str f)])) w = Result.ok (a == d && (b == e && c == f)) w := by
  have hk := str_toList
  cases h1 : a == d <;> cases h2 : b == e <;> cases h3 : c == f <;> simp [go_sem, hk, h1, h2, h3]

theorem strs_lit (v : World) : IsStrs (v.alloc (.cells #[.string ⟨#[116, 101, 115, 116]⟩] 9)) (some ⟨v.heap.size, 0, none⟩) 1 1 rules14 := by
  have hr : Reads _ _ (strs rules14) := reads_new v (strs rules14) 9
  exact ⟨rfl, Nat.le_refl _, (by unfold maxLen; omega), (fun h => by cases h), hr, fun x hx => by rw [List.mem_singleton.1 hx]; unfold maxLen; decide⟩

set_option maxHeartbeats 2000000 in
set_option maxRecDepth 100000 in
theorem awake14C (w : World) (hT : CTb w) : Calls Tryz.prog 8 #[] w fun e w' => e = .returned (.bool true) ∧ Below w.heap.size w w' := by
  have HM : ∀ v, CTb v → Calls Tryz.prog 9 #[.slice (some ⟨v.heap.size, 0, none⟩) 1 1, .agg #[.string ⟨#[97, 46, 116, 101, 115, 116]⟩, .string ⟨#[47, 120, 47, 121]⟩, .bool false, .bool false], .string ⟨#[115, 105, 100, 61, 49]⟩, .int .i64 7] (v.alloc (.cells #[.string ⟨#[116, 101, 115, 116]⟩] 9))
      fun e w' => e = .returned (.tuple #[.agg #[.string ⟨#[115, 105, 100]⟩, .string ⟨#[97, 46, 116, 101, 115, 116]⟩, .string ⟨#[47, 120]⟩, .string ⟨#[49]⟩, .bool true, .bool false, .bool false, .bool false, .int .i64 1099511627776, .int .i64 7, .int .i64 7], .int .i64 0]) ∧ Below v.heap.size v w' := fun v hv => by
    have hb := below_alloc v (.cells #[.string ⟨#[116, 101, 115, 116]⟩] 9)
    refine (cookieMakeC _ 1 1 rules14 host14 path14 false false head14 7 _ (strs_lit v) (by decide) (by omega) (by decide) (by decide) (by decide) (hv.below hb)).mono ?_
    rintro e w' ⟨rfl, hx⟩
    exact ⟨congrArg Ending.returned made14, hb.trans (hx.mono hb.size)⟩
  have HM' : ∀ v, CTb v → Calls Tryz.prog 9 #[.slice (some ⟨v.heap.size, 0, none⟩) 1 1, .agg #[.string ⟨#[97, 46, 116, 101, 115, 116]⟩, .string ⟨#[47, 120, 47, 121]⟩, .bool false, .bool false], .string ⟨#[115, 105, 100, 61, 49, 59, 32, 68, 111, 109, 97, 105, 110, 61, 116, 101, 115, 116]⟩, .int .i64 7] (v.alloc (.cells #[.string ⟨#[116, 101, 115, 116]⟩] 9))
      fun e w' => e = .returned (.tuple #[.agg #[.string ⟨#[]⟩, .string ⟨#[]⟩, .string ⟨#[]⟩, .string ⟨#[]⟩, .bool false, .bool false, .bool false, .bool false, .int .i64 0, .int .i64 0, .int .i64 0], .int .i64 14]) ∧ Below v.heap.size v w' := fun v hv => by
    have hb := below_alloc v (.cells #[.string ⟨#[116, 101, 115, 116]⟩] 9)
    refine (cookieMakeC _ 1 1 rules14 host14 path14 false false head14' 7 _ (strs_lit v) (by decide) (by omega) (by decide) (by decide) (by decide) (hv.below hb)).mono ?_
    rintro e w' ⟨rfl, hx⟩
    exact ⟨congrArg Ending.returned made14', hb.trans (hx.mono hb.size)⟩
  have HFt : ∀ v, CTb v → Calls Tryz.prog 16 #[.agg #[.string ⟨#[115, 105, 100]⟩, .string ⟨#[97, 46, 116, 101, 115, 116]⟩, .string ⟨#[47, 120]⟩, .string ⟨#[49]⟩, .bool true, .bool false, .bool false, .bool false, .int .i64 1099511627776, .int .i64 7, .int .i64 7], .agg #[.string ⟨#[97, 46, 116, 101, 115, 116]⟩, .string ⟨#[47, 120, 47, 121]⟩, .bool false, .bool false], .int .i64 8] v fun e w' => e = .returned (.bool true) ∧ Below v.heap.size v w' := fun v hv => by
    have hf : fitsX ⟨[115, 105, 100], host14, [47, 120], [49], true, false, false, false, 1099511627776, 7, 7⟩ host14 path14 false false 8 = true := by decide +kernel
    have := cookieFitsC [115, 105, 100] host14 [47, 120] [49] true false false false 1099511627776 7 7 host14 path14 false false 8 v (by decide) (by decide) (by decide) (by decide) hv
    rw [hf] at this
    exact this
  have HRt : ∀ v, CTb v → Calls Tryz.prog 11 #[.agg #[.string ⟨#[115, 105, 100]⟩, .string ⟨#[97, 46, 116, 101, 115, 116]⟩, .string ⟨#[47, 120]⟩, .string ⟨#[49]⟩, .bool true, .bool false, .bool false, .bool false, .int .i64 1099511627776, .int .i64 7, .int .i64 7]] v fun e w' => e = .returned (.bool true) ∧ Below v.heap.size v w' := fun v hv => by
    have hf : rightX ⟨[115, 105, 100], host14, [47, 120], [49], true, false, false, false, 1099511627776, 7, 7⟩ = true := by decide +kernel
    have := cookieRightC [115, 105, 100] host14 [47, 120] [49] true false false false 1099511627776 7 7 v (by decide) (by decide) (by decide) (by decide) hv
    rw [hf] at this
    exact this
  have hE : ∀ w, Sem.run Tryz.prog (Op.equalIn 10000 30 (.agg #[.string ⟨#[115, 105, 100]⟩, .string ⟨#[97, 46, 116, 101, 115, 116]⟩, .string ⟨#[47, 120]⟩]) (.agg #[.string ⟨#[115, 105, 100]⟩, .string ⟨#[97, 46, 116, 101, 115, 116]⟩, .string ⟨#[47, 120]⟩])) w = Result.ok true w := fun w => eqKey [115, 105, 100] host14 [47, 120] [115, 105, 100] host14 [47, 120] w
  have hb0 := below_alloc w (.cells #[.string ⟨#[97, 46, 116, 101, 115, 116]⟩, .string ⟨#[47, 120, 47, 121]⟩, .bool false, .bool false] 24)
  have o0 := ObjAt.new w #[.string ⟨#[97, 46, 116, 101, 115, 116]⟩, .string ⟨#[47, 120, 47, 121]⟩, .bool false, .bool false] 24
  have hT0 := hT.below hb0
  have o0a := o0.below (below_alloc (w.alloc (.cells #[.string ⟨#[97, 46, 116, 101, 115, 116]⟩, .string ⟨#[47, 120, 47, 121]⟩, .bool false, .bool false] 24)) (.cells #[.string ⟨#[116, 101, 115, 116]⟩] 9)) o0.lt
  have HM1 := HM (w.alloc (.cells #[.string ⟨#[97, 46, 116, 101, 115, 116]⟩, .string ⟨#[47, 120, 47, 121]⟩, .bool false, .bool false] 24)) hT0
  have hs1 : (w.alloc (.cells #[.string ⟨#[97, 46, 116, 101, 115, 116]⟩, .string ⟨#[47, 120, 47, 121]⟩, .bool false, .bool false] 24)).heap.size = w.heap.size + 1 := by simp
  rw [hs1] at HM1
  clear hs1
  have a0 := o0a.cell 0 rfl
  have a1 := o0a.cell 1 rfl
  have a2 := o0a.cell 2 rfl
  have a3 := o0a.cell 3 rfl
  go_enter Tryz.func8, Tryz.ntmps8
  go_wp2_with (first
    | (go_at_call 9; (with_reducible refine HM1.mono ?_); rintro e w1 ⟨rfl, hx⟩; have o1 := o0.below hx (Nat.lt_succ_self _); have hb1 := hb0.trans (hx.mono (Nat.le_succ _)); have ox := ObjAt.new w1 #[.string ⟨#[115, 105, 100]⟩, .string ⟨#[97, 46, 116, 101, 115, 116]⟩, .string ⟨#[47, 120]⟩, .string ⟨#[49]⟩, .bool true, .bool false, .bool false, .bool false, .int .i64 1099511627776, .int .i64 7, .int .i64 7] 34; have hb2 := hb1.alloc hb1.size (.cells #[.string ⟨#[115, 105, 100]⟩, .string ⟨#[97, 46, 116, 101, 115, 116]⟩, .string ⟨#[47, 120]⟩, .string ⟨#[49]⟩, .bool true, .bool false, .bool false, .bool false, .int .i64 1099511627776, .int .i64 7, .int .i64 7] 34); have o2 := o1.below (below_alloc w1 (.cells #[.string ⟨#[115, 105, 100]⟩, .string ⟨#[97, 46, 116, 101, 115, 116]⟩, .string ⟨#[47, 120]⟩, .string ⟨#[49]⟩, .bool true, .bool false, .bool false, .bool false, .int .i64 1099511627776, .int .i64 7, .int .i64 7] 34)) o1.lt; have hT2 := hT.below hb2; generalize hv : w1.alloc (.cells #[.string ⟨#[115, 105, 100]⟩, .string ⟨#[97, 46, 116, 101, 115, 116]⟩, .string ⟨#[47, 120]⟩, .string ⟨#[49]⟩, .bool true, .bool false, .bool false, .bool false, .int .i64 1099511627776, .int .i64 7, .int .i64 7] 34) = v at *; have o2a := o2.below (below_alloc v (.cells #[.string ⟨#[116, 101, 115, 116]⟩] 9)) o2.lt; have b0 := o2a.cell 0 rfl; have b1 := o2a.cell 1 rfl; have b2 := o2a.cell 2 rfl; have b3 := o2a.cell 3 rfl; clear hx)
    | (go_at_call 9; (with_reducible refine (HM' _ hT2).mono ?_); rintro e w3 ⟨rfl, hx⟩; have o3 := o2.below hx o2.lt; have oy := ox.below hx ox.lt; have hb3 := hb2.trans (hx.mono hb2.size); have hb4 := hb3.alloc hb3.size (.cells #[.string ⟨#[]⟩, .string ⟨#[]⟩, .string ⟨#[]⟩, .string ⟨#[]⟩, .bool false, .bool false, .bool false, .bool false, .int .i64 0, .int .i64 0, .int .i64 0] 34); have o4 := o3.below (below_alloc w3 (.cells #[.string ⟨#[]⟩, .string ⟨#[]⟩, .string ⟨#[]⟩, .string ⟨#[]⟩, .bool false, .bool false, .bool false, .bool false, .int .i64 0, .int .i64 0, .int .i64 0] 34)) o3.lt; have oz := oy.below (below_alloc w3 (.cells #[.string ⟨#[]⟩, .string ⟨#[]⟩, .string ⟨#[]⟩, .string ⟨#[]⟩, .bool false, .bool false, .bool false, .bool false, .int .i64 0, .int .i64 0, .int .i64 0] 34)) oy.lt; have hT4 := hT.below hb4; have p0 := oz.cell 0 rfl; have p1 := oz.cell 1 rfl; have p2 := oz.cell 2 rfl; have p3 := oz.cell 3 rfl; have p4 := oz.cell 4 rfl; have p5 := oz.cell 5 rfl; have p6 := oz.cell 6 rfl; have p7 := oz.cell 7 rfl; have p8 := oz.cell 8 rfl; have p9 := oz.cell 9 rfl; have p10 := oz.cell 10 rfl; have q0 := o4.cell 0 rfl; have q1 := o4.cell 1 rfl; have q2 := o4.cell 2 rfl; have q3 := o4.cell 3 rfl; clear hx)
    | (go_at_call 16; (with_reducible refine (HFt _ hT4).mono ?_); rintro e w5 ⟨rfl, hx⟩; have o5 := oz.below hx oz.lt; have hT5 := hT4.below hx; have hb5 := hb4.trans (hx.mono hb4.size); have s0 := o5.cell 0 rfl; have s1 := o5.cell 1 rfl; have s2 := o5.cell 2 rfl; have s3 := o5.cell 3 rfl; have s4 := o5.cell 4 rfl; have s5 := o5.cell 5 rfl; have s6 := o5.cell 6 rfl; have s7 := o5.cell 7 rfl; have s8 := o5.cell 8 rfl; have s9 := o5.cell 9 rfl; have s10 := o5.cell 10 rfl; clear hx)
    | (go_at_call 11; (with_reducible refine (HRt _ hT5).mono ?_); rintro e w6 ⟨rfl, hx⟩; have hb6 := hb5.trans (hx.mono hb5.size); clear hx))
  go_ret
  exact ⟨rfl, hb6⟩
end Go.Proofs.YthefieemngmnjaaGreatDoor

/- Layer 14's laws, walked: never for a public suffix. -/
namespace Go.Proofs.YthefieemngmnjaaGreatDoor
open Go.RowKit
set_option linter.unusedVariables false

theorem light14_is {R : List (List UInt8)} {h p head : List UInt8} (e : light14B R h p head = true) : R.length ≤ 300 ∧ h.length ≤ 2000 ∧ p.length ≤ 2000 ∧ head.length ≤ 5000 ∧ ∀ x ∈ R, x.length ≤ 1000 := by
  unfold light14B at e
  simp only [Bool.and_eq_true, Bool.not_eq_true', Bool.or_eq_false_iff, decide_eq_false_iff_not, List.all_eq_true, decide_eq_true_iff] at e
  obtain ⟨⟨-, h1, h2, h3, h4⟩, h5⟩ := e
  exact ⟨by omega, by omega, by omega, by omega, fun x hx => by have := h5 x hx; omega⟩

theorem item_parts (x : ItemL) : ∃ nm dm pa va ho se ht pe ex cr ac, x = ⟨nm, dm, pa, va, ho, se, ht, pe, ex, cr, ac⟩ := ⟨_, _, _, _, _, _, _, _, _, _, _, rfl⟩

/-- How long what is made is. -/
theorem make_len (R : List (List UInt8)) (h p : List UInt8) (sec scr : Bool) (head : List UInt8) (now : Int) (h1 : h.length ≤ 2000) : (makeX R h p sec scr head now).1.dom.length ≤ 2000 ∧ (makeX R h p sec scr head now).1.path.length ≤ 2000 ∧ (makeX R h p sec scr head now).1.name.length ≤ 2000 ∧ (makeX R h p sec scr head now).1.val.length ≤ 2000 := by
  by_cases he : (makeX R h p sec scr head now).2 = 0
  · have m := make_made he
    have hr := m.right
    have hm := (match_cases m.match_).2.1
    have hl : (makeX R h p sec scr head now).1.dom.length ≤ 256 := by
      unfold canonB at hm
      rw [Bool.and_eq_true, decide_eq_true_iff] at hm
      exact hm.1
    unfold rightX at hr
    simp only [Bool.and_eq_true, Bool.not_eq_true', Bool.or_eq_false_iff, decide_eq_false_iff_not] at hr
    obtain ⟨⟨-, h2, -, -, h3, -⟩, ⟨-, -, -, h4⟩, -⟩ := hr
    exact ⟨by omega, by omega, by omega, by omega⟩
  · rw [make_err he]
    exact ⟨by decide, by decide, by decide, by decide⟩

set_option maxHeartbeats 4000000 in
set_option maxRecDepth 100000 in
theorem cookieSuffix_walk (a : Option Addr) (n cap : Nat) (R : List (List UInt8)) (h p : List UInt8) (sec scr : Bool) (head : List UInt8) (now : Int) (w : World) (hR : IsStrs w a n cap R) (l1 : (str h).size ≤ maxLen) (l2 : (str p).size ≤ maxLen) (l3 : (str head).size ≤ maxLen) (hT : CTb w) :
    Calls Tryz.prog 6 #[.slice a n cap, .agg #[.string (str h), .string (str p), .bool sec, .bool scr, .string (str head), .int .i64 now]] w fun e w' => e = .returned (.bool true) ∧ Below w.heap.size w w' := by
  rw [str_size] at l1 l2 l3
  have hb0 := below_alloc w (.cells #[.string (str h), .string (str p), .bool sec, .bool scr, .string (str head), .int .i64 now] 26)
  have o0 := ObjAt.new w #[.string (str h), .string (str p), .bool sec, .bool scr, .string (str head), .int .i64 now] 26
  have hR0 := hR.below hb0
  have hT0 := hT.below hb0
  have hlen := hR.1
  have HL := light14C a n cap R h p sec scr head _ hR0 l1 l2 l3
  cases hlt : light14B R h p head with
  | false =>
    rw [hlt] at HL
    clear hR hR0
    go_enter Tryz.func6, Tryz.ntmps6
    go_wp2_with (first
      | (go_at_call 7; (with_reducible refine HL.mono ?_); rintro e w1 ⟨rfl, hx⟩; have hb1 := hb0.trans (hx.mono hb0.size); have hT1 := hT0.below hx; clear hx)
      | (go_at_call 8; (with_reducible refine (awake14C _ hT1).mono ?_); rintro e w2 ⟨rfl, hx⟩; have hb2 := hb1.trans (hx.mono hb1.size); clear hx))
    go_ret
    exact ⟨rfl, hb2⟩
  | true =>
    rw [hlt] at HL
    obtain ⟨k1, k2, k3, k4, k5⟩ := light14_is hlt
    have HM := fun v (hv : IsStrs v a n cap R) t => cookieMakeC a n cap R h p sec scr head now v hv k5 (by omega) k2 k3 k4 t
    have hmd := make_made (R := R) (h := h) (p := p) (sec := sec) (script := scr) (head := head) (now := now)
    have hln := make_len R h p sec scr head now k2
    generalize makeX R h p sec scr head now = r at *
    obtain ⟨x, er⟩ := r
    obtain ⟨nm, dm, pa, va, ho, se, ht, pe, ex, cr, ac, rfl⟩ := item_parts x
    dsimp only at *
    have HPb := fun v (hv : IsStrs v a n cap R) => refPublicC a n cap R dm dm.length v hv rfl (by unfold maxLen; omega)
    have hk := str_toList
    clear hR hlt k1 k2 k3 k4 k5 hlen l1 l2 l3
    by_cases he : er = 0
    · subst he
      have M := hmd rfl
      cases hp : pubN R dm with
      | false =>
        rw [hp] at HPb
        clear M hmd hln
        go_enter Tryz.func6, Tryz.ntmps6
        go_wp2_with (first
          | (go_at_call 7; (with_reducible refine HL.mono ?_); rintro e w1 ⟨rfl, hx⟩; have hb1 := hb0.trans (hx.mono hb0.size); have hT1 := hT0.below hx; have hR1 := hR0.below hx; have o1 := o0.below hx o0.lt; have c0 := o1.cell 0 rfl; have c1 := o1.cell 1 rfl; have c2 := o1.cell 2 rfl; have c3 := o1.cell 3 rfl; have c4 := o1.cell 4 rfl; have c5 := o1.cell 5 rfl; clear hx)
          | (go_at_call 9; (with_reducible refine (HM _ hR1 hT1).mono ?_); rintro e w2 ⟨rfl, hx⟩; have hb2 := hb1.trans (hx.mono hb1.size); have hT2 := hT1.below hx; have o2 := o1.below hx o1.lt; have hR2 := hR1.below hx; have oI := ObjAt.new w2 #[.string (str nm), .string (str dm), .string (str pa), .string (str va), .bool ho, .bool se, .bool ht, .bool pe, .int .i64 ex, .int .i64 cr, .int .i64 ac] 34; have hbI := below_alloc w2 (.cells #[.string (str nm), .string (str dm), .string (str pa), .string (str va), .bool ho, .bool se, .bool ht, .bool pe, .int .i64 ex, .int .i64 cr, .int .i64 ac] 34); have hb3 := hb2.trans (hbI.mono hb2.size); have hT3 := hT2.below hbI; have hR3 := hR2.below hbI; have o3 := o2.below hbI o2.lt; clear hx)
          | (go_at_call 17; (with_reducible refine (HPb _ hR3).mono ?_); rintro e w4 ⟨rfl, hx⟩; have hb4 := hb3.trans (hx.mono hb3.size); have hT4 := hT3.below hx; have o4 := o3.below hx o3.lt; have oJ := oI.below hx oI.lt; have d0 := oJ.cell 1 rfl; have d1 := oJ.cell 4 rfl; have d2 := o4.cell 0 rfl; clear hx)
          | (go_at_call 8; (with_reducible refine (awake14C _ hT4).mono ?_); rintro e w5 ⟨rfl, hx⟩; have hb5 := hb4.trans (hx.mono hb4.size); clear hx))
        go_ret
        exact ⟨rfl, hb5⟩
      | true =>
        rw [hp] at HPb
        obtain rfl : ho = true := M.suffix hp
        obtain rfl : dm = h := M.host rfl
        clear M hmd hln
        go_enter Tryz.func6, Tryz.ntmps6
        go_wp2_with (first
          | (go_at_call 7; (with_reducible refine HL.mono ?_); rintro e w1 ⟨rfl, hx⟩; have hb1 := hb0.trans (hx.mono hb0.size); have hT1 := hT0.below hx; have hR1 := hR0.below hx; have o1 := o0.below hx o0.lt; have c0 := o1.cell 0 rfl; have c1 := o1.cell 1 rfl; have c2 := o1.cell 2 rfl; have c3 := o1.cell 3 rfl; have c4 := o1.cell 4 rfl; have c5 := o1.cell 5 rfl; clear hx)
          | (go_at_call 9; (with_reducible refine (HM _ hR1 hT1).mono ?_); rintro e w2 ⟨rfl, hx⟩; have hb2 := hb1.trans (hx.mono hb1.size); have hT2 := hT1.below hx; have o2 := o1.below hx o1.lt; have hR2 := hR1.below hx; have oI := ObjAt.new w2 #[.string (str nm), .string (str dm), .string (str pa), .string (str va), .bool true, .bool se, .bool ht, .bool pe, .int .i64 ex, .int .i64 cr, .int .i64 ac] 34; have hbI := below_alloc w2 (.cells #[.string (str nm), .string (str dm), .string (str pa), .string (str va), .bool true, .bool se, .bool ht, .bool pe, .int .i64 ex, .int .i64 cr, .int .i64 ac] 34); have hb3 := hb2.trans (hbI.mono hb2.size); have hT3 := hT2.below hbI; have hR3 := hR2.below hbI; have o3 := o2.below hbI o2.lt; clear hx)
          | (go_at_call 17; (with_reducible refine (HPb _ hR3).mono ?_); rintro e w4 ⟨rfl, hx⟩; have hb4 := hb3.trans (hx.mono hb3.size); have hT4 := hT3.below hx; have o4 := o3.below hx o3.lt; have oJ := oI.below hx oI.lt; have d0 := oJ.cell 1 rfl; have d1 := oJ.cell 4 rfl; have d2 := o4.cell 0 rfl; clear hx)
          | (go_at_call 8; (with_reducible refine (awake14C _ hT4).mono ?_); rintro e w5 ⟨rfl, hx⟩; have hb5 := hb4.trans (hx.mono hb4.size); clear hx))
        go_ret
        exact ⟨rfl, hb5⟩
    · have he2 : (er == 0) = false := beq_eq_false_iff_ne.2 he
      have he3 : (er != 0) = true := bne_iff_ne.2 he
      clear hmd hln he
      go_enter Tryz.func6, Tryz.ntmps6
      go_wp2_with (first
        | (go_at_call 7; (with_reducible refine HL.mono ?_); rintro e w1 ⟨rfl, hx⟩; have hb1 := hb0.trans (hx.mono hb0.size); have hT1 := hT0.below hx; have hR1 := hR0.below hx; have o1 := o0.below hx o0.lt; have c0 := o1.cell 0 rfl; have c1 := o1.cell 1 rfl; have c2 := o1.cell 2 rfl; have c3 := o1.cell 3 rfl; have c4 := o1.cell 4 rfl; have c5 := o1.cell 5 rfl; clear hx)
        | (go_at_call 9; (with_reducible refine (HM _ hR1 hT1).mono ?_); rintro e w2 ⟨rfl, hx⟩; have hb2 := hb1.trans (hx.mono hb1.size); have hT2 := hT1.below hx; have hbI := below_alloc w2 (.cells #[.string (str nm), .string (str dm), .string (str pa), .string (str va), .bool ho, .bool se, .bool ht, .bool pe, .int .i64 ex, .int .i64 cr, .int .i64 ac] 34); have hb3 := hb2.trans (hbI.mono hb2.size); have hT3 := hT2.below hbI; clear hx)
        | (go_at_call 8; (with_reducible refine (awake14C _ hT3).mono ?_); rintro e w5 ⟨rfl, hx⟩; have hb5 := hb3.trans (hx.mono hb3.size); clear hx))
      go_ret
      exact ⟨rfl, hb5⟩
end Go.Proofs.YthefieemngmnjaaGreatDoor

/- Layer 14's laws, walked: which cookies are right. -/
namespace Go.Proofs.YthefieemngmnjaaGreatDoor
open Go.RowKit
set_option linter.unusedVariables false

set_option maxHeartbeats 4000000 in
set_option maxRecDepth 100000 in
theorem cookieRight_walk (nm dm pa va : List UInt8) (ho se ht pe : Bool) (ex cr ac : Int) (w : World) (l1 : (str nm).size ≤ maxLen) (l2 : (str dm).size ≤ maxLen) (l3 : (str pa).size ≤ maxLen) (l4 : (str va).size ≤ maxLen) (hT : CTb w) :
    Calls Tryz.prog 4 #[.agg #[.string (str nm), .string (str dm), .string (str pa), .string (str va), .bool ho, .bool se, .bool ht, .bool pe, .int .i64 ex, .int .i64 cr, .int .i64 ac]] w fun e w' => e = .returned (.bool true) ∧ Below w.heap.size w w' := by
  rw [str_size] at l1 l2 l3 l4
  unfold maxLen at l1 l2 l3 l4
  have hb0 := below_alloc w (.cells #[.string (str nm), .string (str dm), .string (str pa), .string (str va), .bool ho, .bool se, .bool ht, .bool pe, .int .i64 ex, .int .i64 cr, .int .i64 ac] 34)
  have o0 := ObjAt.new w #[.string (str nm), .string (str dm), .string (str pa), .string (str va), .bool ho, .bool se, .bool ht, .bool pe, .int .i64 ex, .int .i64 cr, .int .i64 ac] 34
  have hT0 := hT.below hb0
  obtain ⟨m1, hm1⟩ : ∃ m, nm.length = m := ⟨_, rfl⟩
  obtain ⟨m2, hm2⟩ : ∃ m, dm.length = m := ⟨_, rfl⟩
  obtain ⟨m3, hm3⟩ : ∃ m, pa.length = m := ⟨_, rfl⟩
  obtain ⟨m4, hm4⟩ : ∃ m, va.length = m := ⟨_, rfl⟩
  have z1 : (str nm).size = m1 := by rw [str_size, hm1]
  have z2 : (str dm).size = m2 := by rw [str_size, hm2]
  have z3 : (str pa).size = m3 := by rw [str_size, hm3]
  have z4 : (str va).size = m4 := by rw [str_size, hm4]
  by_cases q1 : 2000 < m1
  · have q1' : (2000 : Int) < (m1 : Int) := by omega
    go_enter Tryz.func4, Tryz.ntmps4
    go_wp2_with (go_at_call 8; (with_reducible refine (awake14C _ hT0).mono ?_); rintro e w2 ⟨rfl, hx⟩; have hb2 := hb0.trans (hx.mono hb0.size); clear hx)
    go_ret
    exact ⟨rfl, hb2⟩
  have q1' : ¬ (2000 : Int) < (m1 : Int) := by omega
  by_cases q2 : 2000 < m2
  · have q2' : (2000 : Int) < (m2 : Int) := by omega
    go_enter Tryz.func4, Tryz.ntmps4
    go_wp2_with (go_at_call 8; (with_reducible refine (awake14C _ hT0).mono ?_); rintro e w2 ⟨rfl, hx⟩; have hb2 := hb0.trans (hx.mono hb0.size); clear hx)
    go_ret
    exact ⟨rfl, hb2⟩
  have q2' : ¬ (2000 : Int) < (m2 : Int) := by omega
  by_cases q3 : 2000 < m3
  · have q3' : (2000 : Int) < (m3 : Int) := by omega
    go_enter Tryz.func4, Tryz.ntmps4
    go_wp2_with (go_at_call 8; (with_reducible refine (awake14C _ hT0).mono ?_); rintro e w2 ⟨rfl, hx⟩; have hb2 := hb0.trans (hx.mono hb0.size); clear hx)
    go_ret
    exact ⟨rfl, hb2⟩
  have q3' : ¬ (2000 : Int) < (m3 : Int) := by omega
  by_cases q4 : 2000 < m4
  · have q4' : (2000 : Int) < (m4 : Int) := by omega
    go_enter Tryz.func4, Tryz.ntmps4
    go_wp2_with (go_at_call 8; (with_reducible refine (awake14C _ hT0).mono ?_); rintro e w2 ⟨rfl, hx⟩; have hb2 := hb0.trans (hx.mono hb0.size); clear hx)
    go_ret
    exact ⟨rfl, hb2⟩
  have q4' : ¬ (2000 : Int) < (m4 : Int) := by omega
  have HP := fun v t => cookieRightC nm dm pa va ho se ht pe ex cr ac v (by omega) (by omega) (by omega) (by omega) t
  have HR := fun v => refRightXC nm dm pa va ho se ht pe ex cr ac v (by omega) (by omega) (by omega) (by omega)
  generalize rightX ⟨nm, dm, pa, va, ho, se, ht, pe, ex, cr, ac⟩ = b at *
  have hbb : (b == b) = true := by simp
  clear hm1 hm2 hm3 hm4 l1 l2 l3 l4 q1 q2 q3 q4
  obtain ⟨W, hW⟩ : ∃ W, w.alloc (.cells #[.string (str nm), .string (str dm), .string (str pa), .string (str va), .bool ho, .bool se, .bool ht, .bool pe, .int .i64 ex, .int .i64 cr, .int .i64 ac] 34) = W := ⟨_, rfl⟩
  rw [hW] at hb0 o0 hT0
  have hdr : Below W.heap.size W W.drew := (Below.refl _ W).drew
  have od := o0.below hdr o0.lt
  have hTd := hT0.below hdr
  have hbd := hb0.trans (hdr.mono hb0.size)
  rw [← hW] at od hTd hbd
  have u0 := od.cell 0 rfl; have u1 := od.cell 1 rfl; have u2 := od.cell 2 rfl; have u3 := od.cell 3 rfl; have u4 := od.cell 4 rfl; have u5 := od.cell 5 rfl; have u6 := od.cell 6 rfl; have u7 := od.cell 7 rfl; have u8 := od.cell 8 rfl; have u9 := od.cell 9 rfl; have u10 := od.cell 10 rfl
  clear hdr o0 hT0 hb0 hW
  go_enter Tryz.func4, Tryz.ntmps4
  go_wp2_with fail
  go_region_law (first
    | ((try go_simp); go_at_call 11; (refine (HP _ hTd).mono ?_); rintro e w1 ⟨rfl, hx⟩; have o1 := od.below hx od.lt; have hT1 := hTd.below hx; have hb1 := hbd.trans (hx.mono hbd.size); have v0 := o1.cell 0 rfl; have v1 := o1.cell 1 rfl; have v2 := o1.cell 2 rfl; have v3 := o1.cell 3 rfl; have v4 := o1.cell 4 rfl; have v5 := o1.cell 5 rfl; have v6 := o1.cell 6 rfl; have v7 := o1.cell 7 rfl; have v8 := o1.cell 8 rfl; have v9 := o1.cell 9 rfl; have v10 := o1.cell 10 rfl; clear hx)
    | ((try go_simp); go_at_call 12; (refine (HR _).mono ?_); rintro e w2 ⟨rfl, hx⟩; have hT2 := hT1.below hx; have hb2 := hb1.trans (hx.mono hb1.size); clear hx)
    | ((try go_simp); go_at_call 8; (refine (awake14C _ hT2).mono ?_); rintro e w3 ⟨rfl, hx⟩; have hb3 := hb2.trans (hx.mono hb2.size); clear hx))
  all_goals
    go_wp2
    go_ret
    exact ⟨rfl, hb3⟩
end Go.Proofs.YthefieemngmnjaaGreatDoor
