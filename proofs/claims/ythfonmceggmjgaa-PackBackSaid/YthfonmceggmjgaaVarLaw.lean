/- The walks of layer 2's laws. -/
import Derived.Test.YthfonmceggmjgaaVar
import Derived.Test.YthfonmceggmjgaaOpen
namespace Go.Proofs.Ythfonmceggmjgaa
open Go.RowKit
set_option linter.unusedVariables false

theorem GivesRow.owned {l : List Int} {w w' : World} {e : Ending} (h : GivesRow l w e w') (n : Nat) (hn : l.length = n) : GivesOwned 5 (l.map (Value.int .u8)) n w e w' := by
  subst hn
  obtain ⟨v, rfl, h1, h2⟩ := h
  obtain ⟨a, c, rfl, h3⟩ := Owned.of h1
  exact ⟨a, c, rfl, h3, h2⟩

theorem putO (l q : List Int) (n L : Nat) (a : Option Addr) (c N : Nat) (w : World) (hq : short N = q) (hn : l.length = n) (hL : (l ++ q).length = L) (ha : Reads w a (l.map (Value.int .u8))) (hc : a = none → c = 0) (hm : n ≤ 1000000000000) (h : N ≤ 18446744073709551615) :
    Calls Try.prog 36 #[.slice a n c, .int .u64 (N : Int)] w (GivesOwned 5 ((l ++ q).map (Value.int .u8)) L w) := by
  subst hn hq
  exact (putC l a c N w ha hc hm h).mono fun e w' hG => hG.owned L hL

theorem sameO (l : List Int) (n : Nat) (hn : l.length = n) (a b : Option Addr) (c d : Nat) (w : World) (ha : Reads w a (l.map (Value.int .u8))) (hb : Reads w b (l.map (Value.int .u8))) (hm : n ≤ maxLen) :
    Calls Try.prog 14 #[.slice a n c, .slice b n d] w fun e w' => e = .returned (.bool true) ∧ ∃ n, w' = w.drewN n := by
  subst hn
  exact sameC l a b c d w ha hb hm

theorem refPutO (q : List Int) (N n : Nat) (w : World) (hq : short N = q) (hn : q.length = n) (h : N ≤ 18446744073709551615) :
    Calls Try.prog 30 #[.int .u64 (N : Int)] w (GivesOwned 5 (q.map (Value.int .u8)) n w) := by
  subst hq
  exact (refPutC N w h).mono fun e w' hG => hG.owned n hn

theorem putIntO (l q : List Int) (n L : Nat) (a : Option Addr) (c : Nat) (m : Int) (N : Nat) (w : World) (hN : foldI m = (N : Int)) (hq : short N = q) (hn : l.length = n) (hL : (l ++ q).length = L) (ha : Reads w a (l.map (Value.int .u8))) (hc : a = none → c = 0) (hm : n ≤ 1000000000000) (h : N ≤ 18446744073709551615)
    (h0 : -9223372036854775808 ≤ m) (h1 : m ≤ 9223372036854775807) :
    Calls Try.prog 37 #[.slice a n c, .int .i64 m] w (GivesOwned 5 ((l ++ q).map (Value.int .u8)) L w) := by
  have H := Lib.hid hN
  have HQ := Lib.hid hq
  have HN := Lib.hid hn
  have HL := Lib.hid hL
  clear hN hq hn hL
  go_enter Try.func37, Try.ntmps37
  go_wp2_with (first
    | (go_at_call 41; (with_reducible refine (foldC _ _ h0 h1).mono ?_); rw [H.out]; rintro e w' ⟨rfl, rfl⟩)
    | (go_at_call 36; (with_reducible refine (putO l q n L a c N w HQ.out HN.out HL.out ha hc hm h).mono ?_); rintro e w' ⟨a', c', rfl, ho, hb⟩))
  go_ret
  exact ⟨a', c', rfl, ho, hb⟩

theorem refPutIntO (q : List Int) (N n : Nat) (m : Int) (w : World) (hN : foldI m = (N : Int)) (hq : short N = q) (hn : q.length = n) (h : N ≤ 18446744073709551615)
    (h0 : -9223372036854775808 ≤ m) (h1 : m ≤ 9223372036854775807) :
    Calls Try.prog 11 #[.int .i64 m] w (GivesOwned 5 (q.map (Value.int .u8)) n w) := by
  have H := Lib.hid hN
  have HQ := Lib.hid hq
  have HN := Lib.hid hn
  clear hN hq hn
  go_enter Try.func11, Try.ntmps11
  go_wp2_with (first
    | (go_at_call 31; (with_reducible refine (refFoldC _ _ h0 h1).mono ?_); rw [H.out]; rintro e w' ⟨rfl, rfl⟩)
    | (go_at_call 30; (with_reducible refine (refPutO q N n w HQ.out HN.out h).mono ?_); rintro e w' ⟨a', c', rfl, ho, hb⟩))
  go_ret
  exact ⟨a', c', rfl, ho, hb⟩

theorem short300 : short 300 = [172, 2] := by rw [short_ge 300 (by omega), short_lt _ (by omega)]; rfl
theorem got172 : got [172, 2, 9] 0 0 = (300, 2, 0) := by decide

theorem put300 (w : World) : Calls Try.prog 36 #[.slice none 0 0, .int .u64 300] w (GivesOwned 5 [.int .u8 172, .int .u8 2] 2 w) :=
  putO [] [172, 2] 0 2 none 0 300 w short300 rfl rfl (Reads.nil _ _) (fun _ => rfl) (by omega) (by omega)
theorem get172 (w : World) (a : Option Addr) (hr : Reads w a [.int .u8 172, .int .u8 2, .int .u8 9]) :
    Calls Try.prog 32 #[.slice a 3 3] w fun e w' => e = .returned (.tuple #[.int .u64 300, .int .i64 2, .int .i64 0]) ∧ w = w' := by
  refine (getC [172, 2, 9] _ 3 w hr (by unfold IsBytes; decide) (by unfold maxLen; simp)).mono ?_
  rintro e w' ⟨rfl, rfl⟩
  exact ⟨by rw [got172], rfl⟩

theorem getIntC (l : List Int) (a : Option Addr) (c : Nat) (w : World) (ha : Reads w a (l.map (Value.int .u8))) (hl : IsBytes l) (hm : l.length ≤ maxLen) :
    Calls Try.prog 33 #[.slice a l.length c] w fun e w' => e = .returned (.tuple #[.int .i64 (unfoldI (got l 0 0).1), .int .i64 (got l 0 0).2.1, .int .i64 (got l 0 0).2.2]) ∧ w = w' := by
  have hr := got_range l 0 0 hl (by omega) (by omega) (by decide)
  have HG := fun w h => getC l a c w h hl hm
  unfold GotIs at HG
  generalize got l 0 0 = r at HG hr ⊢
  obtain ⟨x, k, e⟩ := r
  go_enter Try.func33, Try.ntmps33
  go_wp2_with (first
    | (go_at_call 32; (with_reducible refine (HG _ ha).mono ?_); rintro e w' ⟨rfl, rfl⟩)
    | (go_at_call 39; (with_reducible refine (unfoldC _ _ hr.1 hr.2).mono ?_); rintro e w' ⟨rfl, rfl⟩))
  go_ret3
  exact ⟨rfl, rfl⟩

end Go.Proofs.Ythfonmceggmjgaa
