/- Contracts of layer 10: an address's parts. -/
import Derived.Test.YtgaodaimkojmhaaDoorUriPlain4
import Derived.Test.YtgaodaimkojmhaaDoorUriRef3
import Derived.Test.YtgaodaimkojmhaaDoorHost4
import Derived.BigQuiet
namespace Go.Proofs.YtgaodaimkojmhaaDoor
open Go.RowKit
set_option linter.unusedVariables false

theorem wordCutC (l : List UInt8) (n : Nat) (w : World) (hl : l.length = n) (hm : n ≤ 100000) (hT : PTab Tryd.prog w) :
    Calls Tryd.prog 12 #[.string (str l), .string ⟨#[58, 47, 47]⟩] w fun e w' => e = .returned (.tuple #[.string (str (wordCut l).1), .string (str (wordCut l).2.1), .bool (wordCut l).2.2]) ∧ Below w.heap.size w w' := by
  obtain ⟨m, hm2⟩ := hT.most 0 (by kernel_rfl)
  refine (Tryd.strings_Cut (str l) ⟨#[58, 47, 47]⟩ m w (by rw [str_size, hl]; omega) hm2).mono ?_
  rintro e w' ⟨rfl, k, rfl⟩
  refine ⟨?_, below_draws (Below.refl _ w) k⟩
  rw [str_data]
  show Ending.returned (.tuple #[.string ⟨(Lib.cut l [58, 47, 47]).1.toArray⟩, .string ⟨(Lib.cut l [58, 47, 47]).2.1.toArray⟩, .bool (Lib.cut l [58, 47, 47]).2.2]) = _
  rw [lib_cut]
  rfl

theorem anyC (l s : List UInt8) (w : World) (hm : l.length ≤ 100000) (ha : l.all seenB = true) (hs : s.length ≤ 100) (hc : s.all seenB = true) :
    Calls Tryd.prog 34 #[.string (str l), .string (str s)] w fun e w' => e = .returned (.int .i64 (if findS l s = l.length then -1 else (findS l s : Int))) ∧ Below w.heap.size w w' := by
  refine (Tryd.strings_IndexAny_laid (str l) (str s) w (by rw [str_size]; omega) (by rw [str_size]; omega) (by rw [str_data]; exact seen_ascii ha) (by rw [str_data]; exact seen_ascii hc)).mono ?_
  rintro e w' ⟨rfl, hb⟩
  rw [str_data, str_data, lib_any]
  exact ⟨rfl, hb⟩

theorem byteC (l : List UInt8) (c : UInt8) (w : World) :
    Calls Tryd.prog 32 #[.string (str l), .int .u8 (c.toNat : Int)] w fun e w' => e = .returned (.int .i64 (Lib.indexByte l c)) ∧ w = w' := by
  refine (Tryd.strings_IndexByte (str l) (c.toNat : Int) w).mono ?_
  rintro e w' ⟨rfl, rfl⟩
  rw [str_data]
  have : (c.toNat : Int).toNat.toUInt8 = c := by simp
  rw [this]
  exact ⟨rfl, rfl⟩

theorem headC (l : List UInt8) (c : UInt8) (w : World) :
    Calls Tryd.prog 29 #[.string (str l), .string ⟨#[c]⟩] w fun e w' => e = .returned (.bool (Lib.hasPrefix l [c])) ∧ w = w' := by
  refine (Tryd.strings_HasPrefix (str l) ⟨#[c]⟩ w).mono ?_
  rintro e w' ⟨rfl, rfl⟩
  rw [str_data]
  exact ⟨rfl, rfl⟩

set_option maxRecDepth 100000 in
theorem cutAheadC (l s : List UInt8) (n : Nat) (w : World) (hl : l.length = n) (hm : n ≤ 100000) (ha : l.all seenB = true) (hs : s.length ≤ 100) (hc : s.all seenB = true) :
    Calls Tryd.prog 16 #[.string (str l), .string (str s)] w fun e w' => e = .returned (.tuple #[.string (str (l.take (findS l s))), .string (str (l.drop (findS l s)))]) ∧ Below w.heap.size w w' := by
  have hsz : (str l).size = n := by rw [str_size, hl]
  have HI := fun w => anyC l s w (by omega) ha hs hc
  have hle := findS_le l s
  have hx1 : (str l).extract 0 (findS l s) = str (l.take (findS l s)) := by rw [str_extract]; simp
  have hx2 : (str l).extract (findS l s) n = str (l.drop (findS l s)) := by rw [str_extract, List.take_of_length_le (by rw [List.length_drop]; omega)]
  have ht : findS l s = n → l.take (findS l s) = l ∧ l.drop (findS l s) = [] := fun h => by
    rw [h, ← hl]
    exact ⟨List.take_length, List.drop_length⟩
  have e0 : ({ data := #[] } : ByteArray) = str [] := rfl
  rw [hl] at HI hle
  generalize l.take (findS l s) = t1 at *
  generalize l.drop (findS l s) = t2 at *
  generalize findS l s = k at *
  clear hl ha hs hc
  by_cases h : k = n
  · simp only [if_pos h] at HI
    obtain ⟨rfl, rfl⟩ := ht h
    go_enter Tryd.func16, Tryd.ntmps16
    go_wp2_with (go_at_call 34; (with_reducible refine (HI _).mono ?_); rintro e w1 ⟨rfl, hb⟩)
    go_ret2
    exact ⟨rfl, hb⟩
  · simp only [if_neg h] at HI
    have c1 : ¬ (k : Int) < 0 := by omega
    have c2 : (0 : Int) ≤ (k : Int) := by omega
    have c3 : (k : Int) ≤ (n : Int) := by omega
    clear ht h
    go_enter Tryd.func16, Tryd.ntmps16
    go_wp2_with (go_at_call 34; (with_reducible refine (HI _).mono ?_); rintro e w1 ⟨rfl, hb⟩)
    go_quiet (fail)
    go_wp2
    go_ret2
    exact ⟨rfl, hb.os, hb.tape, hb.output, hb.size, hb.block⟩

set_option maxRecDepth 100000 in
theorem hostPortC (l : List UInt8) (n : Nat) (w : World) (hl : l.length = n) (hm : n ≤ 100000) (ha : l.all seenB = true) :
    Calls Tryd.prog 17 #[.string (str l)] w fun e w' => e = .returned (.tuple #[.string (str (nameCut l).1), .string (str (nameCut l).2)]) ∧ Below w.heap.size w w' := by
  have hsz : (str l).size = n := by rw [str_size, hl]
  have HH := fun w => headC l 91 w
  have HF := fun w => byteC l 93 w
  have HC := fun w => cutAheadC l [58] n w hl hm ha (by decide) (by decide)
  change ∀ w, Calls Tryd.prog 16 #[.string (str l), .string ⟨#[58]⟩] w _ at HC
  change ∀ w, Calls Tryd.prog 32 #[.string (str l), .int .u8 93] w _ at HF
  have e0 : ({ data := #[] } : ByteArray) = str [] := rfl
  unfold nameCut
  rw [hl]
  simp only [byte_find, hl] at HF
  have hle : l.findIdx (· == 93) ≤ n := by rw [← hl]; exact List.findIdx_le_length
  cases hh : Lib.hasPrefix l [91] with
  | false =>
    rw [if_neg Bool.false_ne_true]
    rw [hh] at HH
    dsimp only
    generalize str (l.take (findS l [58])) = t1 at *
    generalize str (l.drop (findS l [58])) = t2 at *
    clear HF hle hl ha hh
    go_enter Tryd.func17, Tryd.ntmps17
    go_wp2_with (first
      | (go_at_call 29; (with_reducible refine (HH _).mono ?_); rintro e w1 ⟨rfl, rfl⟩)
      | (go_at_call 16; (with_reducible refine (HC _).mono ?_); rintro e w1 ⟨rfl, hb⟩))
    go_ret2
    exact ⟨rfl, hb⟩
  | true =>
    rw [if_pos rfl]
    rw [hh] at HH
    clear HC
    have hx1 : ∀ k, (str l).extract 0 k = str (l.take k) := fun k => by rw [str_extract]; simp
    have hx2 : ∀ k, (str l).extract k n = str (l.drop k) := fun k => by rw [str_extract, List.take_of_length_le (by rw [List.length_drop]; omega)]
    have hn0 : (0 : Int) ≤ (n : Int) := by omega
    by_cases h : l.findIdx (· == 93) = n
    · rw [if_pos h]
      simp only [if_pos h] at HF
      have h0 : l.take 0 = [] := rfl
      have h1 : l.drop 0 = l := rfl
      have hb := below_draws (Below.refl w.heap.size w) 1
      dsimp only
      have q1 := hx1 0
      have q2 := hx2 0
      rw [h0] at q1
      rw [h1] at q2
      clear h h0 h1 hle hl hh ha hx1 hx2
      go_enter Tryd.func17, Tryd.ntmps17
      go_wp2_with (first
        | (go_at_call 29; (with_reducible refine (HH _).mono ?_); rintro e w1 ⟨rfl, rfl⟩)
        | (go_at_call 32; (with_reducible refine (HF _).mono ?_); rintro e w1 ⟨rfl, rfl⟩))
      go_quiet (fail)
      go_wp2
      go_ret2
      exact ⟨rfl, below_draws (Below.refl w.heap.size w) _⟩
    · rw [if_neg h]
      simp only [if_neg h] at HF
      have hlt : l.findIdx (· == 93) + 1 ≤ n := by omega
      generalize l.findIdx (· == 93) = k at *
      have q1 := hx1 (k + 1)
      have q2 := hx2 (k + 1)
      obtain ⟨K, hK⟩ : ∃ K, k + 1 = K := ⟨_, rfl⟩
      have hw : wrap64 ((k : Int) + 1) = (K : Int) := by rw [show ((k : Int) + 1) = (K : Int) by omega]; unfold wrap64; omega
      have hz : (k : Int) + 1 = (K : Int) := by omega
      rw [hK] at q1 q2 ⊢
      have c3 : (K : Int) ≤ (n : Int) := by omega
      have c4 : (0 : Int) ≤ (K : Int) := by omega
      dsimp only
      generalize l.take K = t1 at *
      generalize l.drop K = t2 at *
      clear h hle hl hh ha hx1 hx2 hlt hK
      go_enter Tryd.func17, Tryd.ntmps17
      go_wp2_with (first
        | (go_at_call 29; (with_reducible refine (HH _).mono ?_); rintro e w1 ⟨rfl, rfl⟩)
        | (go_at_call 32; (with_reducible refine (HF _).mono ?_); rintro e w1 ⟨rfl, rfl⟩))
      go_quiet (fail)
      go_wp2
      go_ret2
      exact ⟨rfl, below_draws (Below.refl w.heap.size w) _⟩

theorem cutColonC (l : List UInt8) (w : World) : Calls Tryd.prog 36 #[.string (str l), .string ⟨#[58]⟩] w fun e w' => e = .returned (.tuple #[.string (str (Lib.trimPrefix l [58])), .bool (Lib.hasPrefix l [58])]) ∧ w = w' := by
  refine (Tryd.strings_CutPrefix (str l) ⟨#[58]⟩ w).mono ?_
  rintro e w' ⟨rfl, rfl⟩
  rw [str_data]
  exact ⟨rfl, rfl⟩

set_option maxRecDepth 100000 in
theorem isPortC (l : List UInt8) (n : Nat) (w : World) (hl : l.length = n) (hm : n ≤ 100000) :
    Calls Tryd.prog 19 #[.string (str l)] w fun e w' => e = .returned (.bool (portB l)) ∧ Below w.heap.size w w' := by
  have HC := fun w => cutColonC l w
  have hb := Below.refl w.heap.size w
  have hk := str_toList
  cases hp : Lib.hasPrefix l [58] with
  | false =>
    rw [port_is l hp]
    have ht : Lib.trimPrefix l [58] = l := by unfold Lib.trimPrefix; rw [if_neg (by rw [hp]; exact Bool.false_ne_true)]
    rw [ht, hp] at HC
    have e0 : ({ data := #[] } : ByteArray) = str [] := rfl
    clear hl hp ht
    generalize hq : (l == []) = q
    go_enter Tryd.func19, Tryd.ntmps19
    go_wp2_with (go_at_call 36; (with_reducible refine (HC _).mono ?_); rintro e w1 ⟨rfl, rfl⟩)
    go_ret
    exact ⟨rfl, hb⟩
  | true =>
    rw [hp] at HC
    obtain ⟨d, rfl⟩ : ∃ d, l = 58 :: d := by
      cases l with
      | nil => cases hp
      | cons a t =>
        have : (58 : UInt8) = a := by simpa [Lib.hasPrefix, List.isPrefixOf] using hp
        exact ⟨t, by rw [this]⟩
    have ht : Lib.trimPrefix (58 :: d) [58] = d := by unfold Lib.trimPrefix; rw [if_pos hp]; rfl
    rw [ht] at HC
    rw [port_digits]
    obtain ⟨m, hd⟩ : ∃ m, d.length = m := ⟨_, rfl⟩
    have hsz : (str d).size = m := by rw [str_size, hd]
    have HN := fun w => numberC d m w hd (by rw [List.length_cons] at hl; unfold maxLen; omega)
    have HD := fun w => digitsC d m w hd (by rw [List.length_cons] at hl; unfold maxLen; omega)
    change ∀ w, Calls Tryd.prog 38 #[.string (str d)] w fun e w' => e = .returned (.int .i64 (lead d : Int)) ∧ w = w' at HD
    rw [hd]
    generalize (numL d).1 = v at *
    generalize (numL d).2 = f at *
    generalize lead d = g at *
    generalize str (58 :: d) = S at *
    clear hp ht hl hd
    by_cases h1 : m ≤ 5
    · rw [decide_eq_true h1, Bool.true_and]
      have c1 : (m : Int) ≤ 5 := by omega
      by_cases h2 : g = m
      · subst h2
        rw [beq_self_eq_true, Bool.true_and]
        by_cases h3 : v ≤ 65535
        · rw [decide_eq_true h3]
          go_enter Tryd.func19, Tryd.ntmps19
          go_wp2_with (first
            | (go_at_call 36; (with_reducible refine (HC _).mono ?_); rintro e w1 ⟨rfl, rfl⟩)
            | (go_at_call 37; (with_reducible refine (HN _).mono ?_); rintro e w1 ⟨rfl, rfl⟩)
            | (go_at_call 38; (with_reducible refine (HD _).mono ?_); rintro e w1 ⟨rfl, rfl⟩))
          go_ret
          exact ⟨rfl, hb⟩
        · have e3 := decide_eq_false h3
          rw [e3]
          go_enter Tryd.func19, Tryd.ntmps19
          go_wp2_with (first
            | (go_at_call 36; (with_reducible refine (HC _).mono ?_); rintro e w1 ⟨rfl, rfl⟩)
            | (go_at_call 37; (with_reducible refine (HN _).mono ?_); rintro e w1 ⟨rfl, rfl⟩)
            | (go_at_call 38; (with_reducible refine (HD _).mono ?_); rintro e w1 ⟨rfl, rfl⟩))
          go_ret
          exact ⟨by rw [← e3]; rfl, hb⟩
      · rw [beq_eq_false_iff_ne.2 h2, Bool.false_and]
        have c2 : ¬ (g : Int) = (m : Int) := by omega
        have c3 : ((g : Int) == (m : Int)) = false := beq_eq_false_iff_ne.2 c2
        go_enter Tryd.func19, Tryd.ntmps19
        go_wp2_with (first
          | (go_at_call 36; (with_reducible refine (HC _).mono ?_); rintro e w1 ⟨rfl, rfl⟩)
          | (go_at_call 37; (with_reducible refine (HN _).mono ?_); rintro e w1 ⟨rfl, rfl⟩)
          | (go_at_call 38; (with_reducible refine (HD _).mono ?_); rintro e w1 ⟨rfl, rfl⟩))
        go_ret
        exact ⟨rfl, hb⟩
    · rw [decide_eq_false h1, Bool.false_and]
      have c1 : ¬ (m : Int) ≤ 5 := by omega
      go_enter Tryd.func19, Tryd.ntmps19
      go_wp2_with (first
        | (go_at_call 36; (with_reducible refine (HC _).mono ?_); rintro e w1 ⟨rfl, rfl⟩)
        | (go_at_call 37; (with_reducible refine (HN _).mono ?_); rintro e w1 ⟨rfl, rfl⟩)
        | (go_at_call 38; (with_reducible refine (HD _).mono ?_); rintro e w1 ⟨rfl, rfl⟩))
      go_ret
      exact ⟨rfl, hb⟩

set_option maxRecDepth 100000 in
theorem pathOfC (l : List UInt8) (n : Nat) (w : World) (hl : l.length = n) (hm : n ≤ 100000) (ha : l.all seenB = true) :
    Calls Tryd.prog 20 #[.string (str l)] w fun e w' => e = .returned (.string (str (pathU l))) ∧ Below w.heap.size w w' := by
  have HC := fun w => cutAheadC l [63, 35] n w hl hm ha (by decide) (by decide)
  change ∀ w, Calls Tryd.prog 16 #[.string (str l), .string ⟨#[63, 35]⟩] w _ at HC
  rw [path_is]
  have hlt : (l.take (findS l [63, 35])).length ≤ 100000 := by rw [List.length_take]; omega
  generalize l.drop (findS l [63, 35]) = r at *
  generalize l.take (findS l [63, 35]) = p at *
  have HH := fun w => headC p 47 w
  change ∀ w, Calls Tryd.prog 29 #[.string (str p), .string (str [47])] w _ at HH
  have e47 : ({ data := #[47] } : ByteArray) = str [47] := rfl
  have hadd : ∀ w, (Op.stringOp .add (str [47]) (str p)).run Tryd.prog w = .ok (.string (str (47 :: p))) w := fun w => run_add_str w [47] p (by simp; omega)
  clear hl ha hlt
  cases hh : Lib.hasPrefix p [47] with
  | true =>
    rw [if_pos rfl]
    rw [hh] at HH
    go_enter Tryd.func20, Tryd.ntmps20
    go_wp2_with (first
      | (go_at_call 16; (with_reducible refine (HC _).mono ?_); rintro e w1 ⟨rfl, hb⟩)
      | (go_at_call 29; (with_reducible refine (HH _).mono ?_); rintro e w1 ⟨rfl, rfl⟩))
    go_ret
    exact ⟨rfl, hb⟩
  | false =>
    rw [if_neg Bool.false_ne_true]
    rw [hh] at HH
    go_enter Tryd.func20, Tryd.ntmps20
    go_wp2_with (first
      | (go_at_call 16; (with_reducible refine (HC _).mono ?_); rintro e w1 ⟨rfl, hb⟩)
      | (go_at_call 29; (with_reducible refine (HH _).mono ?_); rintro e w1 ⟨rfl, rfl⟩))
    go_ret
    exact ⟨rfl, hb⟩

set_option maxRecDepth 100000 in
theorem wordOfC (h p : List UInt8) (sec scr : Bool) (w : World) :
    Calls Tryd.prog 28 #[.agg #[.string (str h), .string (str p), .bool sec, .bool scr]] w fun e w' => e = .returned (.string (str (schemeL sec))) ∧ Below w.heap.size w w' := by
  have hb := below_alloc w (.cells #[.string (str h), .string (str p), .bool sec, .bool scr] 24)
  cases sec
  · go_enter Tryd.func28, Tryd.ntmps28
    go_wp2
    go_ret
    exact ⟨rfl, hb⟩
  · go_enter Tryd.func28, Tryd.ntmps28
    go_wp2
    go_ret
    exact ⟨rfl, hb⟩

set_option maxRecDepth 100000 in
theorem butFnC (s : List UInt8) (x : UInt8) (b : Nat) (w : World) (hc : w.cell? ⟨b, 0, none⟩ = some (.string (str s))) :
    Calls Tryd.prog 31 #[.int .u8 (x.toNat : Int), .pointer (some ⟨b, 0, none⟩)] w fun e w' => e = .returned (.bool (butB s x)) ∧ w = w' := by
  have HB := fun w => byteC s x w
  have hl := lib_byte s x
  unfold butB seenB
  generalize Lib.indexByte s x = v at *
  generalize s.contains x = t at *
  generalize x.toNat = n at *
  by_cases h1 : 33 ≤ n
  · have c1 : (33 : Int) ≤ (n : Int) := by omega
    by_cases h2 : n ≤ 126
    · have c2 : (n : Int) ≤ 126 := by omega
      rw [decide_eq_true h1, decide_eq_true h2]
      cases t with
      | true =>
        have c3 : ¬ v < 0 := fun c => by cases hl.1 c
        go_enter Tryd.func31, Tryd.ntmps31
        go_wp2_with (go_at_call 32; (with_reducible refine (HB _).mono ?_); rintro e w1 ⟨rfl, rfl⟩)
        go_ret
        exact ⟨rfl, rfl⟩
      | false =>
        have c3 : v < 0 := hl.2 rfl
        go_enter Tryd.func31, Tryd.ntmps31
        go_wp2_with (go_at_call 32; (with_reducible refine (HB _).mono ?_); rintro e w1 ⟨rfl, rfl⟩)
        go_ret
        exact ⟨rfl, rfl⟩
    · have c2 : ¬ (n : Int) ≤ 126 := by omega
      rw [decide_eq_true h1, decide_eq_false h2]
      clear hl
      go_enter Tryd.func31, Tryd.ntmps31
      go_wp2
      go_ret
      exact ⟨rfl, rfl⟩
  · have c1 : ¬ (33 : Int) ≤ (n : Int) := by omega
    rw [decide_eq_false h1]
    clear hl
    go_enter Tryd.func31, Tryd.ntmps31
    go_wp2
    go_ret
    exact ⟨rfl, rfl⟩

set_option maxRecDepth 100000 in
theorem butC (s : List UInt8) (w : World) :
    Calls Tryd.prog 14 #[.string (str s)] w fun e w' => e = .returned (.func (.func 31) #[] #[.pointer (some ⟨w.heap.size, 0, none⟩)]) ∧ w.alloc (.cells #[.string (str s)] 9) = w' := by
  have hmf : ∀ (fn : Fn) (first cap : Array Value) (w : World), (Instr.makeFunc fn first cap).run Tryd.prog w = .ok (.func fn first cap) w := fun _ _ _ _ => rfl
  go_enter Tryd.func14, Tryd.ntmps14
  go_wp2
  go_ret
  exact ⟨rfl, rfl⟩

set_option maxRecDepth 100000 in
theorem allBC (s l : List UInt8) (n b : Nat) (w : World) (hc : w.cell? ⟨b, 0, none⟩ = some (.string (str s))) (hl : l.length = n) (hm : n ≤ maxLen) :
    Calls Tryd.prog 13 #[.string (str l), .func (.func 31) #[] #[.pointer (some ⟨b, 0, none⟩)]] w fun e w' => e = .returned (.bool (l.all (butB s))) ∧ w = w' := by
  have hsz : (str l).size = n := by rw [str_size, hl]
  unfold maxLen at hm
  have HL := Lib.hid hl
  clear hl
  have HP := fun x => butFnC s x b w hc
  clear hc
  generalize butB s = p at *
  have HR : Hid (∀ k, k < n → p (l.getD k 0) = false → l.all p = false) := fun k hk h => all_no (by rw [HL.out]; exact hk) h
  have HY : Hid ((∀ j, j < n → p (l.getD j 0) = true) → l.all p = true) := fun h => all_yes (by rw [HL.out]; exact h)
  generalize l.all p = R at *
  go_enter Tryd.func13, Tryd.ntmps13
  go_wp2
  go_loopw [8] (fun i wr => ∃ k : Nat, k ≤ n ∧ i = .int .i64 (k : Int) ∧ Hid (∀ j, j < k → p (l.getD j 0) = true) ∧ w = wr) (fun i _ => n - (intOf i).toNat)
  case atStart => exact ⟨0, Nat.zero_le _, rfl, fun j hj => absurd hj (by omega), rfl⟩
  case round =>
    obtain ⟨k, hk, rfl, H, rfl⟩ := hrel
    by_cases hlt : k < n
    · have hlt' : (k : Int) < (n : Int) := by omega
      have hi := run_index_str (P := Tryd.prog) w 9 l .i64 k Tryd.underlying9 (by rw [HL.out]; exact hlt)
      have HN := Lib.hid (fun (hp : p (l.getD k 0) = true) => (fun j hj => by
        rcases Nat.lt_succ_iff_lt_or_eq.1 hj with h | rfl
        · exact H.out j h
        · exact hp : ∀ j, j < k + 1 → p (l.getD j 0) = true))
      have HF := Lib.hid (HR.out k hlt)
      have HC := HP (l.getD k 0)
      clear HP
      generalize p (l.getD k 0) = t at *
      generalize l.getD k 0 = x at HC hi
      cases t
      · have HF2 := Lib.hid (HF.out rfl)
        clear HN HF
        go_wp2_with (go_at_call 31; (with_reducible refine HC.mono ?_); rintro e w1 ⟨rfl, rfl⟩)
        go_ret
        exact ⟨by rw [HF2.out]; rfl, rfl⟩
      · have HN2 := Lib.hid (HN.out rfl)
        clear HN HF
        go_wp2_with (go_at_call 31; (with_reducible refine HC.mono ?_); rintro e w1 ⟨rfl, rfl⟩)
        go_roundw
        case rel => exact ⟨k + 1, by omega, by go_num, HN2.out, by first | rfl | trivial⟩
        case measure => simp [intOf]; omega
    · obtain rfl : k = n := by omega
      have HE := Lib.hid (HY.out H.out)
      clear HP
      go_wp2
      go_ret
      exact ⟨by rw [HE.out]; rfl, rfl⟩
end Go.Proofs.YtgaodaimkojmhaaDoor
