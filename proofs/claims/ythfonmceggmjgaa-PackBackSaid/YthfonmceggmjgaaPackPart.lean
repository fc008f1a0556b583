/- The parts of layer 5's laws: what a walk is told of them; the laws' helpers. -/
import Derived.Test.YthfonmceggmjgaaPackRead
import Derived.Test.YthfonmceggmjgaaVarLaw2
import Derived.Test.YthfonmceggmjgaaOpen
import Derived.Test.YthfonmceggmjgaaBitRow
import Derived.BigRegion
namespace Go.Proofs.Ythfonmceggmjgaa
open Go.RowKit
set_option linter.unusedVariables false

/-- A part: what kind, its number, its text, its flags, what is asked at most. -/
structure Part where
  K : Int
  N : Nat
  S : ByteArray
  A : Option Addr
  L : Nat
  C : Nat
  M : Int
  F : List Bool
def Part.cells (q : Part) : Array Value := #[.int .i64 q.K, .int .u64 (q.N : Int), .string q.S, .slice q.A q.L q.C, .int .i64 q.M]
structure Part.ok (q : Part) (w : World) : Prop where
  n1 : q.N ≤ 18446744073709551615
  k0 : -9223372036854775808 ≤ q.K
  k1 : q.K ≤ 9223372036854775807
  m0 : -9223372036854775808 ≤ q.M
  m1 : q.M ≤ 9223372036854775807
  s1 : q.S.size ≤ maxLen
  fl : q.F.length = q.L
  lc : q.L ≤ q.C
  cm : q.C ≤ maxLen
  nil : q.A = none → q.C = 0
  rd : Reads w q.A (q.F.map Value.bool)
theorem Part.ok.below {q : Part} {w w' : World} (h : q.ok w) (hb : Below w.heap.size w w') : q.ok w' := { h with rd := h.rd.below' hb }

/-- A slice of parts that came in. -/
def IsParts (w : World) (a : Option Addr) (len cap : Nat) (Q : Nat → Part) : Prop :=
  len ≤ cap ∧ cap ≤ maxLen ∧ (a = none → cap = 0) ∧ ∀ r, r < len → ∃ b off, a = some ⟨b, off, none⟩ ∧ w.cell? ⟨b, off + r * 5, none⟩ = some (.int .i64 (Q r).K) ∧ w.cell? ⟨b, off + r * 5 + 1, none⟩ = some (.int .u64 ((Q r).N : Int)) ∧
    w.cell? ⟨b, off + r * 5 + 2, none⟩ = some (.string (Q r).S) ∧ w.cell? ⟨b, off + r * 5 + 3, none⟩ = some (.slice (Q r).A (Q r).L (Q r).C) ∧ w.cell? ⟨b, off + r * 5 + 4, none⟩ = some (.int .i64 (Q r).M) ∧ (Q r).ok w

def Light (Q : Nat → Part) (n : Nat) : Prop := n ≤ 30 ∧ ∀ r, r < n → (Q r).S.size ≤ 300 ∧ (Q r).L ≤ 20

set_option maxRecDepth 100000 in
theorem lightYes (Q : Nat → Part) (a : Option Addr) (n c : Nat) (w : World) (hp : IsParts w a n c Q) (hl : Light Q n) :
    Calls Try.prog 6 #[.slice a n c] w fun e w' => e = .returned (.bool true) ∧ w = w' := by
  have h30 : (n : Int) ≤ 30 := by have := hl.1; omega
  have HL := Lib.hid hl.2
  have HP := Lib.hid hp.2.2.2
  clear hl hp
  go_enter Try.func6, Try.ntmps6
  go_wp2
  go_loopw [3] (fun i wr => ∃ k : Nat, k ≤ n ∧ i = .int .i64 (k : Int) ∧ w = wr) (fun i _ => n - (intOf i).toNat)
  case atStart => exact ⟨0, Nat.zero_le _, rfl, rfl⟩
  case round =>
    obtain ⟨k, hk, rfl, rfl⟩ := hrel
    by_cases hlt : k < n
    · obtain ⟨b, off, rfl, d0, d1, d2, d3, d4, hok⟩ := HP.out k hlt
      obtain ⟨l1, l2⟩ := HL.out k hlt
      have hlt' : (k : Int) < (n : Int) := by omega
      have l1' : ((Q k).S.size : Int) ≤ 300 := by omega
      have l2' : ((Q k).L : Int) ≤ 20 := by omega
      go_wp2
      go_roundw
      case rel => exact ⟨k + 1, by omega, by go_num, trivial⟩
      case measure => simp [intOf]; omega
    · go_wp2
      go_ret
      exact ⟨rfl, rfl⟩

set_option maxRecDepth 100000 in
theorem lightNo (Q : Nat → Part) (a : Option Addr) (n c : Nat) (w : World) (hp : IsParts w a n c Q) (hl : ¬ Light Q n) :
    Calls Try.prog 6 #[.slice a n c] w fun e w' => e = .returned (.bool false) ∧ w = w' := by
  by_cases h30 : n ≤ 30
  · have h30' : (n : Int) ≤ 30 := by omega
    have HL := Lib.hid hl
    have HP := Lib.hid hp.2.2.2
    clear hl hp
    go_enter Try.func6, Try.ntmps6
    go_wp2
    go_loopw [3] (fun i wr => ∃ k : Nat, k ≤ n ∧ i = .int .i64 (k : Int) ∧ Hid (∀ r, r < k → (Q r).S.size ≤ 300 ∧ (Q r).L ≤ 20) ∧ w = wr) (fun i _ => n - (intOf i).toNat)
    case atStart => exact ⟨0, Nat.zero_le _, rfl, (fun r hr => by omega), rfl⟩
    case round =>
      obtain ⟨k, hk, rfl, HK, rfl⟩ := hrel
      by_cases hlt : k < n
      · obtain ⟨b, off, rfl, d0, d1, d2, d3, d4, hok⟩ := HP.out k hlt
        have hlt' : (k : Int) < (n : Int) := by omega
        by_cases l1 : (Q k).S.size ≤ 300
        · have l1' : ((Q k).S.size : Int) ≤ 300 := by omega
          by_cases l2 : (Q k).L ≤ 20
          · have l2' : ((Q k).L : Int) ≤ 20 := by omega
            have HK2 : Hid (∀ r, r < k + 1 → (Q r).S.size ≤ 300 ∧ (Q r).L ≤ 20) := fun r hr => by
              by_cases e : r = k
              · subst e; exact ⟨l1, l2⟩
              · exact HK.out r (by omega)
            go_wp2
            go_roundw
            case rel => exact ⟨k + 1, by omega, by go_num, HK2, trivial⟩
            case measure => simp [intOf]; omega
          · have l2' : (20 : Int) < ((Q k).L : Int) := by omega
            go_wp2
            go_ret
            exact ⟨rfl, rfl⟩
        · have l1' : (300 : Int) < ((Q k).S.size : Int) := by omega
          go_wp2
          go_ret
          exact ⟨rfl, rfl⟩
      · exact absurd ⟨h30, fun r hr => HK.out r (by omega)⟩ HL.out
  · have h30' : (30 : Int) < (n : Int) := by omega
    go_enter Try.func6, Try.ntmps6
    go_wp2
    go_ret
    exact ⟨rfl, rfl⟩

theorem sameFlagsC (f : List Bool) (n : Nat) (a b : Option Addr) (c d : Nat) (w : World) (hf : f.length = n) (ha : Reads w a (f.map Value.bool)) (hb : Reads w b (f.map Value.bool)) (hm : n ≤ maxLen) :
    Calls Try.prog 19 #[.slice a n c, .slice b n d] w fun e w' => e = .returned (.bool true) ∧ ∃ m, w' = w.drewN m := by
  unfold maxLen at hm
  have hN := Lib.hid hf
  clear hf
  go_enter Try.func19, Try.ntmps19
  go_wp2
  go_loopw [5] (fun i wr => ∃ k : Nat, k ≤ n ∧ i = .int .i64 k ∧ ∃ m, wr = w.drewN m) (fun i _ => n - (intOf i).toNat)
  case atStart => exact ⟨0, Nat.zero_le _, rfl, 0, rfl⟩
  case round =>
    obtain ⟨k, hk, rfl, m, rfl⟩ := hrel
    by_cases hlt : k < n
    · have hkv : (f.map Value.bool)[k]? = some (.bool (f.getD k false)) := by rw [List.getElem?_map, List.getD_eq_getElem?_getD, List.getElem?_eq_getElem (by rw [hN.out]; exact hlt)]; rfl
      obtain ⟨B, off, rfl, c0⟩ := ha k _ hkv
      obtain ⟨B', off', rfl, c1⟩ := hb k _ hkv
      generalize f.getD k false = x at c0 c1
      have hlt' : (k : Int) < (n : Int) := by omega
      clear ha hb hkv
      go_wp2_with fail
      go_quiet (fail)
      go_wp2
      go_roundw
      case rel => exact ⟨k + 1, by omega, by go_num, _, rfl⟩
      case measure => simp [intOf]; omega
    · go_wp2
      go_ret
      exact ⟨rfl, m, rfl⟩

theorem refNumC (q : List Int) (N n : Nat) (w : World) (hq : short N = q) (hn : q.length = n) (h : N ≤ 18446744073709551615) :
    Calls Try.prog 10 #[.int .u64 (N : Int)] w (GivesOwned 5 (q.map (Value.int .u8)) n w) := by
  have H := fun w => refPutO q N n w hq hn h
  go_enter Try.func10, Try.ntmps10
  go_wp2_with (go_at_call 30; (with_reducible refine (H _).mono ?_); rintro e w' ⟨a, c, rfl, ho, hb⟩)
  go_ret
  exact ⟨a, c, rfl, ho, hb⟩

set_option maxRecDepth 100000 in
theorem refTextC (s : ByteArray) (n : Nat) (w : World) (hs : s.size ≤ 1000000) (hn : (textBytes s).length = n) :
    Calls Try.prog 12 #[.string s] w (GivesOwned 5 ((textBytes s).map (Value.int .u8)) n w) := by
  obtain ⟨i0, hi, hz0, hz1, hz2⟩ := info_parts info8
  have kc := fun (w : World) (s : ByteArray) => Lib.run_convert_string_bytes (P := Try.prog) w 9 26 5 s Try.underlying9 Try.underlying26 Try.underlying5
  have HN := fun w => refNumC (short s.size) s.size (short s.size).length w rfl rfl (by omega)
  have hten := short_ten s.size (by omega)
  have hR := fun w => bytesWorld_reads w 5 s
  have hB := fun w => bytesWorld_below w 5 s
  have hl := strBytes_len s
  unfold textBytes at hn ⊢
  rw [List.length_append, hl] at hn
  rw [List.map_append]
  generalize (short s.size).length = L at *
  generalize strBytes s = y at *
  have HL := Lib.hid hl
  have hs1 : (s.size : Int) ≤ 1000000 := by omega
  clear hl
  go_enter Try.func12, Try.ntmps12
  go_wp2_with (first
    | (go_at_call 10; (with_reducible refine (HN _).mono ?_); rintro e w1 ⟨a1, c1, rfl, ho1, hb1⟩; have ho2 := ho1.below (hB w1) (Nat.le_refl _); have hb2 := hb1.trans ((hB w1).mono hb1.size))
    | (at_builtin; refine wpList_append_where rfl (.tmp 8) (.tmp 10) 26 rfl 5 i0 (.int .u8 0) 1 Try.underlying26 hi hz0 hz1 hz2 rfl ho2 rfl (hR w1) rfl (by rw [List.length_map, HL.out]) (fun h => by cases h) (bytes_one y .u8) n hn (by unfold maxLen; omega) (by omega) hb2.size ?_; intro a3 c3 w3 ho3 hb3 hg3 hn3))
  go_ret
  exact ⟨a3, c3, rfl, ho3, hb2.trans hb3⟩

theorem owned_one (w : World) (e : TypeId) (x : Value) : Owned w.heap.size e (some ⟨w.heap.size, 0, none⟩) 1 1 [x] (w.alloc (.cells #[x] e)) := by
  have h : (w.alloc (.cells #[x] e)).ownsRow w.heap.size e 1 (.slice (some ⟨w.heap.size, 0, none⟩) 1 1) 1 [x] := World.ownsRow_lit _ #[x] 1 (Nat.le_refl _) (by unfold maxLen; omega) rfl
  obtain ⟨a, c, e1, h1⟩ := owns_open h
  cases e1
  exact ⟨h, h1⟩

set_option maxRecDepth 100000 in
theorem refFlagsC (f : List Bool) (n m c : Nat) (b : Option Addr) (w : World) (hr : Reads w b (f.map Value.bool)) (hf : f.length = n) (hc : n ≤ c) (hcm : c ≤ maxLen) (hm : min n 8 = m) :
    Calls Try.prog 13 #[.slice b n c] w (GivesOwned 5 [.int .u8 (flagSum (f.take 8) : Int)] 1 w) := by
  have hl8 := flagSum_take_lt f 8
  have hfe : f.take 8 = f.take m := by
    by_cases c8 : n ≤ 8
    · rw [List.take_of_length_le (by omega), List.take_of_length_le (by omega)]
    · rw [show m = 8 by omega]
  rw [hfe] at hl8 ⊢
  have HF := Lib.hid hf
  unfold maxLen at hcm
  clear hf hfe
  go_enter Try.func13, Try.ntmps13
  go_wp2
  go_loopw [3, 4, 5] (fun x b i wr => ∃ k : Nat, k ≤ m ∧ i = .int .i64 (k : Int) ∧ x = .int .i64 ((flagSum (f.take k) : Nat) : Int) ∧ b = .int .i64 ((2 ^ k : Nat) : Int) ∧ w = wr) (fun _ _ i _ => m - (intOf i).toNat)
  case atStart => exact ⟨0, Nat.zero_le _, rfl, rfl, rfl, rfl⟩
  case round =>
    obtain ⟨k, hk, rfl, rfl, rfl, rfl⟩ := hrel
    by_cases hlt : k < m
    · obtain ⟨B, off, rfl, c0⟩ := hr k (.bool (f.getD k false)) (by rw [List.getElem?_map, List.getD_eq_getElem?_getD, List.getElem?_eq_getElem (by rw [HF.out]; omega)]; rfl)
      have hX := flagSum_take f k (by rw [HF.out]; omega)
      have hXl := flagSum_take_lt f k
      generalize f.getD k false = t at c0 hX
      have hp : 2 ^ k ≤ 256 := pow8_le k (by omega)
      have hp2 : 2 ^ (k + 1) = 2 * 2 ^ k := by rw [Nat.pow_succ]; omega
      have hk8 : (k : Int) < 8 := by omega
      have hln : (k : Int) < (n : Int) := by omega
      generalize hx : flagSum (f.take k) = x at hX hXl
      generalize hy : flagSum (f.take (k + 1)) = y at hX
      generalize hP2 : 2 ^ (k + 1) = P2 at hp2
      generalize 2 ^ k = P at *
      have HX := Lib.hid hX
      have HY := Lib.hid hy
      have HP2 := Lib.hid hP2
      clear hX hy hx hr hP2
      cases t
      · go_wp2
        go_roundw
        case rel => exact ⟨k + 1, by omega, by go_num, by rw [HY.out]; have := HX.out; simp at this; rw [this], by rw [HP2.out, hp2]; push_cast; rw [Int.mul_comm], trivial⟩
        case measure => simp [intOf]; omega
      · go_wp2
        go_roundw
        case rel => exact ⟨k + 1, by omega, by go_num, by rw [HY.out]; have := HX.out; simp at this; rw [this]; push_cast; rfl, by rw [HP2.out, hp2]; push_cast; rw [Int.mul_comm], trivial⟩
        case measure => simp [intOf]; omega
    · have he : k = m := by omega
      subst he
      have hsm : ((flagSum (f.take k) : Nat) : Int) % 256 = ((flagSum (f.take k) : Nat) : Int) := by omega
      by_cases hkn : k < n
      · have d1 : (k : Int) < (n : Int) := by omega
        have d2 : ¬ (k : Int) < 8 := by omega
        generalize flagSum (f.take k) = x at *
        clear hr
        go_wp2
        go_ret
        exact ⟨_, _, rfl, owned_one w _ _, below_alloc w _⟩
      · have d1 : ¬ (k : Int) < (n : Int) := by omega
        generalize flagSum (f.take k) = x at *
        clear hr
        go_wp2
        go_ret
        exact ⟨_, _, rfl, owned_one w _ _, below_alloc w _⟩

/-- A number as a whole number with a sign. -/
def toI64 (n : Nat) : Int := ((n : Int) + 9223372036854775808) % 18446744073709551616 - 9223372036854775808
theorem toI64_eq (n : Nat) : wrap64 (n : Int) = toI64 n := by
  unfold toI64 wrap64
  omega
theorem toI64_range (n : Nat) : -9223372036854775808 ≤ toI64 n ∧ toI64 n ≤ 9223372036854775807 := by
  unfold toI64
  omega
theorem toI64_fold (n : Nat) : ∃ X : Nat, foldI (toI64 n) = (X : Int) ∧ X ≤ 18446744073709551615 := by
  have h := toI64_range n
  generalize toI64 n = m at h ⊢
  have hf := foldI_le m h.1 h.2
  obtain ⟨X, hX⟩ := Int.eq_ofNat_of_zero_le hf.1
  exact ⟨X, hX, by omega⟩

def PutGives (base p : Nat) (a : Option Addr) (l : List Int) (w : World) (en : Ending) (w' : World) : Prop :=
  en = .returned (.tuple #[]) ∧ ∃ a', Wr 5 base p a' l w' ∧ Kept p a w w' ∧ Near a a' w

/-- What is packed of a part. -/
def Part.bytes (q : Part) : List Int :=
  if q.K = 1 then short q.N else if q.K = 2 then short (foldI (toI64 q.N)).toNat else if q.K = 3 then textBytes q.S else if q.K = 4 then [(flagSum (q.F.take 8) : Int)] else []

set_option maxRecDepth 100000 in
theorem putPartC (base p : Nat) (a : Option Addr) (l : List Int) (q : Part) (w : World) (hw : Wr 5 base p a l w) (hlen : l.length ≤ 1000000000) (hbase : base ≤ w.heap.size) (hq : q.ok w) (hs : q.S.size ≤ 300) :
    Calls Try.prog 9 #[.pointer (some ⟨p, 0, none⟩), .agg q.cells] w (PutGives base p a (l ++ q.bytes) w) := by
  obtain ⟨K, N, S, A, L, C, M, F⟩ := q
  obtain ⟨n1, k0, k1, m0, m1, s1, fl, lc, cm, nil, rd⟩ := hq
  unfold Part.bytes Part.cells
  dsimp only at *
  have hb0 := below_alloc w (.cells #[.int .i64 K, .int .u64 (N : Int), .string S, .slice A L C, .int .i64 M] 34)
  by_cases c1 : K = 1
  · subst c1
    have HN := fun w hw hb => wNumC base p N a l w hw (by omega) hb n1
    rw [if_pos rfl]
    clear rd
    go_enter Try.func9, Try.ntmps9
    go_wp2_with (go_at_call 23; (with_reducible refine (HN _ (hw.below hb0) (Nat.le_trans hbase hb0.size)).mono ?_); rintro e w1 hG; have hG2 := hG.early hb0; obtain ⟨rfl, hG3⟩ := hG2)
    go_end0
    exact ⟨rfl, hG3⟩
  rw [if_neg c1]
  by_cases c2 : K = 2
  · subst c2
    have hi0 := toI64_range N
    have he := toI64_eq N
    obtain ⟨X, hX, hX1⟩ := toI64_fold N
    generalize toI64 N = m at *
    have HN := fun w hw hb => wIntC base p X m a l w hw (by omega) hb hX hX1 hi0.1 hi0.2
    rw [if_pos rfl, hX, Int.toNat_natCast]
    clear rd hX
    go_enter Try.func9, Try.ntmps9
    go_wp2_with (go_at_call 24; (with_reducible refine (HN _ (hw.below hb0) (Nat.le_trans hbase hb0.size)).mono ?_); rintro e w1 hG; have hG2 := hG.early hb0; obtain ⟨rfl, hG3⟩ := hG2)
    go_end0
    exact ⟨rfl, hG3⟩
  rw [if_neg c2]
  by_cases c3 : K = 3
  · subst c3
    have HN := fun w hw hb => wTextC base p S a l w hw (by omega) hb (by omega)
    rw [if_pos rfl]
    clear rd
    go_enter Try.func9, Try.ntmps9
    go_wp2_with (go_at_call 25; (with_reducible refine (HN _ (hw.below hb0) (Nat.le_trans hbase hb0.size)).mono ?_); rintro e w1 hG; have hG2 := hG.early hb0; obtain ⟨rfl, hG3⟩ := hG2)
    go_end0
    exact ⟨rfl, hG3⟩
  rw [if_neg c3]
  by_cases c4 : K = 4
  · subst c4
    obtain ⟨m, hm⟩ : ∃ m, min L 8 = m := ⟨_, rfl⟩
    have HN := fun w hw hb hr => wFlagsC base p F L m C A a l w hw (by omega) hb hr fl lc cm hm
    have rd0 := rd.below' hb0
    rw [if_pos rfl]
    clear rd
    go_enter Try.func9, Try.ntmps9
    go_wp2_with (go_at_call 26; (with_reducible refine (HN _ (hw.below hb0) (Nat.le_trans hbase hb0.size) rd0).mono ?_); rintro e w1 hG; have hG2 := hG.early hb0; obtain ⟨rfl, hG3⟩ := hG2)
    go_end0
    exact ⟨rfl, hG3⟩
  rw [if_neg c4, List.append_nil]
  clear rd
  go_enter Try.func9, Try.ntmps9
  go_wp2
  go_end0
  exact ⟨rfl, a, hw.below hb0, Kept.of hb0, Near.refl _ _⟩

theorem IsParts.below {w w' : World} {a : Option Addr} {n c : Nat} {Q : Nat → Part} (h : IsParts w a n c Q) (hb : Below w.heap.size w w') : IsParts w' a n c Q := by
  obtain ⟨h1, h2, h3, h4⟩ := h
  refine ⟨h1, h2, h3, fun r hr => ?_⟩
  obtain ⟨b, off, ha, d0, d1, d2, d3, d4, hok⟩ := h4 r hr
  exact ⟨b, off, ha, (hb.cell (cell_lt d0)).trans d0, (hb.cell (cell_lt d1)).trans d1, (hb.cell (cell_lt d2)).trans d2, (hb.cell (cell_lt d3)).trans d3, (hb.cell (cell_lt d4)).trans d4, hok.below hb⟩
theorem Wr.grown {e : TypeId} {base p : Nat} {a q : Option Addr} {l : List Int} {w w' : World} (h : Wr e base p a l w) (hb : Below base w w') (hg : GrownBut w w' q) (hq : Away q p a) : Wr e base p a l w' := by
  refine h.kept (p' := w.heap.size) (Kept.grown hb hg) (by have := h.lt.2; omega) (fun x hx => (hq x hx).1) (fun x hx => ⟨by have := (h.row x hx).2.1; omega, fun y hy => ?_⟩)
  exact fun e => (hq y hy).2 x hx e.symm
/-- What is packed of the first k parts. -/
def bytesTo (Q : Nat → Part) : Nat → List Int
  | 0 => []
  | k + 1 => bytesTo Q k ++ (Q k).bytes
theorem Part.bytes_len (q : Part) (h : q.S.size ≤ 300) (hN : q.N ≤ 18446744073709551615) : q.bytes.length ≤ 320 := by
  unfold Part.bytes
  split
  · have := short_ten q.N hN
    omega
  · split
    · obtain ⟨X, hX, hX1⟩ := toI64_fold q.N
      rw [hX, Int.toNat_natCast]
      have := short_ten X hX1
      omega
    · split
      · unfold textBytes
        have := short_ten q.S.size (by omega)
        rw [List.length_append, strBytes_len]
        omega
      · split
        · simp
        · simp
theorem Part.bytes_bytes (q : Part) (hN : q.N ≤ 18446744073709551615) : IsBytes q.bytes := by
  unfold Part.bytes
  split
  · exact short_bytes _
  · split
    · exact short_bytes _
    · split
      · unfold textBytes
        intro x hx
        rcases List.mem_append.mp hx with h | h
        · exact short_bytes _ x h
        · exact strBytes_bytes _ x h
      · split
        · intro x hx
          have := flagSum_take_lt q.F 8
          simp only [List.mem_singleton] at hx
          omega
        · intro x hx; cases hx
end Go.Proofs.Ythfonmceggmjgaa
