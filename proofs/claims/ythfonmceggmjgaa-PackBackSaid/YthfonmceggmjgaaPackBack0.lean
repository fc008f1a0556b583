/- The walk of layer 5's law of the way back. -/
import Derived.Test.YthfonmceggmjgaaPackLaw2
import Derived.Deep.RegionLaw
import Derived.Deep.RegionHeld3
namespace Go.Proofs.Ythfonmceggmjgaa
open Go.RowKit
set_option linter.unusedVariables false

/-- What is packed of m parts from the k-th on. -/
def bytesFrom (Q : Nat → Part) : Nat → Nat → List Int
  | _, 0 => []
  | k, m + 1 => (Q k).bytes ++ bytesFrom Q (k + 1) m
theorem bytesFrom_to (Q : Nat → Part) : ∀ m k, bytesTo Q k ++ bytesFrom Q k m = bytesTo Q (k + m)
  | 0, k => by simp [bytesFrom]
  | m + 1, k => by
    have h := bytesFrom_to Q m (k + 1)
    rw [bytesTo, List.append_assoc] at h
    rw [bytesFrom, h]
    congr 1
    omega
theorem bytesFrom_bytes (Q : Nat → Part) : ∀ m k, (∀ r, k ≤ r → r < k + m → (Q r).N ≤ 18446744073709551615) → IsBytes (bytesFrom Q k m)
  | 0, k, h => fun x hx => by cases hx
  | m + 1, k, h => fun x hx => by
    rw [bytesFrom] at hx
    rcases List.mem_append.mp hx with h1 | h1
    · exact (Q k).bytes_bytes (h k (by omega) (by omega)) x h1
    · exact bytesFrom_bytes Q m (k + 1) (fun r h2 h3 => h r (by omega) (by omega)) x h1

theorem Rd.heap {p : Nat} {l : List Int} {w w' : World} (h : Rd p l w) (e : w'.heap = w.heap) : Rd p l w' := by
  obtain ⟨a, n, c, h1, h2, h3, h4, h5, h6⟩ := h
  have hc : ∀ y, w'.cell? y = w.cell? y := fun y => World.cell?_of_block (by rw [e])
  have hf : ∀ y, w'.frozen? y = w.frozen? y := fun y => World.frozen?_of_block (by rw [e])
  exact ⟨a, n, c, by rw [e]; exact h1, (hc _).trans h2, (hc _).trans h3, (hf _).trans h4, h5.same hc, h6⟩
theorem bytesFrom_step (Q : Nat → Part) (j k : Nat) (h : j < k) : (Q j).bytes ++ bytesFrom Q (j + 1) (k - (j + 1)) = bytesFrom Q j (k - j) := by
  rw [show k - j = (k - (j + 1)) + 1 by omega]
  rfl

theorem abs_most (m : Int) (z : Nat) (h0 : -9223372036854775808 ≤ m) (h1 : m ≤ 9223372036854775807) (h2 : ¬ m = -9223372036854775808) (hz : m.natAbs = z) :
    (m < wrap64 (-m) → (z : Int) ≤ wrap64 (-m)) ∧ (wrap64 (-m) ≤ m → (z : Int) ≤ m) ∧ wrap64 (-m) ≤ 9223372036854775807 := by
  have e : wrap64 (-m) = -m := by
    unfold wrap64
    omega
  rw [e]
  refine ⟨fun h => by omega, fun h => by omega, by omega⟩

set_option maxRecDepth 100000 in
theorem packBack_long (Q : Nat → Part) (a0 : Option Addr) (n c : Nat) (w : World) (hp : IsParts w a0 n c Q) (hl : ¬ Light Q n) :
    Calls Try.prog 4 #[.slice a0 n c] w fun e w' => e = .returned (.bool true) ∧ Below w.heap.size w w' := by
  have HL := lightNo Q a0 n c w hp hl
  clear hp hl
  go_enter Try.func4, Try.ntmps4
  go_wp2_with (first
    | (go_at_call 6; (with_reducible refine HL.mono ?_); rintro e w' ⟨rfl, rfl⟩)
    | (go_at_call 7; (with_reducible refine (awake05C _).mono ?_); rintro e w' ⟨rfl, hb⟩))
  go_ret
  exact ⟨rfl, hb⟩

set_option maxRecDepth 100000 in
set_option maxHeartbeats 4000000 in
theorem packBack_short (Q : Nat → Part) (a0 : Option Addr) (n c : Nat) (w : World) (hp : IsParts w a0 n c Q) (hl : Light Q n) :
    Calls Try.prog 4 #[.slice a0 n c] w fun e w' => e = .returned (.bool true) ∧ Below w.heap.size w w' := by
  have HL := lightYes Q a0 n c w hp hl
  have h30 := hl.1
  have HS := Lib.hid hl.2
  have HP := Lib.hid hp
  clear hp hl
  have hw0 := wr_new w 5 28
  have hb0 := below_alloc w (.cells #[.slice none 0 0] 28)
  generalize hw1 : w.alloc (.cells #[.slice none 0 0] 28) = w1 at hw0 hb0
  go_enter Try.func4, Try.ntmps4
  go_wp2_with (first
    | (go_at_call 6; (with_reducible refine HL.mono ?_); rintro e w' ⟨rfl, rfl⟩))
  go_loopw [4] (fun i wr => ∃ (k : Nat) (a : Option Addr) (l : List Int), k ≤ n ∧ i = .int .i64 (k : Int) ∧ Hid (l.length ≤ 400 * k) ∧ Hid (bytesTo Q k = l) ∧ Wr 5 w.heap.size w.heap.size a l wr ∧ Below w.heap.size w wr) (fun i _ => n - (intOf i).toNat)
  case atStart => exact ⟨0, none, [], Nat.zero_le _, rfl, Lib.hid (by simp), (rfl : Hid _), hw0, hb0⟩
  case round =>
    clear hw0 hb0
    obtain ⟨k, a, l, hk, rfl, HLL, HB, hwr, hbw⟩ := hrel
    by_cases hlt : k < n
    · obtain ⟨b, off, rfl, d0, d1, d2, d3, d4, hok⟩ := (HP.out.below hbw).2.2.2 k hlt
      have HS1 := (HS.out k hlt).1
      have hlt' : (k : Int) < (n : Int) := by omega
      have hll : l.length ≤ 1000000000 := by have := HLL.out; omega
      have HPUT := fun v hw hb hok => putPartC w.heap.size w.heap.size a l (Q k) v hw hll hb hok HS1
      have hyl := (Q k).bytes_len HS1 hok.n1
      unfold Part.cells at HPUT
      generalize hy : (Q k).bytes = y at *
      have HY := Lib.hid hy
      clear hy
      go_wp2_with (go_at_call 9; (with_reducible refine (HPUT _ hwr hbw.size hok).mono ?_); rintro e wr2 ⟨rfl, a2, hw2, hk2, hn2⟩; have hb2 := hbw.trans (hk2.below (Nat.le_refl _) (fun x hx => (hwr.row x hx).1) hbw.size))
      go_roundw
      case rel => exact ⟨k + 1, a2, l ++ y, by omega, by go_num, Lib.hid (by rw [List.length_append]; have := HLL.out; omega), Lib.hid (by rw [bytesTo, HB.out, HY.out]), hw2, hb2⟩
      case measure => simp [intOf]; omega
    · have he : k = n := by omega
      clear hlt
      subst he
      have HBY := fun v hw => wBytesC w.heap.size w.heap.size a l l.length v hw rfl (by have := HLL.out; omega)
      have HRD := fun a c v ha hc hm h0 hlt => readC l a l.length c v ha rfl hc hm h0 hlt
      go_wp2_with (first
        | (go_at_call 8; (with_reducible refine (HBY _ hwr).mono ?_); rintro e wr2 ⟨a7, c7, rfl, ho7, hb7⟩; have hbw7 := hbw.trans (hb7.mono hbw.size))
        | (go_at_call 15; (with_reducible refine (HRD _ _ _ ho7.reads ho7.le ho7.capm ho7.nil0 (fun x hx => (ho7.lt' x hx).2)).mono ?_); rintro e w5 ⟨rfl, hrd5, hb5⟩))
      have hbw5 := hbw7.trans (hb5.mono hbw7.size)
      have hrp := hbw7.size
      generalize wr2.heap.size = rp at *
      rw [show l = bytesFrom Q 0 k by rw [← HB.out]; have := bytesFrom_to Q k 0; simpa [bytesTo] using this.symm] at hrd5
      clear HBY HRD ho7 hb7 hbw7 hb5 hwr hbw HLL HB
      go_loopw [6] (fun i wr => ∃ (j : Nat), j ≤ k ∧ i = .int .i64 (j : Int) ∧ Rd rp (bytesFrom Q j (k - j)) wr ∧ Below w.heap.size w wr) (fun i _ => k - (intOf i).toNat)
      case atStart => exact ⟨0, Nat.zero_le _, rfl, hrd5, hbw5⟩
      case round =>
        clear hrd5 hbw5
        obtain ⟨j, hj, rfl, hrd, hbw⟩ := hrel
        by_cases hlt2 : j < k
        · obtain ⟨b, off, rfl, d0, d1, d2, d3, d4, hok⟩ := (HP.out.below hbw).2.2.2 j hlt2
          have HS1 := (HS.out j hlt2).1
          have hlt' : (j : Int) < (k : Int) := by omega
          have hrest := bytesFrom_step Q j k hlt2
          have hib := bytesFrom_bytes Q (k - j) j (fun r h1 h2 => by
            obtain ⟨_, _, _, _, _, _, _, _, hok'⟩ := HP.out.2.2.2 r (by omega)
            exact hok'.n1)
          have hb0 := below_alloc wr (.cells (Q j).cells 34)
          have hpa := PartAt.new (Q j) wr 34
          have hrdA := hrd.below hb0
          have hokA := hok.below hb0
          have hbwA := hbw.trans (hb0.mono hbw.size)
          have hrlt := hrd.lt
          generalize hrs : bytesFrom Q (j + 1) (k - (j + 1)) = rest at *
          have HR := Lib.hid hrs
          clear hrs
          generalize bytesFrom Q j (k - j) = l0 at *
          have hokw : (Q j).ok w := (HP.out.2.2.2 j hlt2).choose_spec.choose_spec.2.2.2.2.2.2
          have hN1 := hok.n1
          unfold Part.cells at hb0 hpa hrdA hokA hbwA
          obtain ⟨p0, p1, p2, p3, p4⟩ := hpa
          generalize hB : wr.heap.size = B at *
          have hBrp : B ≠ rp := by omega
          clear hok hokA
          rcases (show ((Q j).K = 1 ∨ (Q j).K = 2 ∨ (Q j).K = 3 ∨ (Q j).K = 4 ∨ ((Q j).K ≠ 1 ∧ (Q j).K ≠ 2 ∧ (Q j).K ≠ 3 ∧ (Q j).K ≠ 4)) by omega) with hK | hK | hK | hK | hK
          · have hy : (Q j).bytes = short (Q j).N := by unfold Part.bytes; rw [if_pos hK]
            rw [hy] at hrest
            rw [hK] at hb0 p0 p1 p2 p3 p4 hrdA hbwA
            generalize hv0 : wr.alloc (.cells #[.int .i64 1, .int .u64 ((Q j).N : Int), .string (Q j).S, .slice (Q j).A (Q j).L (Q j).C, .int .i64 (Q j).M] 34) = v0 at *
            have HNUM := fun ww (e : ww.heap = v0.heap) => rNumC rp (Q j).N rest l0 (Q j).N ww (hrdA.heap e) hrest hib hN1 (Int.le_refl _)
            clear hrest hib hy
            go_wp2_with fail
            go_region_law ((try go_simp); go_at_call 16; (refine (HNUM v0.drew rfl).mono ?_); rintro e w3 ⟨rfl, hrd3, hk3⟩; have f1 := hk3.cell (x := ⟨B, 1, none⟩) (by simpa using p1) hBrp (Apart.none _))
            all_goals
              have hbw3 := hbwA.drew.trans (hk3.below hrp (fun x hx => by cases hx) hbwA.drew.size)
              go_wp2
              go_roundw
              case rel => exact ⟨j + 1, by omega, by go_num, by rw [HR.out]; exact hrd3, hbw3⟩
              case measure => simp [intOf]; omega
          · have hi0 := toI64_range (Q j).N
            have he := toI64_eq (Q j).N
            obtain ⟨X, hX, hX1⟩ := toI64_fold (Q j).N
            have hy : (Q j).bytes = short X := by unfold Part.bytes; rw [if_neg (by omega), if_pos hK, hX, Int.toNat_natCast]
            rw [hy] at hrest
            rw [hK] at hb0 p0 p1 p2 p3 p4 hrdA hbwA
            generalize hv0 : wr.alloc (.cells #[.int .i64 2, .int .u64 ((Q j).N : Int), .string (Q j).S, .slice (Q j).A (Q j).L (Q j).C, .int .i64 (Q j).M] 34) = v0 at *
            generalize toI64 (Q j).N = mm at *
            obtain ⟨z, hz⟩ : ∃ z, mm.natAbs = z := ⟨_, rfl⟩
            by_cases hmin : mm = -9223372036854775808
            · go_wp2_with (go_at_call 7; (with_reducible refine (awake05C _).mono ?_); rintro e w9 ⟨rfl, hb9⟩)
              go_ret
              exact ⟨rfl, hbwA.trans (hb9.mono hbwA.size)⟩
            · have hbe : (mm == -9223372036854775808) = false := by simpa using hmin
              obtain ⟨m1, m2, m3⟩ := abs_most mm z hi0.1 hi0.2 hmin hz
              have M1 := Lib.hid m1
              have M2 := Lib.hid m2
              have M3 := Lib.hid m3
              have M4 := Lib.hid hi0.2
              have HINT := fun most h1 h2 => rIntC rp X z mm rest l0 most v0 hrdA hrest hib hX hX1 hi0.1 hi0.2 hz h1 h2
              clear hrest hib hy hX hz hi0 hmin m1 m2 m3
              rcases Int.lt_or_le mm (wrap64 (-mm)) with hs | hs
              all_goals
                first
                  | have HI1 := HINT _ (M1.out hs) M3.out
                  | have HI1 := HINT _ (M2.out hs) M4.out
                go_wp2_with (go_at_call 17; (with_reducible refine HI1.mono ?_); rintro e w3 ⟨rfl, hrd3, hk3⟩; have hbw3 := hbwA.trans (hk3.below hrp (fun x hx => by cases hx) hbwA.size))
                go_roundw
                case rel => exact ⟨j + 1, by omega, by go_num, by rw [HR.out]; exact hrd3, hbw3⟩
                case measure => simp [intOf]; omega
          · have hy : (Q j).bytes = textBytes (Q j).S := by unfold Part.bytes; rw [if_neg (by omega), if_neg (by omega), if_pos hK]
            rw [hy] at hrest
            rw [hK] at hb0 p0 p1 p2 p3 p4 hrdA hbwA
            generalize hv0 : wr.alloc (.cells #[.int .i64 3, .int .u64 ((Q j).N : Int), .string (Q j).S, .slice (Q j).A (Q j).L (Q j).C, .int .i64 (Q j).M] 34) = v0 at *
            have HTEXT := fun ww (e : ww.heap = v0.heap) => rTextC rp (Q j).S.size (Q j).S rest l0 (Q j).S.size ww (hrdA.heap e) rfl hrest hib (by omega) (Int.le_refl _) (by omega)
            clear hrest hib hy
            go_wp2_with fail
            go_region_law ((try go_simp); go_at_call 18; (refine (HTEXT v0.drew rfl).mono ?_); rintro e w3 ⟨rfl, hrd3, hk3⟩; have f2 := hk3.cell (x := ⟨B, 2, none⟩) (by simpa using p2) hBrp (Apart.none _))
            all_goals
              have hbw3 := hbwA.drew.trans (hk3.below hrp (fun x hx => by cases hx) hbwA.drew.size)
              go_wp2
              go_roundw
              case rel => exact ⟨j + 1, by omega, by go_num, by rw [HR.out]; exact hrd3, hbw3⟩
              case measure => simp [intOf]; omega
          · have hy : (Q j).bytes = [(flagSum ((Q j).F.take 8) : Int)] := by unfold Part.bytes; rw [if_neg (by omega), if_neg (by omega), if_neg (by omega), if_pos hK]
            rw [hy, List.singleton_append] at hrest
            rw [hK] at hb0 p0 p1 p2 p3 p4 hrdA hbwA
            generalize hv0 : wr.alloc (.cells #[.int .i64 4, .int .u64 ((Q j).N : Int), .string (Q j).S, .slice (Q j).A (Q j).L (Q j).C, .int .i64 (Q j).M] 34) = v0 at *
            obtain ⟨m, hm⟩ : ∃ m, min (Q j).L 8 = m := ⟨_, rfl⟩
            have hfl : ((Q j).F.take 8).length = m := by rw [List.length_take, hokw.fl]; omega
            have HFLAGS := fun ww (e : ww.heap = v0.heap) => rFlagsC rp m ((Q j).F.take 8) rest l0 ww (hrdA.heap e) hrest hfl (by omega)
            have HSF := fun a b c d v h1 h2 => sameFlagsC ((Q j).F.take 8) m a b c d v hfl h1 h2 (by unfold maxLen; omega)
            have hread : Reads w (Q j).A (((Q j).F.take 8).map Value.bool) := by
              have h := hokw.rd
              rw [← List.take_append_drop 8 (Q j).F, List.map_append] at h
              exact h.head
            have hlc := hokw.lc
            have hcm := hokw.cm
            have hm2 : ((Q j).L ≤ 8 ∧ m = (Q j).L) ∨ (8 < (Q j).L ∧ m = 8) := by omega
            clear hrest hib hy hokw hfl hm
            unfold maxLen at hcm
            have hmL : (m : Int) ≤ ((Q j).L : Int) := by omega
            have hmC : (m : Int) ≤ ((Q j).C : Int) := by omega
            have hnil : (Q j).A = none ∨ ∃ x, (Q j).A = some x := by cases (Q j).A with
              | none => exact .inl rfl
              | some x => exact .inr ⟨x, rfl⟩
            by_cases c8 : (Q j).L ≤ 8
            all_goals
              first
                | (have d8 : ((Q j).L : Int) ≤ 8 := by omega
                   obtain rfl : m = (Q j).L := by omega)
                | (have d8 : (8 : Int) < ((Q j).L : Int) := by omega
                   have d9 : (8 : Int) ≤ ((Q j).C : Int) := by omega
                   obtain rfl : m = 8 := by omega
                   rw [show ((8 : Nat) : Int) = 8 from rfl] at HFLAGS)
              go_wp2_with fail
              go_region_law (first
                | ((try go_simp); go_at_call 20; (refine (HFLAGS v0.drew rfl).mono ?_); rintro e w3 ⟨a9, c9, rfl, ho9, hrd3, hk3⟩; have f3 := hk3.cell (x := ⟨B, 3, none⟩) (by simpa using p3) hBrp (Apart.none _); have hbw3 := hbwA.drew.trans (hk3.below hrp (fun x hx => by cases hx) hbwA.drew.size); have hrF := hread.below' hbw3)
                | ((try go_simp); go_at_call 19; (refine (HSF _ _ _ _ w3 ho9.reads hrF).mono ?_); rintro e w4 ⟨rfl, d, rfl⟩))
              all_goals
                go_wp2
                go_roundw
                case rel => exact ⟨j + 1, by omega, by go_num, by rw [HR.out]; exact hrd3.drewN d, hbw3.trans ((below_drawn w3 d).mono hbw3.size)⟩
                case measure => simp [intOf]; omega
          · obtain ⟨h1, h2, h3, h4⟩ := hK
            have hy : (Q j).bytes = [] := by unfold Part.bytes; rw [if_neg h1, if_neg h2, if_neg h3, if_neg h4]
            rw [hy, List.nil_append] at hrest
            subst hrest
            clear hy hib
            go_wp2
            go_roundw
            case rel => exact ⟨j + 1, by omega, by go_num, by rw [HR.out]; exact hrdA, hbwA⟩
            case measure => simp [intOf]; omega
        · have hjk : j = k := by omega
          clear hlt2
          subst hjk
          rw [Nat.sub_self] at hrd
          have HEND := rEndC rp wr hrd
          go_wp2_with (first
            | (go_at_call 21; (with_reducible refine HEND.mono ?_); rintro e w' ⟨rfl, rfl⟩)
            | (go_at_call 7; (with_reducible refine (awake05C _).mono ?_); rintro e w9 ⟨rfl, hb9⟩))
          go_ret
          exact ⟨rfl, hbw.trans (hb9.mono hbw.size)⟩

theorem packBack_walk (a0 : Option Addr) (n c : Nat) (Q : Nat → Part) (w : World) (hp : IsParts w a0 n c Q) :
    Calls Try.prog 4 #[.slice a0 n c] w fun e w' => e = .returned (.bool true) ∧ Below w.heap.size w w' := by
  by_cases h : Light Q n
  · exact packBack_short Q a0 n c w hp h
  · exact packBack_long Q a0 n c w hp h
end Go.Proofs.Ythfonmceggmjgaa
