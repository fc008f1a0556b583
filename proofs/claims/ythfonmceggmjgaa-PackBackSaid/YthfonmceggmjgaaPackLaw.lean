/- The walks of layer 5's laws. -/
import Derived.Test.YthfonmceggmjgaaPackOpen
namespace Go.Proofs.Ythfonmceggmjgaa
open Go.RowKit
set_option linter.unusedVariables false

theorem wr_new (w : World) (e t : TypeId) : Wr e w.heap.size w.heap.size none [] (w.alloc (.cells #[.slice none 0 0] t)) := by
  refine ⟨0, 0, Nat.le_refl _, by simp, ?_, World.frozen?_alloc_at _ _ _ _ rfl, rfl, ⟨World.ownsRow_nil _ _ _ _, Reads.nil _ _, fun _ => rfl, Nat.le_refl _, Nat.zero_le _, rfl⟩, Apart.none _⟩
  rw [World.cell?_alloc_at _ _ _ _ rfl]; rfl

theorem textA : textBytes ⟨#[97]⟩ = [1, 97] := by
  have h1 : (⟨#[97]⟩ : ByteArray).size = 1 := rfl
  unfold textBytes
  rw [h1, short_lt 1 (by omega)]
  rfl

theorem bytes5 : IsBytes [172, 2, 1, 97, 2] := fun x hx => by
  simp only [List.mem_cons, List.not_mem_nil, or_false] at hx
  omega
theorem bytes3 : IsBytes [1, 97, 2] := fun x hx => by
  simp only [List.mem_cons, List.not_mem_nil, or_false] at hx
  omega

set_option maxRecDepth 100000 in
theorem awake05C (w : World) : Calls Try.prog 7 #[] w fun e w' => e = .returned (.bool true) ∧ Below w.heap.size w w' := by
  have hw0 := wr_new w 5 28
  have hb0 := below_alloc w (.cells #[.slice none 0 0] 28)
  have hs0 := hb0.size
  have H1 := fun a v hw hb => wNumC w.heap.size w.heap.size 300 a [] v hw (by decide) hb (by omega)
  have H2 := fun a v hw hb => wTextC w.heap.size w.heap.size ⟨#[97]⟩ a [172, 2] v hw (by decide) hb (by decide)
  have H3 := fun b c a v hw hb hr hc hm => wFlagsC w.heap.size w.heap.size [false, true] 2 2 c b a [172, 2, 1, 97] v hw (by decide) hb hr rfl hc hm (by decide)
  have H4 := fun a v hw => wBytesC w.heap.size w.heap.size a [172, 2, 1, 97, 2] 5 v hw rfl (by decide)
  have H5 := fun a c w ha hc hm h0 hlt => readC [172, 2, 1, 97, 2] a 5 c w ha rfl hc hm h0 hlt
  have H6 := fun p w hr => rNumC p 300 [1, 97, 2] [172, 2, 1, 97, 2] 1000 w hr (by rw [short300]; rfl) bytes5 (by omega) (by omega)
  have H7 := fun p w hr => rTextC p 1 ⟨#[97]⟩ [2] [1, 97, 2] 5 w hr rfl (by rw [textA]; rfl) bytes3 (by omega) (by omega) (by omega)
  have H8 := fun p w hr => rLeftC p [2] 1 w hr rfl
  have H9 := fun p w hr => rErrC p [2] w hr
  rw [short300, show ((300 : Nat) : Int) = 300 from rfl] at H1
  rw [show ((300 : Nat) : Int) = 300 from rfl] at H6
  rw [show ((1 : Nat) : Int) = 1 from rfl] at H8
  rw [textA] at H2
  simp only [List.nil_append, List.cons_append] at H1 H2 H3
  rw [show ((flagSum (List.take 8 [false, true]) : Nat) : Int) = 2 from rfl] at H3
  go_enter Try.func7, Try.ntmps7
  go_wp2_with (first
    | (go_at_call 23; (with_reducible refine (H1 _ _ hw0 hs0).mono ?_); rintro e w1 ⟨rfl, a1, hw1, hk1, hn1⟩; have hs1 := Nat.le_trans hs0 hk1.size)
    | (go_at_call 25; (with_reducible refine (H2 _ _ hw1 hs1).mono ?_); rintro e w2 ⟨rfl, a2, hw2, hk2, hn2⟩; have hs2 := Nat.le_trans hs1 hk2.size; have hb2 := below_alloc w2 (.cells #[.bool false, .bool true] 4); have hr2 : Reads (w2.alloc (.cells #[.bool false, .bool true] 4)) (some ⟨w2.heap.size, 0, none⟩) ([false, true].map Value.bool) := reads_new w2 [.bool false, .bool true] _)
    | (go_at_call 26; (with_reducible refine (H3 _ _ _ _ (hw2.below hb2) (Nat.le_trans hs2 hb2.size) hr2 (Nat.le_refl _) (by unfold maxLen; omega)).mono ?_); rintro e w3 hG3; have hG3' := hG3.early hb2; obtain ⟨rfl, a3, hw3, hk3, hn3⟩ := hG3')
    | (go_at_call 8; (with_reducible refine (H4 _ _ hw3).mono ?_); rintro e w4 ⟨a4, c4, rfl, ho4, hb4⟩)
    | (go_at_call 15; (with_reducible refine (H5 _ _ _ ho4.reads ho4.le ho4.capm ho4.nil0 (fun x hx => (ho4.lt' x hx).2)).mono ?_); rintro e w5 ⟨rfl, hrd5, hb5⟩)
    | (go_at_call 16; (with_reducible refine (H6 _ _ hrd5).mono ?_); rintro e w6 ⟨rfl, hrd6, hk6⟩)
    | (go_at_call 18; (with_reducible refine (H7 _ _ hrd6).mono ?_); rintro e w7 ⟨rfl, hrd7, hk7⟩;
       have haw : Away a4 w4.heap.size none := (fun x hx => ⟨by have := (ho4.lt' x hx).2; omega, Apart.none _⟩);
       have hr7 := ((ho4.reads.below' hb5).kept hk6 haw).kept hk7 haw;
       obtain ⟨g, rfl, -, -⟩ := ho4.head (by omega);
       obtain ⟨_, _, e0, c0⟩ := hr7 0 _ rfl; cases e0; obtain ⟨_, _, e0, c4'⟩ := hr7 4 _ rfl; cases e0; simp only [Nat.zero_add] at c0 c4')
    | (go_at_call 27; (with_reducible refine (H8 _ _ hrd7).mono ?_); rintro e w' ⟨rfl, rfl⟩)
    | (go_at_call 28; (with_reducible refine (H9 _ _ hrd7).mono ?_); rintro e w' ⟨rfl, rfl⟩))
  go_ret
  have b1 : Below w.heap.size w w1 := hb0.trans (hk1.below (Nat.le_refl _) (fun x hx => by cases hx) hs0)
  have b2 := b1.trans (hk2.below (Nat.le_refl _) (fun x hx => (hw1.row x hx).1) hs1)
  have b3 := b2.trans (hk3.below (Nat.le_refl _) (fun x hx => (hw2.row x hx).1) hs2)
  have hs3 := Nat.le_trans hs2 hk3.size
  have b4 := b3.trans (hb4.mono hs3)
  have hs4 := Nat.le_trans hs3 hb4.size
  have b5 := b4.trans (hb5.mono hs4)
  have hs5 := Nat.le_trans hs4 hb5.size
  have b6 := b5.trans (hk6.below hs4 (fun x hx => by cases hx) hs5)
  exact ⟨rfl, b6.trans (hk7.below hs4 (fun x hx => by cases hx) (Nat.le_trans hs5 hk6.size))⟩

set_option maxRecDepth 100000 in
theorem packPuts_long (Q : Nat → Part) (a0 : Option Addr) (n c : Nat) (w : World) (hp : IsParts w a0 n c Q) (hl : ¬ Light Q n) :
    Calls Try.prog 3 #[.slice a0 n c] w fun e w' => e = .returned (.bool true) ∧ Below w.heap.size w w' := by
  have HL := lightNo Q a0 n c w hp hl
  clear hp hl
  go_enter Try.func3, Try.ntmps3
  go_wp2_with (first
    | (go_at_call 6; (with_reducible refine HL.mono ?_); rintro e w' ⟨rfl, rfl⟩)
    | (go_at_call 7; (with_reducible refine (awake05C _).mono ?_); rintro e w' ⟨rfl, hb⟩))
  go_ret
  exact ⟨rfl, hb⟩

theorem Away.moved {e : TypeId} {base p : Nat} {a q q' : Option Addr} {l : List Int} {w : World} (h : Away q p a) (hn : q' = q ∨ ∃ g, q' = some ⟨g, 0, none⟩ ∧ w.heap.size ≤ g) (hw : Wr e base p a l w) : Away q' p a := by
  rcases hn with rfl | ⟨g, rfl, hg⟩
  · exact h
  · intro x hx
    cases hx
    refine ⟨?_, fun y hy => ?_⟩
    · show g ≠ p
      have := hw.lt.2
      omega
    · show y.block ≠ g
      have := (hw.row y hy).2.1
      omega
theorem below_drawn (w : World) (m : Nat) : Below w.heap.size w (w.drewN m) := ⟨rfl, rfl, rfl, Nat.le_refl _, fun _ _ => rfl⟩

set_option maxRecDepth 100000 in
theorem packPuts_short (Q : Nat → Part) (a0 : Option Addr) (n c : Nat) (w : World) (hp : IsParts w a0 n c Q) (hl : Light Q n) :
    Calls Try.prog 3 #[.slice a0 n c] w fun e w' => e = .returned (.bool true) ∧ Below w.heap.size w w' := by
  obtain ⟨i0, hi, hz0, hz1, hz2⟩ := info_parts info8
  have HL := lightYes Q a0 n c w hp hl
  have h30 := hl.1
  have HS := Lib.hid hl.2
  have HP := Lib.hid hp
  clear hp hl
  have hw0 := wr_new w 5 28
  have hb0 := below_alloc w (.cells #[.slice none 0 0] 28)
  generalize hw1 : w.alloc (.cells #[.slice none 0 0] 28) = w1 at hw0 hb0
  have hl1 := (owned_lit w1 5).base hb0.size
  have hl2 := hl1
  have hb1 := below_alloc w1 (.cells #[] 5)
  have H4 := fun a v hw => wBytesC w.heap.size w.heap.size a [] 0 v hw rfl (by decide)
  go_enter Try.func3, Try.ntmps3
  go_wp2_with (first
    | (go_at_call 6; (with_reducible refine HL.mono ?_); rintro e w' ⟨rfl, rfl⟩)
    | (go_at_call 8; (with_reducible refine (H4 _ _ (hw0.below hb1)).mono ?_); rintro e w3 ⟨a3, c3, rfl, ho3, hb3⟩))
  clear hl1
  have hs01 := hw0.lt.2
  go_loopw [4, 6] (fun v i wr => ∃ (k L c' : Nat) (a q : Option Addr) (l : List Int), k ≤ n ∧ L ≤ 400 * k ∧ i = .int .i64 (k : Int) ∧ v = .slice q L c' ∧ Hid (l.length = L) ∧ Hid (bytesTo Q k = l) ∧ Wr 5 w.heap.size w.heap.size a l wr ∧ Owned w.heap.size 5 q L c' (l.map (Value.int .u8)) wr ∧ Away q w.heap.size a ∧ Below w.heap.size w wr) (fun _ i _ => n - (intOf i).toNat)
  case atStart =>
    refine ⟨0, 0, 0, none, some ⟨w1.heap.size, 0, none⟩, [], Nat.zero_le _, by omega, rfl, rfl, (rfl : Hid _), (rfl : Hid _), (hw0.below hb1).below hb3, hl2.below hb3 (Nat.le_refl _), ?_, (hb0.trans (hb1.mono hb0.size)).trans (hb3.mono (Nat.le_trans hb0.size hb1.size))⟩
    intro x hx
    cases hx
    exact ⟨by show w1.heap.size ≠ w.heap.size; omega, Apart.none _⟩
  case round =>
    clear hw0 hl2 hb1 H4 hb3 ho3
    obtain ⟨k, L, c', a, q, l, hk, hL, rfl, rfl, HLL, HB, hwr, ho, haw, hbw⟩ := hrel
    by_cases hlt : k < n
    · obtain ⟨b, off, rfl, d0, d1, d2, d3, d4, hok⟩ := (HP.out.below hbw).2.2.2 k hlt
      have HS1 := (HS.out k hlt).1
      have hlt' : (k : Int) < (n : Int) := by omega
      have hll : l.length ≤ 1000000000 := by rw [HLL.out]; omega
      rcases (show ((Q k).K = 1 ∨ (Q k).K = 2 ∨ (Q k).K = 3 ∨ (Q k).K = 4 ∨ ((Q k).K ≠ 1 ∧ (Q k).K ≠ 2 ∧ (Q k).K ≠ 3 ∧ (Q k).K ≠ 4)) by omega) with hK | hK | hK | hK | hK
      · have hK' := hK
        rw [hK'] at d0
        have hy : (Q k).bytes = short (Q k).N := by unfold Part.bytes; rw [if_pos hK]
        obtain ⟨y, hyy⟩ : ∃ y, short (Q k).N = y := ⟨_, rfl⟩
        rw [hyy] at hy
        have hyl := (Q k).bytes_len HS1 hok.n1
        rw [hy] at hyl
        have HR := fun v => refNumC y (Q k).N y.length v hyy rfl hok.n1
        clear hyy
        have HPUT := fun v hw hb hok => putPartC w.heap.size w.heap.size a l (Q k) v hw hll hb hok HS1
        unfold Part.cells at HPUT
        rw [hK', hy] at HPUT
        generalize hm : y.length = m at *
        have HM := Lib.hid hm
        clear hm
        have HK := Lib.hid hK'
        clear hK'
        have HY := Lib.hid hy
        clear hy
        go_wp2_with (first
          | (go_at_call 9; (with_reducible refine (HPUT _ hwr hbw.size hok).mono ?_); rintro e wr2 ⟨rfl, a2, hw2, hk2, hn2⟩; have hb2 := hbw.trans (hk2.below (Nat.le_refl _) (fun x hx => (hwr.row x hx).1) hbw.size); have ho2 := ho.kept hk2 haw; have haw2 : Away q w.heap.size a2 := (fun x hx => ⟨(haw x hx).1, hn2 _ (ho.lt' x hx).2 (haw x hx).2⟩); obtain ⟨_, _, e0, f0, f1, f2, f3, f4, hok2⟩ := (HP.out.below hb2).2.2.2 k hlt; cases e0)
          | (go_at_call 10; (with_reducible refine (HR _).mono ?_); rintro e wr3 ⟨a5, c5, rfl, ho5, hb5⟩; have hw3 := hw2.below hb5; have ho3 := ho2.below hb5 (Nat.le_refl _); have hbw3 := hb2.trans (hb5.mono hb2.size))
          | (at_builtin; refine wpList_append_where rfl (.tmp 35) (.tmp 41) 26 rfl 5 i0 (.int .u8 0) 1 Try.underlying26 hi hz0 hz1 hz2 rfl ho3 rfl ho5.reads rfl (by rw [List.length_map, HM.out]) ho5.nil0 (bytes_one y .u8) (L + m) rfl (by unfold maxLen; omega) (by omega) hbw3.size ?_; intro a6 c6 wr4 ho6 hb6 hg6 hn6))
        go_roundw
        case rel => exact ⟨k + 1, L + m, c6, a2, a6, l ++ y, by omega, by omega, by go_num, rfl, Lib.hid (by rw [List.length_append, HLL.out, HM.out]), Lib.hid (by rw [bytesTo, HB.out, HY.out]), hw3.grown hb6 hg6 haw2, by rw [List.map_append]; exact ho6, haw2.moved hn6 hw3, hbw3.trans hb6⟩
        case measure => simp [intOf]; omega
      · have hK' := hK
        rw [hK'] at d0
        have hi0 := toI64_range (Q k).N
        have he := toI64_eq (Q k).N
        obtain ⟨X, hX, hX1⟩ := toI64_fold (Q k).N
        have hy : (Q k).bytes = short X := by unfold Part.bytes; rw [if_neg (by omega), if_pos hK, hX, Int.toNat_natCast]
        obtain ⟨y, hyy⟩ : ∃ y, short X = y := ⟨_, rfl⟩
        rw [hyy] at hy
        have hyl := (Q k).bytes_len HS1 hok.n1
        rw [hy] at hyl
        generalize toI64 (Q k).N = mm at *
        have HR := fun v => refPutIntO y X y.length mm v hX hyy rfl hX1 hi0.1 hi0.2
        clear hyy hX
        have HPUT := fun v hw hb hok => putPartC w.heap.size w.heap.size a l (Q k) v hw hll hb hok HS1
        unfold Part.cells at HPUT
        rw [hK', hy] at HPUT
        generalize hm : y.length = m at *
        have HM := Lib.hid hm
        clear hm
        have HK := Lib.hid hK'
        clear hK'
        have HY := Lib.hid hy
        clear hy
        go_wp2_with (first
          | (go_at_call 9; (with_reducible refine (HPUT _ hwr hbw.size hok).mono ?_); rintro e wr2 ⟨rfl, a2, hw2, hk2, hn2⟩; have hb2 := hbw.trans (hk2.below (Nat.le_refl _) (fun x hx => (hwr.row x hx).1) hbw.size); have ho2 := ho.kept hk2 haw; have haw2 : Away q w.heap.size a2 := (fun x hx => ⟨(haw x hx).1, hn2 _ (ho.lt' x hx).2 (haw x hx).2⟩); obtain ⟨_, _, e0, f0, f1, f2, f3, f4, hok2⟩ := (HP.out.below hb2).2.2.2 k hlt; cases e0)
          | (go_at_call 11; (with_reducible refine (HR _).mono ?_); rintro e wr3 ⟨a5, c5, rfl, ho5, hb5⟩; have hw3 := hw2.below hb5; have ho3 := ho2.below hb5 (Nat.le_refl _); have hbw3 := hb2.trans (hb5.mono hb2.size))
          | (at_builtin; refine wpList_append_where rfl (.tmp 45) (.tmp 52) 26 rfl 5 i0 (.int .u8 0) 1 Try.underlying26 hi hz0 hz1 hz2 rfl ho3 rfl ho5.reads rfl (by rw [List.length_map, HM.out]) ho5.nil0 (bytes_one y .u8) (L + m) rfl (by unfold maxLen; omega) (by omega) hbw3.size ?_; intro a6 c6 wr4 ho6 hb6 hg6 hn6))
        go_roundw
        case rel => exact ⟨k + 1, L + m, c6, a2, a6, l ++ y, by omega, by omega, by go_num, rfl, Lib.hid (by rw [List.length_append, HLL.out, HM.out]), Lib.hid (by rw [bytesTo, HB.out, HY.out]), hw3.grown hb6 hg6 haw2, by rw [List.map_append]; exact ho6, haw2.moved hn6 hw3, hbw3.trans hb6⟩
        case measure => simp [intOf]; omega
      · have hK' := hK
        rw [hK'] at d0
        have hy : (Q k).bytes = textBytes (Q k).S := by unfold Part.bytes; rw [if_neg (by omega), if_neg (by omega), if_pos hK]
        obtain ⟨y, hyy⟩ : ∃ y, textBytes (Q k).S = y := ⟨_, rfl⟩
        rw [hyy] at hy
        have hyl := (Q k).bytes_len HS1 hok.n1
        rw [hy] at hyl
        have HR := fun v => refTextC (Q k).S (textBytes (Q k).S).length v (by omega) rfl
        rw [hyy] at HR
        clear hyy
        have HPUT := fun v hw hb hok => putPartC w.heap.size w.heap.size a l (Q k) v hw hll hb hok HS1
        unfold Part.cells at HPUT
        rw [hK', hy] at HPUT
        generalize hm : y.length = m at *
        have HM := Lib.hid hm
        clear hm
        have HK := Lib.hid hK'
        clear hK'
        have HY := Lib.hid hy
        clear hy
        go_wp2_with (first
          | (go_at_call 9; (with_reducible refine (HPUT _ hwr hbw.size hok).mono ?_); rintro e wr2 ⟨rfl, a2, hw2, hk2, hn2⟩; have hb2 := hbw.trans (hk2.below (Nat.le_refl _) (fun x hx => (hwr.row x hx).1) hbw.size); have ho2 := ho.kept hk2 haw; have haw2 : Away q w.heap.size a2 := (fun x hx => ⟨(haw x hx).1, hn2 _ (ho.lt' x hx).2 (haw x hx).2⟩); obtain ⟨_, _, e0, f0, f1, f2, f3, f4, hok2⟩ := (HP.out.below hb2).2.2.2 k hlt; cases e0)
          | (go_at_call 12; (with_reducible refine (HR _).mono ?_); rintro e wr3 ⟨a5, c5, rfl, ho5, hb5⟩; have hw3 := hw2.below hb5; have ho3 := ho2.below hb5 (Nat.le_refl _); have hbw3 := hb2.trans (hb5.mono hb2.size))
          | (at_builtin; refine wpList_append_where rfl (.tmp 56) (.tmp 62) 26 rfl 5 i0 (.int .u8 0) 1 Try.underlying26 hi hz0 hz1 hz2 rfl ho3 rfl ho5.reads rfl (by rw [List.length_map, HM.out]) ho5.nil0 (bytes_one y .u8) (L + m) rfl (by unfold maxLen; omega) (by omega) hbw3.size ?_; intro a6 c6 wr4 ho6 hb6 hg6 hn6))
        go_roundw
        case rel => exact ⟨k + 1, L + m, c6, a2, a6, l ++ y, by omega, by omega, by go_num, rfl, Lib.hid (by rw [List.length_append, HLL.out, HM.out]), Lib.hid (by rw [bytesTo, HB.out, HY.out]), hw3.grown hb6 hg6 haw2, by rw [List.map_append]; exact ho6, haw2.moved hn6 hw3, hbw3.trans hb6⟩
        case measure => simp [intOf]; omega
      · have hK' := hK
        rw [hK'] at d0
        have hy : (Q k).bytes = [(flagSum ((Q k).F.take 8) : Int)] := by unfold Part.bytes; rw [if_neg (by omega), if_neg (by omega), if_neg (by omega), if_pos hK]
        obtain ⟨y, hyy⟩ : ∃ y, [(flagSum ((Q k).F.take 8) : Int)] = y := ⟨_, rfl⟩
        rw [hyy] at hy
        have hyl := (Q k).bytes_len HS1 hok.n1
        rw [hy] at hyl
        have HR : ∀ v, Reads v (Q k).A ((Q k).F.map Value.bool) → Calls Try.prog 13 #[.slice (Q k).A (Q k).L (Q k).C] v (GivesOwned 5 (y.map (Value.int .u8)) y.length v) := fun v hr => by
          subst hyy
          exact refFlagsC (Q k).F (Q k).L _ (Q k).C (Q k).A v hr hok.fl hok.lc hok.cm rfl
        clear hyy
        have HPUT := fun v hw hb hok => putPartC w.heap.size w.heap.size a l (Q k) v hw hll hb hok HS1
        unfold Part.cells at HPUT
        rw [hK', hy] at HPUT
        generalize hm : y.length = m at *
        have HM := Lib.hid hm
        clear hm
        have HK := Lib.hid hK'
        clear hK'
        have HY := Lib.hid hy
        clear hy
        go_wp2_with (first
          | (go_at_call 9; (with_reducible refine (HPUT _ hwr hbw.size hok).mono ?_); rintro e wr2 ⟨rfl, a2, hw2, hk2, hn2⟩; have hb2 := hbw.trans (hk2.below (Nat.le_refl _) (fun x hx => (hwr.row x hx).1) hbw.size); have ho2 := ho.kept hk2 haw; have haw2 : Away q w.heap.size a2 := (fun x hx => ⟨(haw x hx).1, hn2 _ (ho.lt' x hx).2 (haw x hx).2⟩); obtain ⟨_, _, e0, f0, f1, f2, f3, f4, hok2⟩ := (HP.out.below hb2).2.2.2 k hlt; cases e0)
          | (go_at_call 13; (with_reducible refine (HR _ hok2.rd).mono ?_); rintro e wr3 ⟨a5, c5, rfl, ho5, hb5⟩; have hw3 := hw2.below hb5; have ho3 := ho2.below hb5 (Nat.le_refl _); have hbw3 := hb2.trans (hb5.mono hb2.size))
          | (at_builtin; refine wpList_append_where rfl (.tmp 66) (.tmp 72) 26 rfl 5 i0 (.int .u8 0) 1 Try.underlying26 hi hz0 hz1 hz2 rfl ho3 rfl ho5.reads rfl (by rw [List.length_map, HM.out]) ho5.nil0 (bytes_one y .u8) (L + m) rfl (by unfold maxLen; omega) (by omega) hbw3.size ?_; intro a6 c6 wr4 ho6 hb6 hg6 hn6))
        go_roundw
        case rel => exact ⟨k + 1, L + m, c6, a2, a6, l ++ y, by omega, by omega, by go_num, rfl, Lib.hid (by rw [List.length_append, HLL.out, HM.out]), Lib.hid (by rw [bytesTo, HB.out, HY.out]), hw3.grown hb6 hg6 haw2, by rw [List.map_append]; exact ho6, haw2.moved hn6 hw3, hbw3.trans hb6⟩
        case measure => simp [intOf]; omega
      · obtain ⟨h1, h2, h3, h4⟩ := hK
        have hy : (Q k).bytes = [] := by unfold Part.bytes; rw [if_neg h1, if_neg h2, if_neg h3, if_neg h4]
        have HPUT := fun v hw hb hok => putPartC w.heap.size w.heap.size a l (Q k) v hw hll hb hok HS1
        unfold Part.cells at HPUT
        rw [hy, List.append_nil] at HPUT
        have HY := Lib.hid hy
        clear hy
        go_wp2_with (go_at_call 9; (with_reducible refine (HPUT _ hwr hbw.size hok).mono ?_); rintro e wr2 ⟨rfl, a2, hw2, hk2, hn2⟩; have hb2 := hbw.trans (hk2.below (Nat.le_refl _) (fun x hx => (hwr.row x hx).1) hbw.size); have ho2 := ho.kept hk2 haw; have haw2 : Away q w.heap.size a2 := (fun x hx => ⟨(haw x hx).1, hn2 _ (ho.lt' x hx).2 (haw x hx).2⟩); obtain ⟨_, _, e0, f0, f1, f2, f3, f4, hok2⟩ := (HP.out.below hb2).2.2.2 k hlt; cases e0)
        go_roundw
        case rel => exact ⟨k + 1, L, c', a2, q, l, by omega, by omega, by go_num, rfl, HLL, Lib.hid (by rw [bytesTo, HB.out, HY.out, List.append_nil]), hw2, ho2, haw2, hb2⟩
        case measure => simp [intOf]; omega
    · have he : k = n := by omega
      subst he
      have HBY := fun v hw => wBytesC w.heap.size w.heap.size a l L v hw HLL.out (by omega)
      have HSAME := fun a b c d v ha hb => sameO l L HLL.out a b c d v ha hb (by unfold maxLen; omega)
      go_wp2_with (first
        | (go_at_call 8; (with_reducible refine (HBY _ hwr).mono ?_); rintro e wr2 ⟨a7, c7, rfl, ho7, hb7⟩; have hr8 := ho.reads.below' hb7; have hbw7 := hbw.trans (hb7.mono hbw.size))
        | (go_at_call 14; (with_reducible refine (HSAME _ _ _ _ _ ho7.reads hr8).mono ?_); rintro e wr5 ⟨rfl, m, rfl⟩)
        | (go_at_call 7; (with_reducible refine (awake05C _).mono ?_); rintro e wr6 ⟨rfl, hb9⟩))
      go_ret
      exact ⟨rfl, hbw7.trans (((below_drawn _ m).trans (hb9.mono (Nat.le_refl _))).mono hbw7.size)⟩

theorem packPuts_walk (a0 : Option Addr) (n c : Nat) (Q : Nat → Part) (w : World) (hp : IsParts w a0 n c Q) :
    Calls Try.prog 3 #[.slice a0 n c] w fun e w' => e = .returned (.bool true) ∧ Below w.heap.size w w' := by
  by_cases h : Light Q n
  · exact packPuts_short Q a0 n c w hp h
  · exact packPuts_long Q a0 n c w hp h
end Go.Proofs.Ythfonmceggmjgaa
