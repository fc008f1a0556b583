/- The walks of layer 4's laws: what is put, what is got, what is spoilt. -/
import Derived.Test.YtjjnehlghpdneaaDoorFrameGet
import Derived.Test.YtjjnehlghpdneaaDoorFramePut
import Derived.Test.YtjjnehlghpdneaaDoorOpen
namespace Go.Proofs.YtjjnehlghpdneaaDoor
open Go.RowKit
set_option linter.unusedVariables false

theorem sum_ab : cSum [97, 98] = 2659403885 := by decide +kernel
theorem frame_ab : frameOf [97, 98] = [2, 97, 98, 109, 72, 131, 158] := by
  unfold frameOf
  rw [sum_ab, show ([97, 98] : List Int).length = 2 from rfl, short_lt 2 (by omega)]
  decide
theorem len_ab : frameLen 2 = 7 := by
  unfold frameLen
  rw [short_lt 2 (by omega)]
  rfl
theorem got_ab : frameGot [2, 97, 98, 109, 72, 131, 158] = ([97, 98], 7, 0) := by
  have h := frame_back [97, 98] [] (by decide)
  rw [frame_ab, List.append_nil, show ([97, 98] : List Int).length = 2 from rfl, len_ab] at h
  exact h

theorem put_ab (b : Option Addr) (d : Nat) (w : World) (hr : Reads w b [.int .u8 97, .int .u8 98]) (hd : b = none → d = 0) (hT : CTab w) :
    Calls Tryd.prog 8 #[.slice none 0 0, .slice b 2 d] w (PutIs [.int .u8 2, .int .u8 97, .int .u8 98, .int .u8 109, .int .u8 72, .int .u8 131, .int .u8 158] 7 w) := by
  have h := putFC [] [97, 98] 0 2 none b 0 d w rfl rfl (Reads.nil _ _) (fun _ => rfl) hr hd (by unfold IsBytes; decide) (by omega) (by omega) hT
  rw [List.nil_append, frame_ab, len_ab] at h
  exact h
theorem get_ab (b : Option Addr) (d : Nat) (w : World) (hr : Reads w b [.int .u8 2, .int .u8 97, .int .u8 98, .int .u8 109, .int .u8 72, .int .u8 131, .int .u8 158]) (hd : 7 ≤ d) (hm : d ≤ maxLen) (hT : CTab w) :
    Calls Tryd.prog 12 #[.slice b 7 d] w fun e w' => ∃ (A : Option Addr) (C : Nat), e = .returned (.tuple #[.slice A 2 C, .int .i64 7, .int .i64 0]) ∧ Owned w.heap.size 5 A 2 C [.int .u8 97, .int .u8 98] w' ∧ Below w.heap.size w w' := by
  have h := getFC [2, 97, 98, 109, 72, 131, 158] 7 b d w rfl hr (by unfold IsBytes; decide) hd hm (by omega) hT
  rw [got_ab] at h
  exact h
theorem size_ab (w : World) : Calls Tryd.prog 11 #[.int .i64 2] w fun e w' => e = .returned (.int .i64 7) ∧ w = w' := by
  have h := fSizeC 2 w (by omega)
  rw [len_ab] at h
  exact h

theorem str_ab (w : World) (g c : Nat) (h0 : w.cell? ⟨g, 0, none⟩ = some (.int .u8 97)) (h1 : w.cell? ⟨g, 1, none⟩ = some (.int .u8 98)) :
    (convert 22 9 (.slice (some ⟨g, 0, none⟩) 2 c)).run Tryd.prog w = .ok (.string ⟨#[97, 98]⟩) w :=
  run_convert_bytes_back w 22 9 5 ⟨g, 0, none⟩ c [97, 98] Tryd.underlying22 Tryd.underlying5 Tryd.underlying9 (fun j hj => by
    match j, hj with
    | 0, _ => exact h0
    | 1, _ => exact h1)

set_option maxRecDepth 100000 in
theorem awake04C (w : World) (hT : CTab w) : Calls Tryd.prog 7 #[] w fun e w' => e = .returned (.bool true) ∧ Below w.heap.size w w' := by
  have hrd := reads_mark w [.int .u8 97, .int .u8 98] 5 (2, 3)
  have hb1 := below_alloc w (.cells #[.int .u8 97, .int .u8 98] 5 (2, 3))
  have HT := Lib.hid (hT.below hb1)
  have kc := fun (w : World) (C : Array Value) (n c : Nat) => Lib.run_convert_bytes_const (P := Tryd.prog) w 22 5 C n c Tryd.underlying22 Tryd.underlying5
  clear hT
  go_enter Tryd.func7, Tryd.ntmps7
  go_wp2_with (first
    | (go_at_call 8; refine (put_ab _ _ _ hrd (fun h => by cases h) HT.out).mono ?_; rintro e w2 ⟨a2, c2, rfl, ho2, hb2⟩)
    | (go_at_call 12; refine (get_ab _ _ _ ho2.reads ho2.2.2.2.1 ho2.2.2.2.2.1 (HT.out.below hb2)).mono ?_; rintro e w3 ⟨a3, c3, rfl, ho3, hb3⟩; have hr2 := ho2.reads.below' hb3; obtain ⟨g2, rfl, -, -⟩ := ho2.head (by omega); obtain ⟨_, _, e0, hc2⟩ := hr2 0 _ rfl; cases e0; have hr3 := ho3.reads; obtain ⟨g3, rfl, -, -⟩ := ho3.head (by omega); obtain ⟨_, _, e0, hc3⟩ := hr3 0 _ rfl; cases e0; obtain ⟨_, _, e0, hc4⟩ := hr3 1 _ rfl; cases e0; clear ho2 ho3 hr2 hr3; simp only [Nat.add_zero, Nat.zero_add] at hc2 hc3 hc4; have kb := str_ab w3 g3 c3 hc3 hc4)
    | (go_at_call 11; (with_reducible refine (size_ab _).mono ?_); rintro e w' ⟨rfl, rfl⟩))
  go_ret
  exact ⟨rfl, hb1.trans ((hb2.mono hb1.size).trans (hb3.mono (Nat.le_trans hb1.size hb2.size)))⟩

theorem framePuts_long (a0 b0 : Option Addr) (n0 c0 m0 d0 : Nat) (n : Int) (w : World) (hT : CTab w) (h : 1000 < n0 ∨ 1000 < m0) :
    Calls Tryd.prog 3 #[.slice a0 n0 c0, .slice b0 m0 d0, .int .i64 n] w fun e w' => e = .returned (.bool true) ∧ Below w.heap.size w w' := by
  have HT := Lib.hid hT
  have H := Lib.hid h
  clear hT h
  by_cases c : 1000 < n0
  · have c' : (1000 : Int) < (n0 : Int) := by omega
    go_enter Tryd.func3, Tryd.ntmps3
    go_wp2_with (go_at_call 7; (with_reducible refine (awake04C _ HT.out).mono ?_); rintro e w' ⟨rfl, hb⟩)
    go_ret
    exact ⟨rfl, hb⟩
  · have c2 : 1000 < m0 := by have := H.out; omega
    have c3 : ¬ (1000 : Int) < (n0 : Int) := by omega
    go_enter Tryd.func3, Tryd.ntmps3
    go_wp2_with (go_at_call 7; (with_reducible refine (awake04C _ HT.out).mono ?_); rintro e w' ⟨rfl, hb⟩)
    go_ret
    exact ⟨rfl, hb⟩

set_option maxRecDepth 100000 in
theorem framePuts_out (l q : List Int) (a0 b0 : Option Addr) (n0 c0 m0 d0 : Nat) (n : Int) (w : World) (hT : CTab w) (h0 : n0 ≤ 1000) (h1 : m0 ≤ 1000) (hl : l.length = n0) (ha : Reads w a0 (l.map (Value.int .u8))) (hc : a0 = none → c0 = 0)
    (hq : q.length = m0) (hr : Reads w b0 (q.map (Value.int .u8))) (hd : b0 = none → d0 = 0) (hb : IsBytes q) (hn0 : -9223372036854775808 ≤ n) (hn1 : n ≤ 9223372036854775807) (hn : n < 0 ∨ 1048576 < n) :
    Calls Tryd.prog 3 #[.slice a0 n0 c0, .slice b0 m0 d0, .int .i64 n] w fun e w' => e = .returned (.bool true) ∧ Below w.heap.size w w' := by
  obtain ⟨i0, hi, hz0, hz1, hz2⟩ := info_parts info8
  have HP := fun w ha hr hT => putFC l q n0 m0 a0 b0 c0 d0 w hl hq ha hc hr hd hb (by omega) (by omega) hT
  have HR := fun w hr => refPutFC q m0 b0 d0 w hq hr hd hb (by omega)
  have HS := fun w => fSizeNo n w hn0 hn1 hn
  have HM := fun w => fSizeC m0 w (by omega)
  have hF : frameLen m0 ≤ 1014 := by have := short_ten m0 (by omega); unfold frameLen; omega
  have hk : (frameOf q).length = frameLen m0 := by rw [frameOf_length, hq]
  have hlk : (l ++ frameOf q).length = n0 + frameLen m0 := by rw [List.length_append, hl, hk]
  unfold PutIs at HP
  generalize frameOf q = fq at HP HR hk hlk
  generalize frameLen m0 = F at HP HR HM hF hk hlk
  generalize hG0 : n0 + F = G at HP hlk
  have HG := Lib.hid hG0
  have hG : (G : Int) - (n0 : Int) = (F : Int) := by omega
  have hG2 : G ≤ 2014 := by omega
  clear hG0
  have HL := Lib.hid hl
  have HK := Lib.hid hk
  have HLK := Lib.hid hlk
  have HT := Lib.hid hT
  clear hT hl hq hk hlk hb
  by_cases c : n < 0
  · clear hn
    go_enter Tryd.func3, Tryd.ntmps3
    go_wp2_with (first
      | (go_at_call 8; (with_reducible refine (HP _ ha hr HT.out).mono ?_); rintro e w1 ⟨a1, c1, rfl, ho1, hb1⟩; have ha1 := ha.below' hb1; have hr1 := hr.below' hb1; have HT1 := Lib.hid (HT.out.below hb1))
      | (at_builtin; refine wpList_guard (by rfl) ?_; refine wpList_append_lit rfl (.tmp 47) (.tmp 48) 22 rfl 5 i0 (.int .u8 0) 1 Tryd.underlying22 hi hz0 hz1 hz2 rfl rfl ha1 rfl (by rw [List.length_map, HL.out]) hc (bytes_one l .u8) (by unfold maxLen; omega) (by omega) ?_; intro a2 c2 w2 ho2 hb2)
      | (go_at_call 10; (with_reducible refine (HR _ (hr1.below' hb2)).mono ?_); rintro e w3 ⟨a3, c3, rfl, ho3, hb3⟩)
      | (at_builtin; refine wpList_guard (by rfl) ?_; refine wpList_append_to rfl (.tmp 49) (.tmp 51) 22 rfl 5 i0 (.int .u8 0) 1 Tryd.underlying22 hi hz0 hz1 hz2 rfl (ho2.below hb3 (Nat.le_refl _)) rfl ho3.reads rfl (by rw [List.length_map, HK.out]) ho3.nil0 (bytes_one fq .u8) G HG.out (by unfold maxLen; omega) (by omega) (Nat.le_trans hb2.size hb3.size) ?_; intro a4 c4 w4 ho4 hb4; rw [← List.map_append] at ho4; have hb14 := hb2.trans ((hb3.mono hb2.size).trans hb4); clear ho2 ho3 hb2 hb3 hb4)
      | (go_at_call 9; (with_reducible refine (sameO (l ++ fq) G HLK.out a1 a4 _ _ w4 (ho1.reads.below' hb14) ho4.reads (by unfold maxLen; omega)).mono ?_); rintro e w' ⟨rfl, d', rfl⟩; have hb04 := below_drewN (hb1.trans (hb14.mono hb1.size)) d'; clear ho1 ho4 hb1 hb14)
      | (go_at_call 11; (with_reducible refine (HS _).mono ?_); rintro e w' ⟨rfl, rfl⟩)
      | (go_at_call 11; (with_reducible refine (HM _).mono ?_); rintro e w' ⟨rfl, rfl⟩)
      | (go_at_call 7; (with_reducible refine (awake04C _ (HT.out.below hb04)).mono ?_); rintro e w5 ⟨rfl, hb5⟩))
    go_ret
    exact ⟨rfl, hb04.trans (hb5.mono hb04.size)⟩
  · have c2 : 1048576 < n := by omega
    clear hn
    go_enter Tryd.func3, Tryd.ntmps3
    go_wp2_with (first
      | (go_at_call 8; (with_reducible refine (HP _ ha hr HT.out).mono ?_); rintro e w1 ⟨a1, c1, rfl, ho1, hb1⟩; have ha1 := ha.below' hb1; have hr1 := hr.below' hb1; have HT1 := Lib.hid (HT.out.below hb1))
      | (at_builtin; refine wpList_guard (by rfl) ?_; refine wpList_append_lit rfl (.tmp 47) (.tmp 48) 22 rfl 5 i0 (.int .u8 0) 1 Tryd.underlying22 hi hz0 hz1 hz2 rfl rfl ha1 rfl (by rw [List.length_map, HL.out]) hc (bytes_one l .u8) (by unfold maxLen; omega) (by omega) ?_; intro a2 c2 w2 ho2 hb2)
      | (go_at_call 10; (with_reducible refine (HR _ (hr1.below' hb2)).mono ?_); rintro e w3 ⟨a3, c3, rfl, ho3, hb3⟩)
      | (at_builtin; refine wpList_guard (by rfl) ?_; refine wpList_append_to rfl (.tmp 49) (.tmp 51) 22 rfl 5 i0 (.int .u8 0) 1 Tryd.underlying22 hi hz0 hz1 hz2 rfl (ho2.below hb3 (Nat.le_refl _)) rfl ho3.reads rfl (by rw [List.length_map, HK.out]) ho3.nil0 (bytes_one fq .u8) G HG.out (by unfold maxLen; omega) (by omega) (Nat.le_trans hb2.size hb3.size) ?_; intro a4 c4 w4 ho4 hb4; rw [← List.map_append] at ho4; have hb14 := hb2.trans ((hb3.mono hb2.size).trans hb4); clear ho2 ho3 hb2 hb3 hb4)
      | (go_at_call 9; (with_reducible refine (sameO (l ++ fq) G HLK.out a1 a4 _ _ w4 (ho1.reads.below' hb14) ho4.reads (by unfold maxLen; omega)).mono ?_); rintro e w' ⟨rfl, d', rfl⟩; have hb04 := below_drewN (hb1.trans (hb14.mono hb1.size)) d'; clear ho1 ho4 hb1 hb14)
      | (go_at_call 11; (with_reducible refine (HS _).mono ?_); rintro e w' ⟨rfl, rfl⟩)
      | (go_at_call 11; (with_reducible refine (HM _).mono ?_); rintro e w' ⟨rfl, rfl⟩)
      | (go_at_call 7; (with_reducible refine (awake04C _ (HT.out.below hb04)).mono ?_); rintro e w5 ⟨rfl, hb5⟩))
    go_ret
    exact ⟨rfl, hb04.trans (hb5.mono hb04.size)⟩

set_option maxRecDepth 100000 in
theorem framePuts_in (l q : List Int) (a0 b0 : Option Addr) (n0 c0 m0 d0 N : Nat) (w : World) (hT : CTab w) (h0 : n0 ≤ 1000) (h1 : m0 ≤ 1000) (hl : l.length = n0) (ha : Reads w a0 (l.map (Value.int .u8))) (hc : a0 = none → c0 = 0)
    (hq : q.length = m0) (hr : Reads w b0 (q.map (Value.int .u8))) (hd : b0 = none → d0 = 0) (hb : IsBytes q) (hN : N ≤ 1048576) :
    Calls Tryd.prog 3 #[.slice a0 n0 c0, .slice b0 m0 d0, .int .i64 (N : Int)] w fun e w' => e = .returned (.bool true) ∧ Below w.heap.size w w' := by
  obtain ⟨i0, hi, hz0, hz1, hz2⟩ := info_parts info8
  have HP := fun w ha hr hT => putFC l q n0 m0 a0 b0 c0 d0 w hl hq ha hc hr hd hb (by omega) (by omega) hT
  have HR := fun w hr => refPutFC q m0 b0 d0 w hq hr hd hb (by omega)
  have HS := fun w => fSizeC N w hN
  have HM := fun w => fSizeC m0 w (by omega)
  have hF : frameLen m0 ≤ 1014 := by have := short_ten m0 (by omega); unfold frameLen; omega
  have hk : (frameOf q).length = frameLen m0 := by rw [frameOf_length, hq]
  have hlk : (l ++ frameOf q).length = n0 + frameLen m0 := by rw [List.length_append, hl, hk]
  have hZ : N + 4 + (short N).length = frameLen N := by unfold frameLen; omega
  have hZ2 : frameLen N ≤ 1048590 := by have := short_ten N (by omega); unfold frameLen; omega
  unfold PutIs at HP
  generalize frameOf q = fq at HP HR hk hlk
  generalize frameLen m0 = F at HP HR HM hF hk hlk
  generalize frameLen N = Z at HS hZ hZ2
  generalize hG0 : n0 + F = G at HP hlk
  have HG := Lib.hid hG0
  have hG : (G : Int) - (n0 : Int) = (F : Int) := by omega
  have hG2 : G ≤ 2014 := by omega
  clear hG0
  have HL := Lib.hid hl
  have HK := Lib.hid hk
  have HLK := Lib.hid hlk
  have HT := Lib.hid hT
  have HZ := Lib.hid hZ
  clear hT hl hq hk hlk hb hZ
  go_enter Tryd.func3, Tryd.ntmps3
  go_wp2_with ((go_at_call 8; (with_reducible refine (HP _ ha hr HT.out).mono ?_); rintro e w1 ⟨a1, c1, rfl, ho1, hb1⟩; have ha1 := ha.below' hb1; have hr1 := hr.below' hb1; have HT1 := Lib.hid (HT.out.below hb1)))
  go_loop [9, 10] (fun v k => ∃ V K : Nat, V ≤ Z ∧ K ≤ 1048576 ∧ v = .int .i64 (V : Int) ∧ k = .int .i64 (K : Int) ∧ Hid (V + (short K).length = Z)) (fun _ k => (intOf k).toNat)
  case atStart => exact ⟨N + 4, N, by have := HZ.out; omega, hN, by push_cast; rfl, rfl, HZ⟩
  case round =>
    obtain ⟨V, K, hV, hK, rfl, rfl, H⟩ := hrel
    by_cases c : 127 < K
    · have h := H.out
      rw [short_ge K (by omega), List.length_cons] at h
      have c' : (127 : Int) < (K : Int) := by omega
      go_wp2
      go_round
      case rel => exact ⟨V + 1, K / 128, by omega, by omega, by go_num, by go_num, by unfold Hid; omega⟩
      case measure => simp [intOf]; omega
    · have h := H.out
      rw [short_lt K (by omega)] at h
      have h' : V + 1 = Z := h
      have h2 : (V : Int) + 1 = (Z : Int) := by omega
      clear h h' H HZ
      have c' : ¬ (127 : Int) < (K : Int) := by omega
      go_wp2_with (first
        | (at_builtin; refine wpList_guard (by rfl) ?_; refine wpList_append_lit rfl (.tmp 47) (.tmp 48) 22 rfl 5 i0 (.int .u8 0) 1 Tryd.underlying22 hi hz0 hz1 hz2 rfl rfl ha1 rfl (by rw [List.length_map, HL.out]) hc (bytes_one l .u8) (by unfold maxLen; omega) (by omega) ?_; intro a2 c2 w2 ho2 hb2)
        | (go_at_call 10; (with_reducible refine (HR _ (hr1.below' hb2)).mono ?_); rintro e w3 ⟨a3, c3, rfl, ho3, hb3⟩)
        | (at_builtin; refine wpList_guard (by rfl) ?_; refine wpList_append_to rfl (.tmp 49) (.tmp 51) 22 rfl 5 i0 (.int .u8 0) 1 Tryd.underlying22 hi hz0 hz1 hz2 rfl (ho2.below hb3 (Nat.le_refl _)) rfl ho3.reads rfl (by rw [List.length_map, HK.out]) ho3.nil0 (bytes_one fq .u8) G HG.out (by unfold maxLen; omega) (by omega) (Nat.le_trans hb2.size hb3.size) ?_; intro a4 c4 w4 ho4 hb4; rw [← List.map_append] at ho4; have hb14 := hb2.trans ((hb3.mono hb2.size).trans hb4); clear ho2 ho3 hb2 hb3 hb4)
        | (go_at_call 9; (with_reducible refine (sameO (l ++ fq) G HLK.out a1 a4 _ _ w4 (ho1.reads.below' hb14) ho4.reads (by unfold maxLen; omega)).mono ?_); rintro e w' ⟨rfl, d', rfl⟩; have hb04 := below_drewN (hb1.trans (hb14.mono hb1.size)) d'; clear ho1 ho4 hb1 hb14)
        | (go_at_call 11; (with_reducible refine (HS _).mono ?_); rintro e w' ⟨rfl, rfl⟩)
        | (go_at_call 11; (with_reducible refine (HM _).mono ?_); rintro e w' ⟨rfl, rfl⟩)
        | (go_at_call 7; (with_reducible refine (awake04C _ (HT.out.below hb04)).mono ?_); rintro e w5 ⟨rfl, hb5⟩))
      go_ret
      exact ⟨rfl, hb04.trans (hb5.mono hb04.size)⟩

theorem framePuts_walk (a0 : Option Addr) (n0 c0 : Nat) (z0 : List Int) (b0 : Option Addr) (m0 d0 : Nat) (z1 : List Int) (n : Int) (w : World) (w0 : IsRow .u8 w a0 n0 c0 z0) (w1 : IsRow .u8 w b0 m0 d0 z1) (w2 : (Lit.int .i64 n).wf = true) (hT : CTab w) :
    Calls Tryd.prog 3 #[.slice a0 n0 c0, .slice b0 m0 d0, .int .i64 n] w fun e w' => e = .returned (.bool true) ∧ Below w.heap.size w w' := by
  have hn := wfI64 w2
  obtain ⟨h1, h2, _⟩ := isRow_reads w0
  obtain ⟨h3, h4, _⟩ := isRow_reads w1
  by_cases c : 1000 < n0 ∨ 1000 < m0
  · exact framePuts_long a0 b0 n0 c0 m0 d0 n w hT c
  · by_cases c2 : n < 0 ∨ 1048576 < n
    · exact framePuts_out _ _ a0 b0 n0 c0 m0 d0 n w hT (by omega) (by omega) h2 h1 (isRow_nil w0) h4 h3 (isRow_nil w1) (isRow_bytes w1) hn.1 hn.2 c2
    · obtain ⟨N, rfl⟩ := Int.eq_ofNat_of_zero_le (show 0 ≤ n by omega)
      exact framePuts_in _ _ a0 b0 n0 c0 m0 d0 N w hT (by omega) (by omega) h2 h1 (isRow_nil w0) h4 h3 (isRow_nil w1) (isRow_bytes w1) (by omega)
end Go.Proofs.YtjjnehlghpdneaaDoor
