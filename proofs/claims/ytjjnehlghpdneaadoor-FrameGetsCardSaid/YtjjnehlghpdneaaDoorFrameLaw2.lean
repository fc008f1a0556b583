/- The walks of layer 4's laws: what is got, what is spoilt. -/
import Derived.Test.YtjjnehlghpdneaaDoorFrameLaw
namespace Go.Proofs.YtjjnehlghpdneaaDoor
open Go.RowKit
set_option linter.unusedVariables false

theorem frameGets_long (a0 : Option Addr) (n0 c0 : Nat) (w : World) (hT : CTab w) (h : 3000 < n0) :
    Calls Tryd.prog 4 #[.slice a0 n0 c0] w fun e w' => e = .returned (.bool true) ∧ Below w.heap.size w w' := by
  have HT := Lib.hid hT
  clear hT
  go_enter Tryd.func4, Tryd.ntmps4
  go_wp2_with (go_at_call 7; (with_reducible refine (awake04C _ HT.out).mono ?_); rintro e w' ⟨rfl, hb⟩)
  go_ret
  exact ⟨rfl, hb⟩

set_option maxRecDepth 100000 in
theorem frameGets_short (l : List Int) (a0 : Option Addr) (n0 c0 : Nat) (w : World) (hT : CTab w) (h : n0 ≤ 3000) (hl : l.length = n0) (ha : Reads w a0 (l.map (Value.int .u8))) (hb : IsBytes l) (hn : n0 ≤ c0) (hm : c0 ≤ maxLen) :
    Calls Tryd.prog 4 #[.slice a0 n0 c0] w fun e w' => e = .returned (.bool true) ∧ Below w.heap.size w w' := by
  have HG := fun w ha hT => getFC l n0 a0 c0 w hl ha hb hn hm (by omega) hT
  have HO := fun w ha hT => oneFC l n0 a0 c0 w hl ha hb hn hm (by omega) hT
  have HR := fun w ha => refGetFC l n0 a0 c0 w hl ha hb hn hm (by omega)
  have hE := frameGot_err l
  have hB := frameGot_bounds l hb
  unfold oneGot at HO
  unfold GetIs at HG HR
  unfold OneIs at HO
  rw [hl] at HO hB
  have HT := Lib.hid hT
  clear hT hb
  generalize frameGot l = r at HG HO HR hE hB
  obtain ⟨y, N, e⟩ := r
  simp only [] at HG HO HR hE hB
  by_cases c1 : e ≠ 0
  · obtain ⟨rfl, rfl⟩ := hE c1
    rw [if_pos c1] at HO
    simp only [List.length_nil] at HG HO HR
    clear hE hB
    go_enter Tryd.func4, Tryd.ntmps4
    go_wp2_with (first
      | (go_at_call 12; (with_reducible refine (HG _ ha HT.out).mono ?_); rintro e1 w1 ⟨a1, c1, rfl, ho1, hb1⟩; have ha1 := ha.below' hb1; have HT1 := Lib.hid (HT.out.below hb1))
      | (go_at_call 13; (with_reducible refine (HO _ ha1 HT1.out).mono ?_); rintro e2 w2 ⟨a2, c2, rfl, ho2, hb2⟩; have ha2 := ha1.below' hb2; have HT2 := Lib.hid (HT1.out.below hb2); have hr1 := ho1.reads.below' hb2; have hb02 := hb1.trans (hb2.mono hb1.size); clear ho1 hb1 hb2 HT1 HT)
      | (go_at_call 14; (with_reducible refine (HR _ ha2).mono ?_); rintro e3 w3 ⟨a3, c3, rfl, ho3, hb3⟩; have hr13 := hr1.below' hb3; have hr2 := ho2.reads.below' hb3; have HT3 := Lib.hid (HT2.out.below hb3); have hb03 := hb02.trans (hb3.mono hb02.size); have hr3 := ho3.reads; clear ho2 hb02 hb3 HT2)
      | (go_at_call 9; (with_reducible refine (sameO [] 0 rfl _ _ _ _ _ (Reads.nil _ _) (Reads.nil _ _) (by unfold maxLen; omega)).mono ?_); rintro e w' ⟨rfl, d1, rfl⟩; have hb04 := below_drewN hb03 d1; have hr2d := hr2.drewN d1; have hr3d := hr3.drewN d1; have HT4 := Lib.hid (HT3.out.below (below_drewN (Below.refl w3.heap.size w3) d1)); clear hb03 HT3 hr13)
      | (go_at_call 9; (with_reducible refine (sameO [] 0 rfl _ _ _ _ _ (Reads.nil _ _) (Reads.nil _ _) (by unfold maxLen; omega)).mono ?_); rintro e w' ⟨rfl, d2, rfl⟩; have hb05 := below_drewN hb04 d2; have ht5 := HT4.out.below (below_drewN (Below.refl (w3.drewN d1).heap.size (w3.drewN d1)) d2); rw [World.drewN_drewN] at ht5 hb05; have HT5 := Lib.hid ht5; clear ht5)
      | (go_at_call 7; (with_reducible refine (awake04C _ HT5.out).mono ?_); rintro e w6 ⟨rfl, hb6⟩))
    go_ret
    exact ⟨rfl, hb05.trans (hb6.mono hb05.size)⟩
  · have c1' : e = 0 := by omega
    subst c1'
    rw [if_neg c1] at HO
    have hyl := hB.1
    clear hE hB c1
    by_cases c2 : N < n0
    · rw [if_pos c2] at HO
      simp only [List.length_nil] at HO
      obtain ⟨L, hL⟩ : ∃ L, y.length = L := ⟨_, rfl⟩
      rw [hL] at HG HR hyl
      have HL := Lib.hid hL
      clear hL
      go_enter Tryd.func4, Tryd.ntmps4
      go_wp2_with (first
        | (go_at_call 12; (with_reducible refine (HG _ ha HT.out).mono ?_); rintro e1 w1 ⟨a1, c1, rfl, ho1, hb1⟩; have ha1 := ha.below' hb1; have HT1 := Lib.hid (HT.out.below hb1))
        | (go_at_call 13; (with_reducible refine (HO _ ha1 HT1.out).mono ?_); rintro e2 w2 ⟨a2, c2, rfl, ho2, hb2⟩; have ha2 := ha1.below' hb2; have HT2 := Lib.hid (HT1.out.below hb2); have hr1 := ho1.reads.below' hb2; have hb02 := hb1.trans (hb2.mono hb1.size); clear ho1 hb1 hb2 HT1 HT)
        | (go_at_call 14; (with_reducible refine (HR _ ha2).mono ?_); rintro e3 w3 ⟨a3, c3, rfl, ho3, hb3⟩; have hr13 := hr1.below' hb3; have hr2 := ho2.reads.below' hb3; have HT3 := Lib.hid (HT2.out.below hb3); have hb03 := hb02.trans (hb3.mono hb02.size); have hr3 := ho3.reads; clear ho2 hb02 hb3 HT2)
        | (go_at_call 9; (with_reducible refine (sameO y L HL.out a1 a3 _ _ w3 hr13 hr3 (by unfold maxLen; omega)).mono ?_); rintro e w' ⟨rfl, d1, rfl⟩; have hb04 := below_drewN hb03 d1; have hr2d := hr2.drewN d1; have hr3d := hr3.drewN d1; have HT4 := Lib.hid (HT3.out.below (below_drewN (Below.refl w3.heap.size w3) d1)); clear hb03 HT3 hr13)
        | (go_at_call 7; (with_reducible refine (awake04C _ HT4.out).mono ?_); rintro e w6 ⟨rfl, hb6⟩))
      go_ret
      exact ⟨rfl, hb04.trans (hb6.mono hb04.size)⟩
    · rw [if_neg c2] at HO
      simp only [] at HO
      obtain ⟨L, hL⟩ : ∃ L, y.length = L := ⟨_, rfl⟩
      rw [hL] at HG HR HO hyl
      have HL := Lib.hid hL
      clear hL
      go_enter Tryd.func4, Tryd.ntmps4
      go_wp2_with (first
        | (go_at_call 12; (with_reducible refine (HG _ ha HT.out).mono ?_); rintro e1 w1 ⟨a1, c1, rfl, ho1, hb1⟩; have ha1 := ha.below' hb1; have HT1 := Lib.hid (HT.out.below hb1))
        | (go_at_call 13; (with_reducible refine (HO _ ha1 HT1.out).mono ?_); rintro e2 w2 ⟨a2, c2, rfl, ho2, hb2⟩; have ha2 := ha1.below' hb2; have HT2 := Lib.hid (HT1.out.below hb2); have hr1 := ho1.reads.below' hb2; have hb02 := hb1.trans (hb2.mono hb1.size); clear ho1 hb1 hb2 HT1 HT)
        | (go_at_call 14; (with_reducible refine (HR _ ha2).mono ?_); rintro e3 w3 ⟨a3, c3, rfl, ho3, hb3⟩; have hr13 := hr1.below' hb3; have hr2 := ho2.reads.below' hb3; have HT3 := Lib.hid (HT2.out.below hb3); have hb03 := hb02.trans (hb3.mono hb02.size); have hr3 := ho3.reads; clear ho2 hb02 hb3 HT2)
        | (go_at_call 9; (with_reducible refine (sameO y L HL.out a1 a3 _ _ w3 hr13 hr3 (by unfold maxLen; omega)).mono ?_); rintro e w' ⟨rfl, d1, rfl⟩; have hb04 := below_drewN hb03 d1; have hr2d := hr2.drewN d1; have hr3d := hr3.drewN d1; have HT4 := Lib.hid (HT3.out.below (below_drewN (Below.refl w3.heap.size w3) d1)); clear hb03 HT3 hr13)
        | (go_at_call 9; (with_reducible refine (sameO y L HL.out a2 a3 _ _ _ hr2d hr3d (by unfold maxLen; omega)).mono ?_); rintro e w' ⟨rfl, d2, rfl⟩; have hb05 := below_drewN hb04 d2; have ht5 := HT4.out.below (below_drewN (Below.refl (w3.drewN d1).heap.size (w3.drewN d1)) d2); rw [World.drewN_drewN] at ht5 hb05; have HT5 := Lib.hid ht5; clear ht5)
        | (go_at_call 7; (with_reducible refine (awake04C _ HT5.out).mono ?_); rintro e w6 ⟨rfl, hb6⟩))
      go_ret
      exact ⟨rfl, hb05.trans (hb6.mono hb05.size)⟩

theorem frameGets_walk (a0 : Option Addr) (n0 c0 : Nat) (z0 : List Int) (w : World) (w0 : IsRow .u8 w a0 n0 c0 z0) (hT : CTab w) :
    Calls Tryd.prog 4 #[.slice a0 n0 c0] w fun e w' => e = .returned (.bool true) ∧ Below w.heap.size w w' := by
  by_cases c : 3000 < n0
  · exact frameGets_long a0 n0 c0 w hT c
  · obtain ⟨h1, h2, h3, h4, _⟩ := isRow_reads w0
    exact frameGets_short _ a0 n0 c0 w hT (by omega) h2 h1 (isRow_bytes w0) h3 h4

theorem frameSpoilt_long (a0 : Option Addr) (n0 c0 : Nat) (k c : Int) (w : World) (hT : CTab w) (h : 1000 < n0) :
    Calls Tryd.prog 6 #[.slice a0 n0 c0, .int .i64 k, .int .u8 c] w fun e w' => e = .returned (.bool true) ∧ Below w.heap.size w w' := by
  have HT := Lib.hid hT
  clear hT
  go_enter Tryd.func6, Tryd.ntmps6
  go_wp2_with (go_at_call 7; (with_reducible refine (awake04C _ HT.out).mono ?_); rintro e w' ⟨rfl, hb⟩)
  go_ret
  exact ⟨rfl, hb⟩

theorem one_back (q : List Int) (hl : q.length ≤ 1048576) : oneGot (frameOf q) = (q, 0) := by
  have h := frame_back q [] hl
  rw [List.append_nil] at h
  unfold oneGot
  rw [h, frameOf_length]
  simp
theorem one_spoilt (q : List Int) (hb : IsBytes q) (hl : q.length ≤ 1048576) (k c : Nat) (hk : k < frameLen q.length) (hc : c < 256) (h0 : c ≠ 0) :
    ∃ e, e ≠ 0 ∧ oneGot ((frameOf q).set k ((((frameOf q).getD k 0).toNat ^^^ c : Nat) : Int)) = ([], e) := by
  have hs := frame_spoilt q hb hl k c hk hc h0
  have hlen : ((frameOf q).set k ((((frameOf q).getD k 0).toNat ^^^ c : Nat) : Int)).length = frameLen q.length := by rw [List.length_set, frameOf_length]
  unfold oneGot
  rw [hlen]
  generalize frameGot ((frameOf q).set k ((((frameOf q).getD k 0).toNat ^^^ c : Nat) : Int)) = r at hs
  obtain ⟨y, n, e⟩ := r
  by_cases c1 : e ≠ 0
  · exact ⟨e, c1, by simp [c1]⟩
  · have c1' : e = 0 := by omega
    subst c1'
    have := hs y n rfl
    exact ⟨1, by omega, by simp [this]⟩

set_option maxRecDepth 100000 in
theorem frameSpoilt_out (q : List Int) (a0 : Option Addr) (n0 c0 : Nat) (k c : Int) (w : World) (hT : CTab w) (h0 : n0 ≤ 1000) (hl : q.length = n0) (ha : Reads w a0 (q.map (Value.int .u8))) (hb : IsBytes q) (hd : a0 = none → c0 = 0)
    (hk : -9223372036854775808 ≤ k ∧ k ≤ 9223372036854775807) (hc : 0 ≤ c ∧ c ≤ 255) (ho : k < 0 ∨ (frameLen n0 : Int) ≤ k ∨ c = 0) :
    Calls Tryd.prog 6 #[.slice a0 n0 c0, .int .i64 k, .int .u8 c] w fun e w' => e = .returned (.bool true) ∧ Below w.heap.size w w' := by
  have hl2 : q.length ≤ 1048576 := by omega
  have hfb := frameOf_bytes q hb
  have hfl : (frameOf q).length = frameLen n0 := by rw [frameOf_length, hl]
  have hF : frameLen n0 ≤ 1014 := by have := short_ten n0 (by omega); unfold frameLen; omega
  have HP : ∀ w, Reads w a0 (q.map (Value.int .u8)) → CTab w → Calls Tryd.prog 8 #[.slice none 0 0, .slice a0 n0 c0] w (PutIs ((frameOf q).map (Value.int .u8)) (frameLen n0) w) := fun w ha hT => by
    have h := putFC [] q 0 n0 none a0 0 c0 w rfl hl (Reads.nil _ _) (fun _ => rfl) ha hd hb (by omega) (by omega) hT
    rw [List.nil_append, Nat.zero_add] at h
    exact h
  have HO := fun w a C ha hn hm hT => oneFC (frameOf q) (frameLen n0) a C w hfl ha hfb hn hm (by omega) hT
  rw [one_back q hl2] at HO
  unfold PutIs at HP
  unfold OneIs at HO
  simp only [] at HO
  rw [hl] at HO
  generalize frameOf q = fq at HP HO hfl
  generalize frameLen n0 = F at HP HO hfl hF ho
  have HL := Lib.hid hl
  have HT := Lib.hid hT
  have HH := Lib.hid ho
  clear hT hb hl hfl ho hfb
  by_cases c1 : k < 0
  · go_enter Tryd.func6, Tryd.ntmps6
    go_wp2_with (first
      | (go_at_call 8; (with_reducible refine (HP _ ha HT.out).mono ?_); rintro e1 w1 ⟨a1, c1, rfl, ho1, hb1⟩; have ha1 := ha.below' hb1; have HT1 := Lib.hid (HT.out.below hb1); have hr1 := ho1.reads; have hx1 := ho1.2.2.2.1; have hy1 := ho1.2.2.2.2.1; have hz1 := ho1.nil0; clear ho1)
      | (go_at_call 13; (with_reducible refine (HO _ _ _ hr1 hx1 hy1 HT1.out).mono ?_); rintro e2 w2 ⟨a2, c2, rfl, ho2, hb2⟩; have ha2 := ha1.below' hb2; have HT2 := Lib.hid (HT1.out.below hb2); have hr2 := hr1.below' hb2; have hb02 := hb1.trans (hb2.mono hb1.size); clear hb1 hb2 HT1)
      | (go_at_call 9; (with_reducible refine (sameO q n0 HL.out a2 a0 _ _ w2 ho2.reads ha2 (by unfold maxLen; omega)).mono ?_); rintro e w' ⟨rfl, d1, rfl⟩; have hb03 := below_drewN hb02 d1; have hr3 := hr2.drewN d1; have HT3 := Lib.hid (HT2.out.below (below_drewN (Below.refl w2.heap.size w2) d1)); clear ho2 hb02 HT2 hr2 ha2)
      | (go_at_call 7; (with_reducible refine (awake04C _ HT3.out).mono ?_); rintro e w4 ⟨rfl, hb4⟩))
    go_ret
    exact ⟨rfl, hb03.trans (hb4.mono hb03.size)⟩
  · by_cases c2 : (F : Int) ≤ k
    · go_enter Tryd.func6, Tryd.ntmps6
      go_wp2_with (first
        | (go_at_call 8; (with_reducible refine (HP _ ha HT.out).mono ?_); rintro e1 w1 ⟨a1, c1, rfl, ho1, hb1⟩; have ha1 := ha.below' hb1; have HT1 := Lib.hid (HT.out.below hb1); have hr1 := ho1.reads; have hx1 := ho1.2.2.2.1; have hy1 := ho1.2.2.2.2.1; have hz1 := ho1.nil0; clear ho1)
        | (go_at_call 13; (with_reducible refine (HO _ _ _ hr1 hx1 hy1 HT1.out).mono ?_); rintro e2 w2 ⟨a2, c2, rfl, ho2, hb2⟩; have ha2 := ha1.below' hb2; have HT2 := Lib.hid (HT1.out.below hb2); have hr2 := hr1.below' hb2; have hb02 := hb1.trans (hb2.mono hb1.size); clear hb1 hb2 HT1)
        | (go_at_call 9; (with_reducible refine (sameO q n0 HL.out a2 a0 _ _ w2 ho2.reads ha2 (by unfold maxLen; omega)).mono ?_); rintro e w' ⟨rfl, d1, rfl⟩; have hb03 := below_drewN hb02 d1; have hr3 := hr2.drewN d1; have HT3 := Lib.hid (HT2.out.below (below_drewN (Below.refl w2.heap.size w2) d1)); clear ho2 hb02 HT2 hr2 ha2)
        | (go_at_call 7; (with_reducible refine (awake04C _ HT3.out).mono ?_); rintro e w4 ⟨rfl, hb4⟩))
      go_ret
      exact ⟨rfl, hb03.trans (hb4.mono hb03.size)⟩
    · have c3 : c = 0 := by have := HH.out; omega
      subst c3
      go_enter Tryd.func6, Tryd.ntmps6
      go_wp2_with (first
        | (go_at_call 8; (with_reducible refine (HP _ ha HT.out).mono ?_); rintro e1 w1 ⟨a1, c1, rfl, ho1, hb1⟩; have ha1 := ha.below' hb1; have HT1 := Lib.hid (HT.out.below hb1); have hr1 := ho1.reads; have hx1 := ho1.2.2.2.1; have hy1 := ho1.2.2.2.2.1; have hz1 := ho1.nil0; clear ho1)
        | (go_at_call 13; (with_reducible refine (HO _ _ _ hr1 hx1 hy1 HT1.out).mono ?_); rintro e2 w2 ⟨a2, c2, rfl, ho2, hb2⟩; have ha2 := ha1.below' hb2; have HT2 := Lib.hid (HT1.out.below hb2); have hr2 := hr1.below' hb2; have hb02 := hb1.trans (hb2.mono hb1.size); clear hb1 hb2 HT1)
        | (go_at_call 9; (with_reducible refine (sameO q n0 HL.out a2 a0 _ _ w2 ho2.reads ha2 (by unfold maxLen; omega)).mono ?_); rintro e w' ⟨rfl, d1, rfl⟩; have hb03 := below_drewN hb02 d1; have hr3 := hr2.drewN d1; have HT3 := Lib.hid (HT2.out.below (below_drewN (Below.refl w2.heap.size w2) d1)); clear ho2 hb02 HT2 hr2 ha2)
        | (go_at_call 7; (with_reducible refine (awake04C _ HT3.out).mono ?_); rintro e w4 ⟨rfl, hb4⟩))
      go_ret
      exact ⟨rfl, hb03.trans (hb4.mono hb03.size)⟩

set_option maxRecDepth 100000 in
theorem frameSpoilt_in (q : List Int) (a0 : Option Addr) (n0 c0 k c : Nat) (w : World) (hT : CTab w) (h0 : n0 ≤ 1000) (hl : q.length = n0) (ha : Reads w a0 (q.map (Value.int .u8))) (hb : IsBytes q) (hd : a0 = none → c0 = 0)
    (hk : k < frameLen n0) (hc : c < 256) (hc0 : c ≠ 0) :
    Calls Tryd.prog 6 #[.slice a0 n0 c0, .int .i64 (k : Int), .int .u8 (c : Int)] w fun e w' => e = .returned (.bool true) ∧ Below w.heap.size w w' := by
  obtain ⟨i0, hi, hz0, hz1', hz2⟩ := info_parts info8
  have hl2 : q.length ≤ 1048576 := by omega
  have hfb := frameOf_bytes q hb
  have hfl : (frameOf q).length = frameLen n0 := by rw [frameOf_length, hl]
  have hF : frameLen n0 ≤ 1014 := by have := short_ten n0 (by omega); unfold frameLen; omega
  have HP : ∀ w, Reads w a0 (q.map (Value.int .u8)) → CTab w → Calls Tryd.prog 8 #[.slice none 0 0, .slice a0 n0 c0] w (PutIs ((frameOf q).map (Value.int .u8)) (frameLen n0) w) := fun w ha hT => by
    have h := putFC [] q 0 n0 none a0 0 c0 w rfl hl (Reads.nil _ _) (fun _ => rfl) ha hd hb (by omega) (by omega) hT
    rw [List.nil_append, Nat.zero_add] at h
    exact h
  have HO := fun w a C ha hn hm hT => oneFC (frameOf q) (frameLen n0) a C w hfl ha hfb hn hm (by omega) hT
  rw [one_back q hl2] at HO
  unfold PutIs at HP
  unfold OneIs at HO
  simp only [] at HO
  rw [hl] at HO
  obtain ⟨y, hy, hy8⟩ := getD_nat hfb k
  obtain ⟨er, her, hsp⟩ := one_spoilt q hb hl2 k c (by rw [hl]; exact hk) hc hc0
  rw [hy, Int.toNat_natCast] at hsp
  have hyx := u8_xor_nat y c (by omega) (by omega)
  have hyl : y ^^^ c < 256 := Nat.xor_lt_two_pow (n := 8) hy8 hc
  have HX := fun w a C ha hn hm hT => oneFC ((frameOf q).set k ((y ^^^ c : Nat) : Int)) (frameLen n0) a C w (by rw [List.length_set, hfl]) ha (set_bytes (frameOf q) k _ hfb (by omega)) hn hm (by omega) hT
  rw [hsp] at HX
  unfold OneIs at HX
  simp only [List.length_nil] at HX
  generalize frameOf q = fq at HP HO HX hfl hy
  generalize frameLen n0 = F at HP HO HX hfl hF hk
  generalize hv : y ^^^ c = v at HX hyx hyl
  have HLS : (fq.map (Value.int .u8)).set k (.int .u8 (v : Int)) = (fq.set k (v : Int)).map (Value.int .u8) := by rw [List.map_set]
  have HLS := Lib.hid HLS
  have hy' : (fq.map (Value.int .u8))[k]? = some (.int .u8 (y : Int)) := by
    have hkl : k < fq.length := by rw [hfl]; exact hk
    rw [List.getElem?_map, List.getElem?_eq_getElem hkl, ← getD_of_lt fq k hkl, hy]
    rfl
  have HY := Lib.hid hy'
  have HL := Lib.hid hl
  have HFL := Lib.hid hfl
  have HT := Lib.hid hT
  have hkn : (k : Int) < (F : Int) := by omega
  have hc1 : ((c : Int) == 0) = false := by simp; omega
  have her2 : (er != 0) = true := by simpa using her
  clear hT hb hl hfl hfb hy hy' hv hsp
  go_enter Tryd.func6, Tryd.ntmps6
  go_wp2_with (first
    | (go_at_call 8; (with_reducible refine (HP _ ha HT.out).mono ?_); rintro e1 w1 ⟨a1, c1, rfl, ho1, hb1⟩; have ha1 := ha.below' hb1; have HT1 := Lib.hid (HT.out.below hb1); have hr1 := ho1.reads; have hx1 := ho1.2.2.2.1; have hy1 := ho1.2.2.2.2.1; have hz1 := ho1.nil0; clear ho1)
    | (go_at_call 13; (with_reducible refine (HO _ _ _ hr1 hx1 hy1 HT1.out).mono ?_); rintro e2 w2 ⟨a2, c2, rfl, ho2, hb2⟩; have ha2 := ha1.below' hb2; have HT2 := Lib.hid (HT1.out.below hb2); have hr2 := hr1.below' hb2; have hb02 := hb1.trans (hb2.mono hb1.size); clear hb1 hb2 HT1)
    | (go_at_call 9; (with_reducible refine (sameO q n0 HL.out a2 a0 _ _ w2 ho2.reads ha2 (by unfold maxLen; omega)).mono ?_); rintro e w' ⟨rfl, d1, rfl⟩; have hb03 := below_drewN hb02 d1; have hr3 := hr2.drewN d1; have HT3 := Lib.hid (HT2.out.below (below_drewN (Below.refl w2.heap.size w2) d1)); clear ho2 hb02 HT2 hr2 ha2)
    | (at_builtin; refine wpList_append_lit rfl (.tmp 53) (.tmp 54) 22 rfl 5 i0 (.int .u8 0) 1 Tryd.underlying22 hi hz0 hz1' hz2 rfl rfl hr3 rfl (by rw [List.length_map, HFL.out]) hz1 (bytes_one fq .u8) (by unfold maxLen; omega) (by omega) ?_; intro a4 c4 w4 ho4 hb4))
  obtain ⟨g, rfl, hg1, hg2⟩ := ho4.head (by omega)
  have hcl := ho4.1.cellAt k (by omega)
  rw [HY.out] at hcl
  have hf1 := ho4.1.frozenAt k
  have hown := ho4.1
  have hcap := ho4.2.2.2
  clear ho4
  unfold Oper.upon
  simp [go_sem, hkn]
  have s1 := (hown.stored k (.int .u8 (v : Int))).1
  have hb5 : Below w.heap.size w (w4.setCell ⟨g, k, none⟩ (.int .u8 (v : Int))) := (hb03.trans (hb4.mono hb03.size)).setCell (Nat.le_trans hb03.size hg1) _
  rw [HLS.out] at s1
  obtain ⟨_, _, es, hrc, -⟩ := owns_open s1
  cases es
  have HT5 := Lib.hid (HT.out.below hb5)
  have hx4 := hcap.1
  have hy4 := hcap.2.1
  clear s1 hb4 hown hcap
  go_wp2_with (first
    | (go_at_call 13; (with_reducible refine (HX _ _ _ hrc hx4 hy4 HT5.out).mono ?_); rintro e6 w6 ⟨a6, c6, rfl, ho6, hb6⟩; have hb06 := hb5.trans (hb6.mono hb5.size); have HT6 := Lib.hid (HT5.out.below hb6))
    | (go_at_call 7; (with_reducible refine (awake04C _ HT6.out).mono ?_); rintro e w7 ⟨rfl, hb7⟩))
  go_ret
  exact ⟨rfl, hb06.trans (hb7.mono hb06.size)⟩

theorem frameSpoilt_walk (a0 : Option Addr) (n0 c0 : Nat) (z0 : List Int) (k c : Int) (w : World) (w0 : IsRow .u8 w a0 n0 c0 z0) (w1 : (Lit.int .i64 k).wf = true) (w2 : (Lit.int .u8 c).wf = true) (hT : CTab w) :
    Calls Tryd.prog 6 #[.slice a0 n0 c0, .int .i64 k, .int .u8 c] w fun e w' => e = .returned (.bool true) ∧ Below w.heap.size w w' := by
  have hk := wfI64 w1
  have hc := wfU8 w2
  obtain ⟨h1, h2, _⟩ := isRow_reads w0
  by_cases c1 : 1000 < n0
  · exact frameSpoilt_long a0 n0 c0 k c w hT c1
  · by_cases c2 : k < 0 ∨ (frameLen n0 : Int) ≤ k ∨ c = 0
    · exact frameSpoilt_out _ a0 n0 c0 k c w hT (by omega) h2 h1 (isRow_bytes w0) (isRow_nil w0) hk hc c2
    · obtain ⟨K, rfl⟩ := Int.eq_ofNat_of_zero_le (show 0 ≤ k by omega)
      obtain ⟨C, rfl⟩ := Int.eq_ofNat_of_zero_le hc.1
      exact frameSpoilt_in _ a0 n0 c0 K C w hT (by omega) h2 h1 (isRow_bytes w0) (isRow_nil w0) (by omega) (by omega) (by omega)

end Go.Proofs.YtjjnehlghpdneaaDoor
