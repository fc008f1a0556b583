/- Contracts of layer 4's functions and of its reference: a body's frame is put behind bytes. -/
import Derived.Test.YtjjnehlghpdneaaDoorFrame
namespace Go.Proofs.YtjjnehlghpdneaaDoor
open Go.RowKit
set_option linter.unusedVariables false

/-- A row of the call's own, and no error. -/
def PutIs (row : List Value) (n : Nat) (w : World) (en : Ending) (w' : World) : Prop :=
  ∃ (A : Option Addr) (C : Nat), en = .returned (.tuple #[.slice A n C, .int .i64 0]) ∧ Owned w.heap.size 5 A n C row w' ∧ Below w.heap.size w w'

theorem room4 (s : Nat) (h : s < 4294967296) : roomI (s : Int) (8 * ((4 : Nat) : Int)) = true := by
  unfold roomI
  have : (s : Int) < ((2 ^ ((8 * ((4 : Nat) : Int))).toNat : Nat) : Int) := by
    rw [show (8 * ((4 : Nat) : Int)).toNat = 32 by omega]
    omega
  simp only [decide_eq_true this, Bool.or_true]

set_option maxRecDepth 100000 in
theorem putFC (l q : List Int) (n m : Nat) (a b : Option Addr) (c d : Nat) (w : World) (hl : l.length = n) (hq : q.length = m) (ha : Reads w a (l.map (Value.int .u8))) (hc : a = none → c = 0) (hr : Reads w b (q.map (Value.int .u8))) (hd : b = none → d = 0)
    (hb : IsBytes q) (hn : n ≤ 1000000000000) (hm : m ≤ 1048576) (hT : CTab w) :
    Calls Tryd.prog 8 #[.slice a n c, .slice b m d] w (PutIs ((l ++ frameOf q).map (Value.int .u8)) (n + frameLen m) w) := by
  obtain ⟨i0, hi, hz0, hz1, hz2⟩ := info_parts info8
  have hs32 := cSum_lt q
  have H1 := fun w ha hT => sumC q m b d w hq ha hb (by unfold maxLen; omega) hT
  have H2 : ∀ w, Calls Tryd.prog 18 #[.int .u64 (cSum q : Int), .int .i64 4] w (GivesBytes (lowBytes (cSum q : Int) 4) 0 w) := fun w => bytesYes (cSum q : Int) 4 w (by omega) (by omega) (by omega) (by omega) (room4 _ hs32)
  have HS := fun w => fSizeC m w hm
  have H3 := fun w => putO [] (short m) 0 (short m).length none 0 m w rfl rfl rfl (Reads.nil _ _) (fun _ => rfl) (by omega) (by omega)
  have hten := short_ten m (by omega)
  have hF : frameLen m = (short m).length + m + 4 := rfl
  have hrow : (l ++ frameOf q).map (Value.int .u8) = ((l.map (Value.int .u8) ++ ([] ++ short m).map (Value.int .u8)) ++ q.map (Value.int .u8)) ++ (lowBytes (cSum q : Int) 4).map (Value.int .u8) := by
    unfold frameOf
    rw [hq, List.nil_append, List.map_append, List.map_append, List.map_append, List.append_assoc, List.append_assoc]
  rw [hrow]
  unfold SumIs at H1
  unfold GivesBytes at H2
  rw [lowBytes_length] at H2
  have hk4 := lowBytes_length (cSum q : Int) 4
  generalize lowBytes (cSum q : Int) 4 = low at H2 hk4 ⊢
  generalize cSum q = s at H1 H2 hs32
  generalize hsh : ([] ++ short m : List Int) = sh at H3 ⊢
  have hshl : sh.length = (short m).length := by rw [← hsh, List.nil_append]
  generalize (short m).length = L at H3 hten hF hshl
  generalize frameLen m = F at HS hF ⊢
  generalize hrow2 : ((l.map (Value.int .u8) ++ sh.map (Value.int .u8)) ++ q.map (Value.int .u8)) ++ low.map (Value.int .u8) = row
  generalize hN : n + F = N
  have HR := Lib.hid hrow2
  have HN := Lib.hid hN
  have hN2 : N = n + L + m + 4 := by omega
  have HL := Lib.hid hl
  have HQ := Lib.hid hq
  have HK := Lib.hid hk4
  have HSH := Lib.hid hshl
  have HT := Lib.hid hT
  clear hl hq hk4 hshl hT hsh hrow hrow2 hN
  go_enter Tryd.func8, Tryd.ntmps8
  go_wp2_with (first
    | (go_at_call 19; (with_reducible refine (H1 _ hr HT.out).mono ?_); rintro e w1 ⟨rfl, hb1⟩)
    | (go_at_call 18; (with_reducible refine (H2 _).mono ?_); rintro e w2 ⟨g2, C2, rfl, hown2, hb2⟩; obtain ⟨_, _, e2, ho2⟩ := Owned.of hown2; cases e2; have hlow := ho2.reads; clear hown2 ho2)
    | (go_at_call 11; (with_reducible refine (HS _).mono ?_); rintro e w' ⟨rfl, rfl⟩)
    | (at_make; refine wpList_make_own _ rfl _ _ 22 rfl w2.heap.size 5 i0 (.int .u8 0) 1 Tryd.underlying22 hi hz0 hz1 .i64 .i64 ((n : Int) + ((L : Int) + (m : Int) + 4)) (n + (L + m + 4)) rfl rfl (by push_cast; rfl) (by rw [hz2]; omega) (by unfold maxLen; omega) (Nat.le_refl _) ?_; intro w3 hown3 hgrow3; have hb3 : Below w2.heap.size w2 w3 := (Below.refl _ _).grown hgrow3 (Nat.le_refl _) (by intro k hk; cases hk); have hr3 := ((ha.below' hb1).below' hb2).below' hb3; obtain ⟨_, _, e3, ho3⟩ := Owned.of hown3; cases e3; clear hown3 hgrow3)
    | (at_builtin; refine wpList_append_to rfl (.tmp 29) (.tmp 30) 22 rfl 5 i0 (.int .u8 0) 1 Tryd.underlying22 hi hz0 hz1 hz2 rfl ho3 rfl hr3 rfl (by rw [List.length_map, HL.out]) hc (bytes_one l .u8) n (Nat.zero_add n) (by unfold maxLen; omega) (by omega) hb3.size ?_; intro a4 c4 w4 ho4 hb4; rw [List.nil_append] at ho4; clear ho3)
    | (go_at_call 20; (with_reducible refine (H3 _).mono ?_); rintro e w5 ⟨a5, c5, rfl, ho5, hb5⟩; have hb4b := hb3.trans hb4; clear hb3 hb4)
    | (at_builtin; refine wpList_append_to rfl (.tmp 32) (.tmp 36) 22 rfl 5 i0 (.int .u8 0) 1 Tryd.underlying22 hi hz0 hz1 hz2 rfl (ho4.below hb5 (Nat.le_refl _)) rfl ho5.reads rfl (by rw [List.length_map, HSH.out]) ho5.nil0 (bytes_one sh .u8) (n + L) rfl (by unfold maxLen; omega) (by omega) (Nat.le_trans hb4b.size hb5.size) ?_; intro a6 c6 w6 ho6 hb6; have hb26 := hb4b.trans ((hb5.mono hb4b.size).trans hb6); have hr6 := ((hr.below' hb1).below' hb2).below' hb26; clear ho4 ho5 hb4b hb5 hb6)
    | (at_builtin; refine wpList_append_to rfl (.tmp 38) (.tmp 39) 22 rfl 5 i0 (.int .u8 0) 1 Tryd.underlying22 hi hz0 hz1 hz2 rfl ho6 rfl hr6 rfl (by rw [List.length_map, HQ.out]) hd (bytes_one q .u8) (n + L + m) rfl (by unfold maxLen; omega) (by omega) hb26.size ?_; intro a7 c7 w7 ho7 hb7; have hb27 := hb26.trans hb7; clear ho6 hb26 hb7)
    | (at_builtin; refine wpList_append_to rfl (.tmp 41) (.tmp 42) 22 rfl 5 i0 (.int .u8 0) 1 Tryd.underlying22 hi hz0 hz1 hz2 rfl ho7 rfl (hlow.below' hb27) rfl (by rw [List.length_map, HK.out]) (fun h => by cases h) (bytes_one low .u8) (n + L + m + 4) rfl (by unfold maxLen; omega) (by omega) hb27.size ?_; intro a8 c8 w8 ho8 hb8; rw [HR.out] at ho8; have hb28 := hb27.trans hb8))
  go_ret2
  refine ⟨a8, c8, by rw [hN2]; rfl, ?_, hb1.trans ((hb2.mono hb1.size).trans (hb28.mono (Nat.le_trans hb1.size hb2.size)))⟩
  rw [hN2]
  exact ho8.base (Nat.le_trans hb1.size hb2.size)

set_option maxRecDepth 100000 in
theorem refPutFC (q : List Int) (m : Nat) (b : Option Addr) (d : Nat) (w : World) (hq : q.length = m) (hr : Reads w b (q.map (Value.int .u8))) (hd : b = none → d = 0)
    (hb : IsBytes q) (hm : m ≤ 1048576) :
    Calls Tryd.prog 10 #[.slice b m d] w (GivesOwned 5 ((frameOf q).map (Value.int .u8)) (frameLen m) w) := by
  obtain ⟨i0, hi, hz0, hz1, hz2⟩ := info_parts info8
  have hs32 := cSum_lt q
  have H1 := fun w ha => refSumC q m b d w hq ha hb (by unfold maxLen; omega)
  have H2 : ∀ w, Calls Tryd.prog 22 #[.int .u64 (cSum q : Int), .int .i64 4] w (GivesOwned 5 ((lowBytes (cSum q : Int) 4).map (Value.int .u8)) 4 w) := fun w => (refBytesC (cSum q : Int) 4 w (by omega) (by omega) (by omega)).mono fun e w' h => h.owned 4 (lowBytes_length _ _)
  have H3 := fun w => refPutO (short m) m (short m).length w rfl rfl (by omega)
  have hten := short_ten m (by omega)
  have hF : frameLen m = (short m).length + m + 4 := rfl
  have hrow : (frameOf q).map (Value.int .u8) = ((short m).map (Value.int .u8) ++ q.map (Value.int .u8)) ++ (lowBytes (cSum q : Int) 4).map (Value.int .u8) := by
    unfold frameOf
    rw [hq, List.map_append, List.map_append, List.append_assoc]
  rw [hrow]
  have hk4 := lowBytes_length (cSum q : Int) 4
  generalize lowBytes (cSum q : Int) 4 = low at H2 hk4 ⊢
  generalize cSum q = s at H1 H2 hs32
  have hshl : (short m).length = (short m).length := rfl
  generalize hsh : short m = sh at H3 hten hF hshl ⊢
  generalize sh.length = L at H3 hten hF hshl
  rw [hF]
  generalize hrow2 : (sh.map (Value.int .u8) ++ q.map (Value.int .u8)) ++ low.map (Value.int .u8) = row
  have HR := Lib.hid hrow2
  have HQ := Lib.hid hq
  have HK := Lib.hid hk4
  clear hq hk4 hshl hsh hrow hrow2
  go_enter Tryd.func10, Tryd.ntmps10
  go_wp2_with (first
    | (go_at_call 21; (with_reducible refine (H3 _).mono ?_); rintro e w1 ⟨a1, c1, rfl, ho1, hb1⟩)
    | (at_builtin; refine wpList_append_to rfl (.tmp 8) (.tmp 9) 22 rfl 5 i0 (.int .u8 0) 1 Tryd.underlying22 hi hz0 hz1 hz2 rfl ho1 rfl (hr.below' hb1) rfl (by rw [List.length_map, HQ.out]) hd (bytes_one q .u8) (L + m) rfl (by unfold maxLen; omega) (by omega) hb1.size ?_; intro a2 c2 w2 ho2 hb2; have hb02 := hb1.trans hb2; have hr2 := hr.below' hb02; clear ho1 hb1 hb2)
    | (go_at_call 23; (with_reducible refine (H1 _ hr2).mono ?_); rintro e w' ⟨rfl, rfl⟩)
    | (go_at_call 22; (with_reducible refine (H2 _).mono ?_); rintro e w3 ⟨a3, c3, rfl, ho3, hb3⟩)
    | (at_builtin; refine wpList_append_to rfl (.tmp 11) (.tmp 15) 22 rfl 5 i0 (.int .u8 0) 1 Tryd.underlying22 hi hz0 hz1 hz2 rfl (ho2.below hb3 (Nat.le_refl _)) rfl ho3.reads rfl (by rw [List.length_map, HK.out]) ho3.nil0 (bytes_one low .u8) (L + m + 4) rfl (by unfold maxLen; omega) (by omega) (Nat.le_trans hb02.size hb3.size) ?_; intro a4 c4 w4 ho4 hb4; rw [HR.out] at ho4; have hb04 := hb02.trans ((hb3.mono hb02.size).trans hb4)))
  go_ret
  exact ⟨a4, c4, rfl, ho4, hb04⟩
end Go.Proofs.YtjjnehlghpdneaaDoor
