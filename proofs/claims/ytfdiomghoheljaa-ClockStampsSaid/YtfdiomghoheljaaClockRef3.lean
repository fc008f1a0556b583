/- Contracts of the reference of layer 19: a stamp, packed. -/
import Derived.Test.YtfdiomghoheljaaClockRef2
import Derived.Test.YtfdiomghoheljaaVarLaw
namespace Go.Proofs.Ytfdiomghoheljaa
open Go.RowKit
set_option linter.unusedVariables false

set_option maxRecDepth 100000 in
theorem refTPutC (x : StampN) (n : Nat) (w : World) (hx : rightT x = true) (hn : (bytesT x).length = n) :
    Calls Try.prog 26 #[valT x] w (GivesOwned 5 ((bytesT x).map (Value.int .u8)) n w) := by
  obtain ⟨i0, hi, hz0, hz1, hz2⟩ := info_parts info8
  obtain ⟨d0, d1, e0, e1, s0, s1⟩ := rightT_iff.1 hx
  clear hx
  obtain ⟨dev, inc, seq⟩ := x
  dsimp only at *
  obtain ⟨D, rfl⟩ := Int.eq_ofNat_of_zero_le d0
  obtain ⟨I, rfl⟩ := Int.eq_ofNat_of_zero_le (show 0 ≤ inc by omega)
  obtain ⟨S, rfl⟩ := Int.eq_ofNat_of_zero_le (show 0 ≤ seq by omega)
  have o1 := ObjAt.new w #[.int .i64 (D : Int), .int .i64 (I : Int), .int .i64 (S : Int)] 29
  have b1 := below_alloc w (.cells #[.int .i64 (D : Int), .int .i64 (I : Int), .int .i64 (S : Int)] 29)
  have hs1 : w.heap.size < (w.alloc (.cells #[.int .i64 (D : Int), .int .i64 (I : Int), .int .i64 (S : Int)] 29)).heap.size := by simp
  have u0 := o1.cell 0 rfl; have u1 := o1.cell 1 rfl; have u2 := o1.cell 2 rfl
  have l1 := short_ten D (by omega)
  have l2 := short_ten I (by omega)
  have l3 := short_ten S (by omega)
  unfold valT
  unfold bytesT at *
  dsimp only at *
  rw [Int.toNat_natCast, Int.toNat_natCast, Int.toNat_natCast] at *
  rw [List.length_append, List.length_append] at hn
  have H1 := fun w => refNumC (short D) D (short D).length w rfl rfl (by omega)
  have H2 := fun w => refNumC (short I) I (short I).length w rfl rfl (by omega)
  have H3 := fun w => refNumC (short S) S (short S).length w rfl rfl (by omega)
  rw [List.map_append, List.map_append, ← List.append_assoc]
  obtain ⟨m1, h1⟩ : ∃ m, (short D).length = m := ⟨_, rfl⟩
  obtain ⟨m2, h2⟩ : ∃ m, (short I).length = m := ⟨_, rfl⟩
  obtain ⟨m3, h3⟩ : ∃ m, (short S).length = m := ⟨_, rfl⟩
  rw [h1, h2, h3] at hn
  rw [h1] at H1 l1
  rw [h2] at H2 l2
  rw [h3] at H3 l3
  generalize short D = y1 at *
  generalize short I = y2 at *
  generalize short S = y3 at *
  have L2 := Lib.hid h2
  have L3 := Lib.hid h3
  have hn12 : m1 + m2 + m3 = n := by omega
  clear h1 h2 h3 hn
  have c1 : ((D : Nat) : Int) < 18446744073709551616 := by omega
  have c2 : ((I : Nat) : Int) < 18446744073709551616 := by omega
  have c3 : ((S : Nat) : Int) < 18446744073709551616 := by omega
  go_enter Try.func26, Try.ntmps26
  go_wp2_with (first
    | (go_at_call 43; (with_reducible refine (H1 _).mono ?_); rintro e w2 ⟨a2, c2, rfl, ho2, hx2⟩; have b2 := b1.trans (hx2.mono b1.size); have o2 := o1.below hx2 o1.lt; have v0 := o2.cell 0 rfl; have v1 := o2.cell 1 rfl; have v2 := o2.cell 2 rfl)
    | (go_at_call 43; (with_reducible refine (H2 _).mono ?_); rintro e w3 ⟨a3, c3, rfl, ho3, hx3⟩; have b3 := b2.trans (hx3.mono b2.size); have ho23 := (ho2.base b1.size).below hx3 (Nat.le_refl _); have o3 := o2.below hx3 o2.lt)
    | (at_builtin; refine wpList_append_where rfl (.tmp 8) (.tmp 12) 47 rfl 5 i0 (.int .u8 0) 1 Try.underlying47 hi hz0 hz1 hz2 rfl ho23 rfl ho3.reads rfl (by rw [List.length_map, L2.out]) ho3.nil0 (bytes_one y2 .u8) (m1 + m2) rfl (by unfold maxLen; omega) (by omega) b3.size ?_; intro a4 c4 w4 ho4 hx4 hg4 hn4; have b4 := b3.trans hx4; have o4 := o3.keeps (Keeps.ofGrown hx4 hg4) (fun hk => absurd ((ho2.at' _ hk).1) (Nat.not_le.2 hs1)); have v0 := o4.cell 0 rfl; have v1 := o4.cell 1 rfl; have v2 := o4.cell 2 rfl)
    | (go_at_call 43; (with_reducible refine (H3 _).mono ?_); rintro e w5 ⟨a5, c5, rfl, ho5, hx5⟩; have b5 := b4.trans (hx5.mono b4.size); have ho45 := ho4.below hx5 (Nat.le_refl _))
    | (at_builtin; refine wpList_append_where rfl (.tmp 14) (.tmp 18) 47 rfl 5 i0 (.int .u8 0) 1 Try.underlying47 hi hz0 hz1 hz2 rfl ho45 rfl ho5.reads rfl (by rw [List.length_map, L3.out]) ho5.nil0 (bytes_one y3 .u8) n hn12 (by unfold maxLen; omega) (by omega) b5.size ?_; intro a6 c6 w6 ho6 hx6 hg6 hn6))
  go_ret
  exact ⟨a6, c6, rfl, ho6, b5.trans hx6⟩
end Go.Proofs.Ytfdiomghoheljaa
