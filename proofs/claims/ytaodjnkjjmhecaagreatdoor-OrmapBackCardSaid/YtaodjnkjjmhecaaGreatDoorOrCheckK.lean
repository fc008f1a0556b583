/- Contracts and plain words that the laws' proofs stand on. -/
import Derived.Test.YtaodjnkjjmhecaaGreatDoorOrApply
import Derived.Test.YtaodjnkjjmhecaaGreatDoorLibAC
namespace Go.Proofs.YtaodjnkjjmhecaaGreatDoor
open Go.RowKit
set_option linter.unusedVariables false
def keptZ (c : List DotN) : DotN → List EventN → Int
  | _, [] => 0
  | z, e :: t => if rightE e = false then 1 else if lessD z e.dot = false then 6 else if hasV c e.dot = false then 4 else keptZ c e.dot t
theorem keptZ_some (c : List DotN) : ∀ (L : List EventN) (z : DotN), keptF c (some z) L = keptZ c z L
  | [], z => rfl
  | e :: t, z => by
    unfold keptF keptZ
    rw [keptZ_some c t e.dot, Option.map_some]
    cases lessD z e.dot <;> simp
theorem keptZ_none (c : List DotN) (L : List EventN) : keptF c none L = keptZ c ⟨0, 0, 0⟩ L := by
  cases L with
  | nil => rfl
  | cons e t =>
    unfold keptF keptZ
    rw [keptZ_some c t e.dot]
    cases hr : rightE e with
    | false => rfl
    | true =>
      rw [zero_less (right_dotE hr)]
      simp
theorem keptZ_drop {c : List DotN} {z : DotN} {L : List EventN} {k : Nat} {e : EventN} (h : L[k]? = some e) : keptZ c z (L.drop k) = if rightE e = false then 1 else if lessD z e.dot = false then 6 else if hasV c e.dot = false then 4 else keptZ c e.dot (L.drop (k + 1)) := by
  obtain ⟨hk, rfl⟩ := List.getElem?_eq_some_iff.1 h
  rw [List.drop_eq_getElem_cons hk]
  rfl
set_option maxHeartbeats 8000000 in
set_option maxRecDepth 100000 in
theorem checkKeptC {v : Value} {m2 : Option Nat} {F : Nat → Prop} {V : List DotN} (a : Option Addr) (n c : Nat) (P : List EvR) (w : World) (hV : ArgV w v m2 F V) (hL : RowOf encE 19 w a n c P) (hO : OversAt w P) (hl : ∀ r ∈ P, lightE r.e = true) (hTb : OTb w) :
    Calls Tryz.prog 97 #[v, .slice a n c] w fun e w' => e = .returned (.int .i64 (keptF V none (P.map (·.e)))) ∧ Below w.heap.size w w' := by
  rw [keptZ_none]
  obtain ⟨L, hLe⟩ : ∃ L, P.map (·.e) = L := ⟨_, rfl⟩
  rw [hLe]
  have hcm := hL.capm
  have hcl := hL.cle
  have hleq : L.length = n := by rw [← hLe, List.length_map]; exact hL.leq
  have hat : ∀ (k : Nat) (r : EvR), P[k]? = some r → L[k]? = some r.e := fun k r h => by rw [← hLe, List.getElem?_map, h]; rfl
  unfold maxLen at hcm
  obtain ⟨G, hG⟩ : ∃ G, keptZ V ⟨0, 0, 0⟩ L = G := ⟨_, rfl⟩
  rw [hG]
  have E0 : Hid (G = keptZ V ⟨0, 0, 0⟩ (L.drop 0)) := by unfold Hid; rw [List.drop_zero, hG]
  clear hG
  have o0 := ObjAt.new w #[.int .i64 0, .int .i64 0, .int .i64 0] 35
  have b0 := below_alloc w (.cells #[.int .i64 0, .int .i64 0, .int .i64 0] 35)
  obtain ⟨b3, hb3⟩ : ∃ x, w.heap.size = x := ⟨_, rfl⟩
  rw [hb3] at o0
  generalize hw0 : w.alloc (.cells #[.int .i64 0, .int .i64 0, .int .i64 0] 35) = w0 at *
  have HL := Lib.hid hL
  have Hn := Lib.hid hleq
  have Hat := Lib.hid hat
  obtain ⟨Z, hZ⟩ : ∃ Z, (#[.int .i64 0, .int .i64 0, .int .i64 0, .int .i64 0, .int .i64 0, .int .i64 0, .int .i64 0, .string ⟨#[]⟩, .string ⟨#[]⟩, .string ⟨#[]⟩, .string ⟨#[]⟩, .bool false, .bool false, .bool false, .bool false, .int .i64 0, .int .i64 0, .int .i64 0, .slice none 0 0] : Array Value) = Z := ⟨_, rfl⟩
  have zZ : Z.size = 19 := by rw [← hZ]; rfl
  clear hL hleq hLe hat
  go_enter Tryz.func97, Tryz.ntmps97
  go_wp2
  go_loopw [10] (fun i wr => ∃ (k : Nat) (z : DotN), k ≤ n ∧ i = .int .i64 (k : Int) ∧ Hid (G = keptZ V z (L.drop k)) ∧ ObjAt wr b3 (encD z) ∧ Below w.heap.size w wr) (fun i _ => n - (intOf i).toNat)
  case atStart => exact ⟨0, ⟨0, 0, 0⟩, Nat.zero_le _, rfl, E0, o0, b0⟩
  case round =>
    clear b0 E0 o0
    obtain ⟨k, z, hk, rfl, hs, oz, hb⟩ := hrel
    by_cases hlt : k < n
    · have hlt' : (k : Int) < (n : Int) := by omega
      have g1' : decide ((k : Int) < (n : Int)) = true := decide_eq_true hlt'
      have i1 : (0 : Int) ≤ (k : Int) := by omega
      obtain ⟨r, g, off, A, hk1, rfl, hA, zA, lA, cA, kA⟩ := evr_at (HL.out.below hb) k hlt
      have hmem := List.mem_of_getElem? hk1
      have hy := Hat.out k r hk1
      have hd := keptZ_drop (c := V) (z := z) hy
      have honeA : A.all (·.oneCell') = true := by rw [← hA]; exact encO_one (some r)
      have o1 := ObjAt.new wr A 43
      have b1 := below_alloc wr (.cells A 43)
      have hb1 := hb.trans (b1.mono hb.size)
      have hlt1 := o1.lt
      have oz1 := oz.below b1 oz.lt
      have hlz := oz1.lt
      obtain ⟨bx, hbx⟩ : ∃ x, wr.heap.size = x := ⟨_, rfl⟩
      rw [hbx] at o1 hlt1
      generalize hw1 : wr.alloc (.cells A 43) = w1 at *
      have HR : ∀ x, Below w1.heap.size w1 x → Calls Tryz.prog 67 #[.agg A] x fun en w' => en = .returned (.bool (rightE r.e)) ∧ Below x.heap.size x w' := fun x hx => by
        rw [← hA]
        exact eventRightC0 r.e r.a r.e.over.length r.c x ((hO r hmem).below (hb1.trans (hx.mono hb1.size))) (hl r hmem) (hTb.below (hb1.trans (hx.mono hb1.size)))
      have HS := fun x => dotLessG z r.e.dot x
      have hA0 : A.toList[0]? = some (.int .i64 r.e.dot.dev) := by rw [lA]; rfl
      have hA1 : A.toList[1]? = some (.int .i64 r.e.dot.inc) := by rw [lA]; rfl
      have hA2 : A.toList[2]? = some (.int .i64 r.e.dot.seq) := by rw [lA]; rfl
      have hB1 := Below.refl w1.heap.size w1
      obtain ⟨y, hyd⟩ : ∃ y, r.e.dot = y := ⟨_, rfl⟩
      rw [hyd] at hd HS hA0 hA1 hA2
      clear oz kA lA
      cases hr : rightE r.e with
      | false =>
        have e : Hid (G = 1) := by unfold Hid; rw [hs.out, hd, if_pos hr]
        simp only [hr] at HR
        clear hd hs hr hy HS
        go_wp2_with (first
          | (refine wpList_loadRow rfl 43 _ rfl g (off + k * 19) 19 A rfl cA Tryz.isAgg43 Tryz.sizeOf43 zA ?_)
          | (refine wpList_storeAll rfl 43 _ _ rfl Z A 19 (by rw [hbx]; rfl) rfl (by kernel_rfl) zZ zA honeA ?_; rw [hw1])
          | (refine wpList_loadAll rfl 43 _ rfl bx 19 A rfl o1 Tryz.isAgg43 Tryz.sizeOf43 zA ?_)
          | (go_at_call 67; (with_reducible refine (HR _ (Below.refl _ _)).mono ?_); rintro e w3 ⟨rfl, hx⟩; have hB1 := hB1.trans (hx.mono hB1.size)))
        go_ret
        exact ⟨by rw [e.out]; rfl, hb1.trans (hB1.mono hb1.size)⟩
      | true =>
        simp only [hr] at HR
        rw [if_neg (by rw [hr]; exact Bool.noConfusion)] at hd
        have hfy : FitD y := hyd ▸ right_fitD (right_dotE hr)
        have HV := fun x (hx : Below w1.heap.size w1 x) => vHasA (hV.below (hb1.trans (hx.mono hb1.size))) y hfy
        cases hz : lessD z y with
        | false =>
          have e : Hid (G = 6) := by unfold Hid; rw [hs.out, hd, if_pos hz]
          simp only [hz] at HS
          clear hd hs hr hy hz HV
          go_wp2_with (first
            | (refine wpList_loadRow rfl 43 _ rfl g (off + k * 19) 19 A rfl cA Tryz.isAgg43 Tryz.sizeOf43 zA ?_)
            | (refine wpList_storeAll rfl 43 _ _ rfl Z A 19 (by rw [hbx]; rfl) rfl (by kernel_rfl) zZ zA honeA ?_; rw [hw1])
            | (refine wpList_loadAll rfl 43 _ rfl bx 19 A rfl o1 Tryz.isAgg43 Tryz.sizeOf43 zA ?_)
            | (go_at_call 67; (with_reducible refine (HR _ (Below.refl _ _)).mono ?_); rintro e w3 ⟨rfl, hx⟩; have hB1 := hB1.trans (hx.mono hB1.size); have o3 := o1.below hx hlt1; have z3 := oz1.below hx hlz; have hl3 := o3.lt; have lz3 := z3.lt; have u0 := o3.cell 0 hA0; have u1 := o3.cell 1 hA1; have u2 := o3.cell 2 hA2; have y0 := z3.cell 0 rfl; have y1 := z3.cell 1 rfl; have y2 := z3.cell 2 rfl)
            | (go_at_call 139; (with_reducible refine (HS _).mono ?_); rintro e w4 ⟨rfl, hx4⟩; have hB1 := hB1.trans (hx4.mono hB1.size)))
          go_ret
          exact ⟨by rw [e.out]; rfl, hb1.trans (hB1.mono hb1.size)⟩
        | true =>
          rw [if_neg (by rw [hz]; exact Bool.noConfusion)] at hd
          simp only [hz] at HS
          cases hh : hasV V y with
          | false =>
            have e : Hid (G = 4) := by unfold Hid; rw [hs.out, hd, if_pos hh]
            simp only [hh] at HV
            clear hd hs hr hy hz hh
            go_wp2_with (first
              | (refine wpList_loadRow rfl 43 _ rfl g (off + k * 19) 19 A rfl cA Tryz.isAgg43 Tryz.sizeOf43 zA ?_)
              | (refine wpList_storeAll rfl 43 _ _ rfl Z A 19 (by rw [hbx]; rfl) rfl (by kernel_rfl) zZ zA honeA ?_; rw [hw1])
              | (refine wpList_loadAll rfl 43 _ rfl bx 19 A rfl o1 Tryz.isAgg43 Tryz.sizeOf43 zA ?_)
              | (go_at_call 67; (with_reducible refine (HR _ (Below.refl _ _)).mono ?_); rintro e w3 ⟨rfl, hx⟩; have hB1 := hB1.trans (hx.mono hB1.size); have o3 := o1.below hx hlt1; have z3 := oz1.below hx hlz; have hl3 := o3.lt; have lz3 := z3.lt; have u0 := o3.cell 0 hA0; have u1 := o3.cell 1 hA1; have u2 := o3.cell 2 hA2; have y0 := z3.cell 0 rfl; have y1 := z3.cell 1 rfl; have y2 := z3.cell 2 rfl)
              | (go_at_call 139; (with_reducible refine (HS _).mono ?_); rintro e w4 ⟨rfl, hx4⟩; have hB1 := hB1.trans (hx4.mono hB1.size); have o4 := o3.below hx4 hl3; have z4 := z3.below hx4 lz3; have hl4 := o4.lt; have lz4 := z4.lt; have u0 := o4.cell 0 hA0; have u1 := o4.cell 1 hA1; have u2 := o4.cell 2 hA2; have y0 := z4.cell 0 rfl; have y1 := z4.cell 1 rfl; have y2 := z4.cell 2 rfl)
              | (go_at_call 85; (with_reducible refine (HV _ hB1).mono ?_); rintro e w5 ⟨rfl, hx5⟩; have hB1 := hB1.trans (hx5.mono hB1.size)))
            go_ret
            exact ⟨by rw [e.out]; rfl, hb1.trans (hB1.mono hb1.size)⟩
          | true =>
            have e : Hid (G = keptZ V y (L.drop (k + 1))) := by unfold Hid; rw [hs.out, hd, if_neg (by rw [hh]; exact Bool.noConfusion)]
            simp only [hh] at HV
            clear hd hs hr hy hz hh
            go_wp2_with (first
              | (refine wpList_loadRow rfl 43 _ rfl g (off + k * 19) 19 A rfl cA Tryz.isAgg43 Tryz.sizeOf43 zA ?_)
              | (refine wpList_storeAll rfl 43 _ _ rfl Z A 19 (by rw [hbx]; rfl) rfl (by kernel_rfl) zZ zA honeA ?_; rw [hw1])
              | (refine wpList_loadAll rfl 43 _ rfl bx 19 A rfl o1 Tryz.isAgg43 Tryz.sizeOf43 zA ?_)
              | (go_at_call 67; (with_reducible refine (HR _ (Below.refl _ _)).mono ?_); rintro e w3 ⟨rfl, hx⟩; have hB1 := hB1.trans (hx.mono hB1.size); have o3 := o1.below hx hlt1; have z3 := oz1.below hx hlz; have hl3 := o3.lt; have lz3 := z3.lt; have u0 := o3.cell 0 hA0; have u1 := o3.cell 1 hA1; have u2 := o3.cell 2 hA2; have y0 := z3.cell 0 rfl; have y1 := z3.cell 1 rfl; have y2 := z3.cell 2 rfl)
              | (go_at_call 139; (with_reducible refine (HS _).mono ?_); rintro e w4 ⟨rfl, hx4⟩; have hB1 := hB1.trans (hx4.mono hB1.size); have o4 := o3.below hx4 hl3; have z4 := z3.below hx4 lz3; have hl4 := o4.lt; have lz4 := z4.lt; have u0 := o4.cell 0 hA0; have u1 := o4.cell 1 hA1; have u2 := o4.cell 2 hA2; have y0 := z4.cell 0 rfl; have y1 := z4.cell 1 rfl; have y2 := z4.cell 2 rfl)
              | (go_at_call 85; (with_reducible refine (HV _ hB1).mono ?_); rintro e w5 ⟨rfl, hx5⟩; have hB1 := hB1.trans (hx5.mono hB1.size); have o5 := o4.below hx5 hl4; have z5 := z4.below hx5 lz4; have u0 := o5.cell 0 hA0; have u1 := o5.cell 1 hA1; have u2 := o5.cell 2 hA2; have y0 := z5.cell 0 rfl; have y1 := z5.cell 1 rfl; have y2 := z5.cell 2 rfl; have f0 := z5.free 0; have f1 := z5.free 1; have f2 := z5.free 2))
            go_roundw
            case rel => exact ⟨k + 1, y, by omega, by go_num, e, ((z5.set 0 _).set 1 _).set 2 _, (((hb1.trans (hB1.mono hb1.size)).setCell (p := ⟨b3, 0, none⟩) (Nat.le_of_eq hb3) _).setCell (p := ⟨b3, 1, none⟩) (Nat.le_of_eq hb3) _).setCell (p := ⟨b3, 2, none⟩) (Nat.le_of_eq hb3) _⟩
            case measure => simp [intOf]; omega
    · obtain rfl : k = n := by omega
      have e : Hid (G = 0) := by unfold Hid; rw [hs.out, List.drop_eq_nil_of_le (by rw [Hn.out]; exact Nat.le_refl _)]; rfl
      go_wp2
      go_ret
      exact ⟨by rw [e.out]; rfl, hb⟩
end Go.Proofs.YtaodjnkjjmhecaaGreatDoor
